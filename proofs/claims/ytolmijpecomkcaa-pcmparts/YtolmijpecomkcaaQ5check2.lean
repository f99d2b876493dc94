/- Own text: the walk of the program's Check. -/
import Derived.Test.YtolmijpecomkcaaQ5check
namespace Go.Proofs.Ytolmijpecomkcaa
open Go.RowKit
set_option linter.unusedSimpArgs false
set_option linter.unusedVariables false

theorem len_of (p : Pcm) {w : World} {ao : Option Addr} (hr : RowsAt w ao p.pl) : lenP p ≤ 17592186044415 := by
  by_cases h0 : 0 < p.pl.length
  · obtain ⟨_, _, _, _, _, h1, _, _⟩ := hr.at 0 h0
    exact h1
  · unfold lenP
    rw [List.getD_eq_getElem?_getD, List.getElem?_eq_none (by omega)]
    exact Nat.zero_le _

set_option maxRecDepth 20000 in
set_option maxHeartbeats 3200000 in
theorem check_no (p : Pcm) (ao : Option Addr) (cap : Nat) (w : World) (hr : RowsAt w ao p.pl) (hh : (mayB p.rate p.ch p.wd && evenB p) = false) :
    Calls Try.prog 8 #[pcmV p ao cap] w fun e w' => e = .returned (.int .i64 50) ∧ Below w.heap.size w w' := by
  have hl := hr.len
  have km := mayBe_spec p.rate p.ch p.wd
  have KE : Hid (∀ wx, Hid (Bx w p ao cap wx) → Calls Try.prog 25 #[pcmV p ao cap] wx fun e w' => e = .returned (.bool (evenB p)) ∧ Hid (Bx w p ao cap w')) := fun wx hx =>
    (isEven_spec p ao cap wx (hr.below hx.out.below) (len_of p hr)).mono fun e w' h => ⟨h.1, hx.out.next h.2⟩
  have HB0 : Hid (Bx w p ao cap (w.alloc (.cells (pcmC p ao cap) 24))) := Bx.new w p ao cap
  have d0 := HB0.out.c0
  have d1 := HB0.out.c1
  have d2 := HB0.out.c2
  have d3 := HB0.out.c3
  have ke := KE.out _ HB0
  clear hr KE
  cases hm : mayB p.rate p.ch p.wd with
  | false =>
    rw [hm] at km
    clear hh hm ke
    go_enter Try.func8, Try.ntmps8
    go_wp2_with fail
    refine (km _).mono ?_
    rintro e w4 ⟨rfl, rfl⟩
    go_wp2_with fail
    go_ret
    exact ⟨rfl, HB0.out.below⟩
  | true =>
    have he : evenB p = false := by
      rw [hm] at hh
      exact hh
    rw [hm] at km
    rw [he] at ke
    clear hh hm he
    go_enter Try.func8, Try.ntmps8
    go_wp2_with fail
    refine (km _).mono ?_
    rintro e w4 ⟨rfl, rfl⟩
    go_wp2_with fail
    refine ke.mono ?_
    rintro e w4 ⟨rfl, h4⟩
    go_wp2_with fail
    go_ret
    exact ⟨rfl, h4.out.below⟩

set_option maxRecDepth 20000 in
set_option maxHeartbeats 3200000 in
theorem check_yes (p : Pcm) (ao : Option Addr) (cap : Nat) (w : World) (hr : RowsAt w ao p.pl) (hh : (mayB p.rate p.ch p.wd && evenB p) = true) :
    Calls Try.prog 8 #[pcmV p ao cap] w fun e w' => e = .returned (.int .i64 (checkN p)) ∧ Below w.heap.size w w' := by
  have hl := hr.len
  have hll := len_of p hr
  have HH : Hid ((mayB p.rate p.ch p.wd && evenB p) = true) := hh
  rw [Bool.and_eq_true] at hh
  obtain ⟨hm, he⟩ := hh
  have hmb := of_decide_eq_true hm
  have hpl := (row_len p he).1
  obtain ⟨b, off, rfl, _⟩ := hr.lies (by omega)
  have km := mayBe_spec p.rate p.ch p.wd
  rw [hm] at km
  have KE : Hid (∀ wx, Hid (Bx w p (some ⟨b, off, none⟩) cap wx) → Calls Try.prog 25 #[pcmV p (some ⟨b, off, none⟩) cap] wx fun e w' => e = .returned (.bool true) ∧ Hid (Bx w p (some ⟨b, off, none⟩) cap w')) := fun wx hx =>
    (isEven_spec p _ cap wx (hr.below hx.out.below) (len_of p hr)).mono fun e w' h => ⟨by rw [h.1, he], hx.out.next h.2⟩
  have KL : Hid (∀ wx, Hid (Bx w p (some ⟨b, off, none⟩) cap wx) → Calls Try.prog 12 #[pcmV p (some ⟨b, off, none⟩) cap] wx fun e w' => e = .returned (.int .i64 (lenP p : Int)) ∧ Hid (Bx w p (some ⟨b, off, none⟩) cap w')) := fun wx hx =>
    (len_spec p _ cap wx (hr.below hx.out.below)).mono fun e w' h => ⟨h.1, hx.out.next h.2⟩
  have HB0 : Hid (Bx w p (some ⟨b, off, none⟩) cap (w.alloc (.cells (pcmC p (some ⟨b, off, none⟩) cap) 24))) := Bx.new w p _ cap
  have d0 := HB0.out.c0
  have d1 := HB0.out.c1
  have d2 := HB0.out.c2
  have d3 := HB0.out.c3
  have ke := KE.out _ HB0
  have KT : Hid (∀ wx, Hid (Bx w p (some ⟨b, off, none⟩) cap wx) → Calls Try.prog 26 #[.slice (some ⟨b, off, none⟩) p.pl.length cap, .func (.func 27) #[] #[.pointer (some ⟨w.heap.size, 0, none⟩)]] wx fun e w' => (e = .returned (.bool true) ∧ Hid (goodTo p p.pl.length (lenP p * p.pl.length)) ∧ Hid (Bx w p (some ⟨b, off, none⟩) cap w')) ∨ (e = .returned (.bool false) ∧ Hid (badOne p) ∧ Hid (Bx w p (some ⟨b, off, none⟩) cap w'))) := fun wx hx => by
    obtain ⟨ra, rc, hT⟩ := checkTurn p b off cap w hr HH.out
    refine (inTurn_spec b off (lenP p) p.pl.length cap ra rc 27 _ _ _ (enters_of Try.func27 (by kernel_rfl) rfl) hT (by omega) (by omega) hll wx ⟨fun j l _ _ h => absurd h (Nat.not_lt_zero _), hx.out⟩).mono ?_
    rintro e w' (⟨rfl, h1, h2⟩ | ⟨rfl, h1, h2⟩)
    · exact Or.inl ⟨rfl, h1, h2⟩
    · exact Or.inr ⟨rfl, h1, h2⟩
  clear hr KE hm he hmb
  go_enter Try.func8, Try.ntmps8
  go_wp2_with fail
  refine (km _).mono ?_
  rintro e w4 ⟨rfl, rfl⟩
  clear km
  go_wp2_with fail
  refine ke.mono ?_
  rintro e w4 ⟨rfl, h4⟩
  clear ke d0 d1 d2 d3 HB0
  have d0 := h4.out.c0
  have d1 := h4.out.c1
  have d2 := h4.out.c2
  have d3 := h4.out.c3
  have kt := KT.out w4 h4
  go_wp2_with fail
  refine kt.mono ?_
  clear kt d0 d1 d2 d3
  rintro e w5 (⟨rfl, hg, h5⟩ | ⟨rfl, hg, h5⟩)
  · have d0 := h5.out.c0
    have d1 := h5.out.c1
    have d2 := h5.out.c2
    have d3 := h5.out.c3
    have kl := KL.out w5 h5
    have hcn := check_samples p HH.out (fun i k hi hk => hg.out i k hi hk (by
      have : i * p.pl.length + k < (i + 1) * p.pl.length := by rw [Nat.succ_mul]; omega
      exact Nat.lt_of_lt_of_le this (Nat.mul_le_mul_right _ hi)))
    by_cases hbig : 1048576 < lenP p
    · rw [if_pos hbig] at hcn
      have HF : Hid (checkN p = 5) := hcn
      clear hcn
      go_wp2_with fail
      refine kl.mono ?_
      rintro e w6 ⟨rfl, h6⟩
      go_wp2
      go_ret
      exact ⟨by rw [HF.out]; rfl, h6.out.below⟩
    · rw [if_neg hbig] at hcn
      have HF : Hid (checkN p = 0) := hcn
      clear hcn
      go_wp2_with fail
      refine kl.mono ?_
      rintro e w6 ⟨rfl, h6⟩
      go_wp2
      go_ret
      exact ⟨by rw [HF.out]; rfl, h6.out.below⟩
  · have HF : Hid (checkN p = 50) := by
      obtain ⟨i, k, hi, hk, hs⟩ := hg.out
      exact check_bad p HH.out i k hi hk hs
    go_wp2_with fail
    go_ret
    exact ⟨by rw [HF.out]; rfl, h5.out.below⟩

theorem check_spec (p : Pcm) (ao : Option Addr) (cap : Nat) (w : World) (hr : RowsAt w ao p.pl) :
    Calls Try.prog 8 #[pcmV p ao cap] w fun e w' => e = .returned (.int .i64 (checkN p)) ∧ Below w.heap.size w w' := by
  cases hh : (mayB p.rate p.ch p.wd && evenB p) with
  | true => exact check_yes p ao cap w hr hh
  | false =>
    rw [check_uneven p hh]
    exact check_no p ao cap w hr hh

end Go.Proofs.Ytolmijpecomkcaa
