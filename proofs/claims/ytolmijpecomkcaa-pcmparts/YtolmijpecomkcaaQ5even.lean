/- Own text: the walks of the program's isEven and of what it calls. -/
import Derived.Test.YtolmijpecomkcaaQ5head
import Derived.Test.YtolmijpecomkcaaP5check2
namespace Go.Proofs.Ytolmijpecomkcaa
open Go.RowKit
set_option linter.unusedSimpArgs false
set_option linter.unusedVariables false

def oddB (xs : List (List Int)) (n : Nat) : Bool := xs.any fun l => decide (l.length ≠ n)
theorem odd_at (xs : List (List Int)) (n i : Nat) (hi : i < xs.length) (h : (xs.getD i []).length ≠ n) : oddB xs n = true := by
  unfold oddB
  rw [List.any_eq_true]
  refine ⟨xs.getD i [], ?_, decide_eq_true h⟩
  rw [List.getD_eq_getElem?_getD, List.getElem?_eq_getElem hi]
  exact List.getElem_mem hi
theorem odd_none (xs : List (List Int)) (n : Nat) (h : ∀ i, i < xs.length → (xs.getD i []).length = n) : oddB xs n = false := by
  unfold oddB
  rw [List.any_eq_false]
  intro x hx
  obtain ⟨i, hi, rfl⟩ := List.mem_iff_getElem.1 hx
  have := h i hi
  rw [List.getD_eq_getElem?_getD, List.getElem?_eq_getElem hi] at this
  simpa using this

set_option maxRecDepth 20000 in
set_option maxHeartbeats 1600000 in
theorem oddC_spec (ao : Option Addr) (m c n B : Nat) (hm : m ≤ 17592186044415) (hn : n ≤ 17592186044415) (w : World) (hc : w.cell? ⟨B, 0, none⟩ = some (.int .i64 (n : Int))) :
    Calls Try.prog 50 #[.slice ao m c, .pointer (some ⟨B, 0, none⟩)] w fun e w' => e = .returned (.bool (decide (m ≠ n))) ∧ w' = w := by
  have hd : decide (m ≠ n) = ((m : Int) != (n : Int)) := by
    by_cases h : m = n
    · rw [h, decide_eq_false (by simp)]
      simp
    · rw [decide_eq_true h]
      symm
      rw [bne_iff_ne]
      omega
  rw [hd]
  go_enter Try.func50, Try.ntmps50
  go_wp2
  go_ret
  exact ⟨rfl, rfl⟩

set_option maxRecDepth 20000 in
set_option maxHeartbeats 1600000 in
theorem idx_spec (xs : List (List Int)) (ao : Option Addr) (cap n B : Nat) (w : World) (hr : RowsAt w ao xs) (hn : n ≤ 17592186044415) (hc : w.cell? ⟨B, 0, none⟩ = some (.int .i64 (n : Int))) :
    Calls Try.prog 61 #[.slice ao xs.length cap, .func (.func 50) #[] #[.pointer (some ⟨B, 0, none⟩)]] w fun e w' => ∃ k : Int, e = .returned (.int .i64 k) ∧ decide (0 ≤ k) = oddB xs n ∧ w' = w := by
  have hl := hr.len
  have HR : Hid (RowsAt w ao xs) := hr
  clear hr
  have HC : Hid (w.cell? ⟨B, 0, none⟩ = some (.int .i64 (n : Int))) := hc
  clear hc
  go_enter Try.func61, Try.ntmps61
  go_wp2_with fail
  go_loopw [5, 8] (fun s5 s8 wr => ∃ i : Nat, i ≤ xs.length ∧ s8 = .int .i64 (i : Int) ∧ (∀ j, j < i → (xs.getD j []).length = n) ∧ wr = w) (fun _ t _ => xs.length - (intOf t).toNat)
  case atStart => exact ⟨0, Nat.zero_le _, rfl, fun j hj => absurd hj (Nat.not_lt_zero _), rfl⟩
  case round =>
    obtain ⟨i, hi, rfl, hok, rfl⟩ := hrel
    have HO : Hid (∀ j, j < i → (xs.getD j []).length = n) := hok
    clear hok
    by_cases hlt : i < xs.length
    · obtain ⟨b, off, a, c, rfl, hll, hcell, hints⟩ := HR.out.at i hlt
      have hc0 := hcell wr (Below.refl _ _)
      clear hcell hints
      have HOD : Hid ((xs.getD i []).length ≠ n → oddB xs n = true) := odd_at xs n i hlt
      generalize hL : (xs.getD i []).length = m at *
      have HL : Hid ((xs.getD i []).length = m) := hL
      clear hL
      have kc := oddC_spec a m c n B hll hn wr HC.out
      by_cases hm : m = n
      · have hd : decide (m ≠ n) = false := decide_eq_false (fun h => h hm)
        rw [hd] at kc
        have HM : Hid (m = n) := hm
        clear hm hd
        go_wp2_with (go_at_call 50; refine kc.mono ?_; rintro e w4 ⟨rfl, rfl⟩)
        go_roundw
        case rel =>
          refine ⟨i + 1, by omega, by go_num, fun j hj => ?_, trivial⟩
          by_cases e : j = i
          · rw [e, HL.out]
            exact HM.out
          · exact HO.out j (by omega)
        case measure => simp [intOf]; omega
      · have hd : decide (m ≠ n) = true := decide_eq_true hm
        rw [hd] at kc
        have HM : Hid (oddB xs n = true) := HOD.out hm
        clear hm hd
        go_wp2_with (go_at_call 50; refine kc.mono ?_; rintro e w4 ⟨rfl, rfl⟩)
        go_ret
        exact ⟨_, rfl, by rw [HM.out]; exact decide_eq_true (by omega), rfl⟩
    · have HM : Hid (oddB xs n = false) := odd_none xs n (fun j hj => HO.out j (by omega))
      go_wp2_with fail
      go_ret
      exact ⟨_, rfl, by rw [HM.out]; rfl, rfl⟩

set_option maxRecDepth 20000 in
set_option maxHeartbeats 1600000 in
theorem contains_spec (xs : List (List Int)) (ao : Option Addr) (cap n B : Nat) (w : World) (hr : RowsAt w ao xs) (hn : n ≤ 17592186044415) (hc : w.cell? ⟨B, 0, none⟩ = some (.int .i64 (n : Int))) :
    Calls Try.prog 51 #[.slice ao xs.length cap, .func (.func 50) #[] #[.pointer (some ⟨B, 0, none⟩)]] w fun e w' => e = .returned (.bool (oddB xs n)) ∧ w' = w := by
  have ki := idx_spec xs ao cap n B w hr hn hc
  clear hr hc
  go_enter Try.func51, Try.ntmps51
  go_wp2_with fail
  refine ki.mono ?_
  rintro e w4 ⟨k, rfl, hk, rfl⟩
  have HK : Hid (decide (0 ≤ k) = oddB xs n) := hk
  clear hk ki
  go_wp2_with fail
  go_ret
  exact ⟨by rw [← HK.out]; rfl, rfl⟩

/-- A plane for each channel, all as long. -/
def evenB (p : Pcm) : Bool := decide ((p.pl.length : Int) = p.ch) && !oddB p.pl (lenP p)

set_option maxRecDepth 20000 in
set_option maxHeartbeats 1600000 in
theorem isEven_spec (p : Pcm) (ao : Option Addr) (cap : Nat) (w : World) (hr : RowsAt w ao p.pl) (hlp : lenP p ≤ 17592186044415) :
    Calls Try.prog 25 #[pcmV p ao cap] w fun e w' => e = .returned (.bool (evenB p)) ∧ Below w.heap.size w w' := by
  have hl := hr.len
  have KL : Hid (∀ wx, Hid (Bx w p ao cap wx) → Calls Try.prog 12 #[pcmV p ao cap] wx fun e w' => e = .returned (.int .i64 (lenP p : Int)) ∧ Hid (Bx w p ao cap w')) := fun wx hx =>
    (len_spec p ao cap wx (hr.below hx.out.below)).mono fun e w' h => ⟨h.1, hx.out.next h.2⟩
  have HB0 : Hid (Bx w p ao cap (w.alloc (.cells (pcmC p ao cap) 24))) := Bx.new w p ao cap
  have KC : Hid (∀ wx B, Below w.heap.size w wx → wx.cell? ⟨B, 0, none⟩ = some (.int .i64 (lenP p : Int)) → Calls Try.prog 51 #[.slice ao p.pl.length cap, .func (.func 50) #[] #[.pointer (some ⟨B, 0, none⟩)]] wx fun e w' => e = .returned (.bool (oddB p.pl (lenP p))) ∧ w' = wx) := fun wx B hB hc => contains_spec p.pl ao cap (lenP p) B wx (hr.below hB) hlp hc
  clear hr
  go_enter Try.func25, Try.ntmps25
  go_wp2_with fail
  generalize hwa : w.alloc _ = wa
  have HA : Hid (Bx w p ao cap wa) := by
    rw [← hwa]
    exact HB0.out
  clear hwa HB0
  have kl := KL.out wa HA
  have d0 := HA.out.c0
  have d1 := HA.out.c1
  have d2 := HA.out.c2
  have d3 := HA.out.c3
  go_wp2_with fail
  refine kl.mono ?_
  rintro e w4 ⟨rfl, h4⟩
  clear kl d0 d1 d2 d3 HA
  have hA5 : Hid (Bx w p ao cap (w4.alloc (.cells #[.int .i64 (lenP p : Int)] 3))) := h4.out.next ((Below.refl _ _).alloc (Nat.le_refl _) _)
  have d1 := hA5.out.c1
  have d3 := hA5.out.c3
  have d4 : (w4.alloc (.cells #[.int .i64 (lenP p : Int)] 3)).cell? ⟨w4.heap.size, 0, none⟩ = some (.int .i64 (lenP p : Int)) := by rw [cell_of_row _ _ _ _ _ _ (heap_alloc_new _ _)]; rfl
  have kc := KC.out _ w4.heap.size hA5.out.below d4
  have HEV : Hid (evenB p = (decide ((p.pl.length : Int) = p.ch) && !oddB p.pl (lenP p))) := rfl
  generalize hod : oddB p.pl (lenP p) = od at *
  clear hod
  by_cases hpc : (p.pl.length : Int) = p.ch
  · have hbe : ((p.pl.length : Int) == p.ch) = true := by rw [hpc]; exact beq_self_eq_true _
    have HE : Hid (evenB p = !od) := by rw [HEV.out, decide_eq_true hpc]; rfl
    clear hpc HEV
    go_wp2_with fail
    refine kc.mono ?_
    rintro e w6 ⟨rfl, rfl⟩
    clear kc
    go_wp2_with fail
    go_ret
    exact ⟨by rw [HE.out]; rfl, hA5.out.below⟩
  · have hbe : ((p.pl.length : Int) == p.ch) = false := by rw [beq_eq_false_iff_ne]; exact hpc
    have HE : Hid (evenB p = false) := by rw [HEV.out, decide_eq_false hpc]; rfl
    clear hpc HEV
    go_wp2_with fail
    go_ret
    exact ⟨by rw [HE.out]; rfl, hA5.out.below⟩

end Go.Proofs.Ytolmijpecomkcaa
