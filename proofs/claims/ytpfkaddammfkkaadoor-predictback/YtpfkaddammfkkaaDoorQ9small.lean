/- Own text: the program's isShift, mayBe, fixedCoefs, linear, and the predictor itself. -/
import Derived.Test.YtpfkaddammfkkaaDoorR9fix
import Derived.Test.YtpfkaddammfkkaaDoorP9fill
namespace Go.Proofs.YtpfkaddammfkkaaDoor
open Go.RowKit
set_option linter.unusedSimpArgs false
set_option linter.unusedVariables false

def shB (k : Int) : Bool := decide (0 ≤ k) && decide (k ≤ 31)
theorem shB_iff (k : Int) : shB k = true ↔ 0 ≤ k ∧ k ≤ 31 := by unfold shB; simp
theorem mayB_sh (C : List Int) (sh : Int) (h1 : 1 ≤ C.length) (h2 : C.length ≤ 32) : mayB C sh = shB sh := by
  unfold mayB shB; simp [h1, h2]
set_option maxRecDepth 20000 in
set_option maxHeartbeats 3200000 in
theorem qsh_spec (k : Int) (w : World) : Calls Tryd.prog 39 #[.int .i64 k] w fun e w' => e = .returned (.bool (shB k)) ∧ w' = w := by
  by_cases g1 : ¬ 0 ≤ k
  · have hF : shB k = false := by
      cases h : shB k with
      | false => rfl
      | true => rw [shB_iff] at h; omega
    rw [hF]
    clear hF
    go_enter Tryd.func39, Tryd.ntmps39
    go_wp2_with fail
    go_ret
    exact ⟨rfl, rfl⟩
  · skip
    by_cases g2 : ¬ k ≤ 31
    · have hF : shB k = false := by
        cases h : shB k with
        | false => rfl
        | true => rw [shB_iff] at h; omega
      rw [hF]
      clear hF
      go_enter Tryd.func39, Tryd.ntmps39
      go_wp2_with fail
      go_ret
      exact ⟨rfl, rfl⟩
    · skip
      have hF : shB k = true := by rw [shB_iff]; omega
      rw [hF]
      clear hF
      go_enter Tryd.func39, Tryd.ntmps39
      go_wp2_with fail
      go_ret
      exact ⟨rfl, rfl⟩
set_option maxRecDepth 20000 in
set_option maxHeartbeats 3200000 in
theorem qmay_spec (C : List Int) (sh : Int) (ca : Option Addr) (cc : Nat) (w : World) (hC : IntsAt w ca C) : Calls Tryd.prog 37 #[.slice ca C.length cc, .int .i64 sh] w fun e w' => e = .returned (.bool (mayB C sh)) ∧ w' = w := by
  have h1 := hC.len
  clear hC
  by_cases g1 : ¬ 1 ≤ C.length
  · have hF : mayB C sh = false := by
      cases h : mayB C sh with
      | false => rfl
      | true => rw [mayB_iff] at h; omega
    rw [hF]
    clear hF
    go_enter Tryd.func37, Tryd.ntmps37
    go_wp2_with fail
    go_ret
    exact ⟨rfl, rfl⟩
  · skip
    by_cases g2 : ¬ C.length ≤ 32
    · have hF : mayB C sh = false := by
        cases h : mayB C sh with
        | false => rfl
        | true => rw [mayB_iff] at h; omega
      rw [hF]
      clear hF
      go_enter Tryd.func37, Tryd.ntmps37
      go_wp2_with fail
      go_ret
      exact ⟨rfl, rfl⟩
    · skip
      rw [mayB_sh C sh (by omega) (by omega)]
      have ks := qsh_spec sh w
      generalize shB sh = bb at *
      go_enter Tryd.func37, Tryd.ntmps37
      go_wp2_with fail
      refine ks.mono ?_
      rintro e w2 ⟨rfl, hw2⟩
      subst hw2
      clear ks
      go_wp2_with fail
      go_ret
      exact ⟨rfl, rfl⟩
set_option maxRecDepth 20000 in
set_option maxHeartbeats 3200000 in
theorem qcoefs_spec (o : Nat) (ho : o ≤ 4) (w : World) : Calls Tryd.prog 31 #[.int .i64 (o : Int)] w fun e w' => ∃ ca cc, e = .returned (.slice ca (wF o).length cc) ∧ IntsAt w' ca (wF o) ∧ Below w.heap.size w w' := by
  rcases (show o = 0 ∨ o = 1 ∨ o = 2 ∨ o = 3 ∨ o = 4 by omega) with rfl | rfl | rfl | rfl | rfl
  · go_enter Tryd.func31, Tryd.ntmps31
    go_wp2_with fail
    go_ret
    exact ⟨none, 0, rfl, IntsAt.nil w, Below.refl _ _⟩
  · have HI : Hid (IntsAt (w.alloc (.cells #[.int .i64 1] 3)) (some ⟨w.heap.size, 0, none⟩) (wF 1)) := ints_new w (wF 1) (by decide) (by decide)
    have HB : Hid (Below w.heap.size w (w.alloc (.cells #[.int .i64 1] 3))) := (Below.refl _ _).alloc (Nat.le_refl _) _
    go_enter Tryd.func31, Tryd.ntmps31
    go_wp2_with fail
    go_ret
    exact ⟨_, _, rfl, HI.out, HB.out⟩
  · have HI : Hid (IntsAt (w.alloc (.cells #[.int .i64 2, .int .i64 (-1)] 3)) (some ⟨w.heap.size, 0, none⟩) (wF 2)) := ints_new w (wF 2) (by decide) (by decide)
    have HB : Hid (Below w.heap.size w (w.alloc (.cells #[.int .i64 2, .int .i64 (-1)] 3))) := (Below.refl _ _).alloc (Nat.le_refl _) _
    go_enter Tryd.func31, Tryd.ntmps31
    go_wp2_with fail
    go_ret
    exact ⟨_, _, rfl, HI.out, HB.out⟩
  · have HI : Hid (IntsAt (w.alloc (.cells #[.int .i64 3, .int .i64 (-3), .int .i64 1] 3)) (some ⟨w.heap.size, 0, none⟩) (wF 3)) := ints_new w (wF 3) (by decide) (by decide)
    have HB : Hid (Below w.heap.size w (w.alloc (.cells #[.int .i64 3, .int .i64 (-3), .int .i64 1] 3))) := (Below.refl _ _).alloc (Nat.le_refl _) _
    go_enter Tryd.func31, Tryd.ntmps31
    go_wp2_with fail
    go_ret
    exact ⟨_, _, rfl, HI.out, HB.out⟩
  · have HI : Hid (IntsAt (w.alloc (.cells #[.int .i64 4, .int .i64 (-6), .int .i64 4, .int .i64 (-1)] 3)) (some ⟨w.heap.size, 0, none⟩) (wF 4)) := ints_new w (wF 4) (by decide) (by decide)
    have HB : Hid (Below w.heap.size w (w.alloc (.cells #[.int .i64 4, .int .i64 (-6), .int .i64 4, .int .i64 (-1)] 3))) := (Below.refl _ _).alloc (Nat.le_refl _) _
    go_enter Tryd.func31, Tryd.ntmps31
    go_wp2_with fail
    go_ret
    exact ⟨_, _, rfl, HI.out, HB.out⟩

/-- The boxes that a predictor is closed over. -/
structure Lin (b : Nat) (C : List Int) (ca : Option Addr) (cc sh : Nat) (w : World) : Prop where
  cf : w.cell? ⟨b, 0, none⟩ = some (.slice ca C.length cc)
  sh : w.cell? ⟨b + 1, 0, none⟩ = some (.int .i64 (sh : Int))
  ints : IntsAt w ca C
theorem Lin.below {b : Nat} {C : List Int} {ca : Option Addr} {cc sh : Nat} {w w' : World} (h : Lin b C ca cc sh w) (hb : Below w.heap.size w w') : Lin b C ca cc sh w' :=
  ⟨by rw [World.cell?_of_block (w := w) (hb.block b (lt_cell h.cf))]; exact h.cf, by rw [World.cell?_of_block (w := w) (hb.block (b + 1) (lt_cell h.sh))]; exact h.sh, h.ints.below hb⟩
abbrev linV (b : Nat) : Value := .func (.func 47) #[] #[.pointer (some ⟨b, 0, none⟩), .pointer (some ⟨b + 1, 0, none⟩)]
theorem enter_lin (args : Array Value) (w : World) : (callFunc 47 args).run Tryd.prog w = .ok (.enter 47 args) w := by kernel_rfl
set_option maxRecDepth 20000 in
set_option maxHeartbeats 3200000 in
theorem qlinear_spec (C : List Int) (ca : Option Addr) (cc sh : Nat) (w : World) (hC : IntsAt w ca C) : Calls Tryd.prog 30 #[.slice ca C.length cc, .int .i64 (sh : Int)] w fun e w' => ∃ b, e = .returned (linV b) ∧ Lin b C ca cc sh w' ∧ Below w.heap.size w w' := by
  have HB : Hid (Below w.heap.size w ((w.alloc (.cells #[.slice ca C.length cc] 22)).alloc (.cells #[.int .i64 (sh : Int)] 3))) := ((Below.refl _ _).alloc (Nat.le_refl _) _).alloc (by simp) _
  have HL : Hid (Lin w.heap.size C ca cc sh ((w.alloc (.cells #[.slice ca C.length cc] 22)).alloc (.cells #[.int .i64 (sh : Int)] 3))) := by
    refine ⟨?_, ?_, hC.below HB.out⟩
    · rw [cell_row (heap_two _ _ _)]; rfl
    · have hh := heap_alloc_new (w.alloc (.cells #[.slice ca C.length cc] 22)) (.cells #[.int .i64 (sh : Int)] 3)
      rw [show (w.alloc (.cells #[.slice ca C.length cc] 22)).heap.size = w.heap.size + 1 from by simp] at hh
      rw [cell_row hh]; rfl
  clear hC
  go_enter Tryd.func30, Tryd.ntmps30
  go_wp2_with fail
  go_ret
  exact ⟨_, rfl, HL.out, HB.out⟩
set_option maxRecDepth 20000 in
set_option maxHeartbeats 3200000 in
theorem qclos_spec (C past : List Int) (ca pa : Option Addr) (cc pc : Nat) (sh b : Nat) (hsh : sh ≤ 31) (hCp : C.length ≤ past.length) (w : World) (hL : Lin b C ca cc sh w) (hp : IntsAt w pa past) :
    Calls Tryd.prog 47 (#[.slice pa past.length pc] ++ #[.pointer (some ⟨b, 0, none⟩), .pointer (some ⟨b + 1, 0, none⟩)]) w fun e w' => e = .returned (.int .i64 (foreN C sh past past.length)) ∧ w' = w := by
  have h1 := hp.len
  have h2 := hL.ints.len
  have c1 := hL.cf
  have c2 := hL.sh
  have HC : Hid (IntsAt w ca C) := hL.ints
  have HP : Hid (IntsAt w pa past) := hp
  have HF : Hid (foreN C sh past past.length = foreS C past past.length C.length / 2 ^ sh) := rfl
  clear hL hp
  go_enter Tryd.func47, Tryd.ntmps47
  go_wp2_with fail
  go_loopw [5, 6, 7, 10] (fun s s6 s7 t wr => ∃ k : Nat, k ≤ C.length ∧ t = .int .i64 (k : Int) ∧ s = .int .i64 (foreS C past past.length k) ∧ wr = w) (fun _ _ _ t _ => C.length - (intOf t).toNat)
  case atStart => exact ⟨0, Nat.zero_le _, rfl, rfl, rfl⟩
  case round =>
    obtain ⟨k, hk, rfl, rfl, rfl⟩ := hrel
    have hfr := foreS_rng C past past.length k
    by_cases hlt : k < C.length
    · obtain ⟨b1, o1, rfl, q1⟩ := HC.out.at k hlt
      obtain ⟨b2, o2, rfl, q2⟩ := HP.out.at (past.length - 1 - k) (by omega)
      have r1 := q1 wr (Below.refl _ _)
      have r2 := q2 wr (Below.refl _ _)
      have HN : Hid (foreS C past past.length (k + 1) = wrap64 (foreS C past past.length k + wrap64 (C.getD k 0 * past.getD (past.length - 1 - k) 0))) := rfl
      have hix : (past.length : Int) - 1 - (k : Int) = ((past.length - 1 - k : Nat) : Int) := by omega
      have hil : past.length - 1 - k < past.length := by omega
      clear q1 q2
      generalize C.getD k 0 = x at *
      generalize past.getD (past.length - 1 - k) 0 = y at *
      generalize past.length - 1 - k = ix at *
      generalize foreS C past past.length k = su at *
      go_wp2_with fail
      go_roundw
      case rel => exact ⟨k + 1, by omega, by go_num, by rw [HN.out], trivial⟩
      case measure => simp [intOf]; omega
    · have hke : k = C.length := by omega
      subst hke
      generalize foreS C past past.length C.length = su at *
      have hs2 : (sh : Int) ≤ 31 := by omega
      go_wp2_with fail
      go_ret
      exact ⟨by rw [HF.out]; rfl, rfl⟩

end Go.Proofs.YtpfkaddammfkkaaDoor
