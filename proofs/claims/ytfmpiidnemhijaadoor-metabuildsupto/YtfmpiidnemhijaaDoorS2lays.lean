/- Own text: the walks of fits and Be. -/
import Derived.Test.YtfmpiidnemhijaaDoorS2makes
import Derived.WalkKit
namespace Go.Proofs.YtfmpiidnemhijaaDoor
open Go.RowKit
set_option linter.unusedSimpArgs false
set_option linter.unusedVariables false
namespace S2



theorem ret_bool {a b : Bool} (h : a = b) : Ending.returned (.bool a) = .returned (.bool b) := by rw [h]

theorem fits_eq (m k : Nat) (h1 : 1 ≤ k) (h8 : k ≤ 8) : fitsB (m : Int) (k : Int) = decide (m < 256 ^ k) := by
  by_cases h : m < 256 ^ k
  · rw [fits_of_nat m k h1 h8 h]; simp [h]
  · have : fitsB (m : Int) (k : Int) = false := by
      rw [Bool.eq_false_iff]
      intro hf
      obtain ⟨m', k', e1, e2, _, _, h'⟩ := fits_nat hf
      obtain rfl : m = m' := by omega
      obtain rfl : k = k' := by omega
      exact h h'
    rw [this]; simp [h]

theorem fits_low (n k : Int) (h : k < 1) : fitsB n k = false := by unfold fitsB; exact decide_eq_false (by omega)
theorem fits_wide (n k : Int) (h : 8 < k) : fitsB n k = false := by unfold fitsB; exact decide_eq_false (by omega)
theorem fits_neg (n k : Int) (h : n < 0) : fitsB n k = false := by unfold fitsB; exact decide_eq_false (by omega)

set_option maxRecDepth 20000 in
set_option maxHeartbeats 800000 in
theorem fits_spec (n k : Int) (h1 : -9223372036854775808 ≤ n) (h2 : n ≤ 9223372036854775807) (w : World) :
    Calls Tryd.prog 66 #[.int .i64 n, .int .i64 k] w fun e w' => e = .returned (.bool (fitsB n k)) ∧ w' = w := by
  by_cases a : k < 1
  · rw [fits_low n k a]
    go_enter Tryd.func66, Tryd.ntmps66
    go_wp2
    go_ret
    exact ⟨rfl, rfl⟩
  by_cases b : 8 < k
  · rw [fits_wide n k b]
    go_enter Tryd.func66, Tryd.ntmps66
    go_wp2
    go_ret
    exact ⟨rfl, rfl⟩
  by_cases c : n < 0
  · rw [fits_neg n k c]
    go_enter Tryd.func66, Tryd.ntmps66
    go_wp2
    go_ret
    exact ⟨rfl, rfl⟩
  obtain ⟨j, rfl⟩ : ∃ j : Nat, k = (j : Int) := ⟨k.toNat, by omega⟩
  obtain ⟨m, rfl⟩ : ∃ m : Nat, n = (m : Int) := ⟨n.toNat, by omega⟩
  rw [fits_eq m j (by omega) (by omega)]
  have hz := shr_zero m j
  go_enter Tryd.func66, Tryd.ntmps66
  go_wp2
  go_ret
  exact ⟨rfl, rfl⟩

set_option maxRecDepth 20000 in
set_option maxHeartbeats 800000 in
theorem reffits_spec (n k : Int) (h1 : -9223372036854775808 ≤ n) (h2 : n ≤ 9223372036854775807) (w : World) :
    Calls Tryd.prog 68 #[.int .i64 n, .int .i64 k] w fun e w' => e = .returned (.bool (fitsB n k)) ∧ w' = w := by
  by_cases a : k < 1
  · rw [fits_low n k a]
    go_enter Tryd.func68, Tryd.ntmps68
    go_wp2
    go_ret
    exact ⟨rfl, rfl⟩
  by_cases b : 8 < k
  · rw [fits_wide n k b]
    go_enter Tryd.func68, Tryd.ntmps68
    go_wp2
    go_ret
    exact ⟨rfl, rfl⟩
  by_cases c : n < 0
  · rw [fits_neg n k c]
    go_enter Tryd.func68, Tryd.ntmps68
    go_wp2
    go_ret
    exact ⟨rfl, rfl⟩
  obtain ⟨j, rfl⟩ : ∃ j : Nat, k = (j : Int) := ⟨k.toNat, by omega⟩
  obtain ⟨m, rfl⟩ : ∃ m : Nat, n = (m : Int) := ⟨n.toNat, by omega⟩
  rw [fits_eq m j (by omega) (by omega)]
  by_cases h8 : j = 8
  · subst h8
    have hd : decide (m < 256 ^ 8) = true := decide_eq_true (by omega)
    rw [hd]
    clear hd
    go_enter Tryd.func68, Tryd.ntmps68
    go_wp2
    go_ret
    exact ⟨rfl, rfl⟩
  · have hz := shr_zero m j
    have hne : ((j : Int) == 8) = false := by simp; omega
    go_enter Tryd.func68, Tryd.ntmps68
    go_wp2
    go_ret
    exact ⟨rfl, rfl⟩

theorem i64_and255 (n : Int) : bits BinOp.and IntKind.i64 n 255 = n % 256 := by
  show IntKind.i64.wrap ((BitVec.ofInt 64 n &&& BitVec.ofInt 64 255).toNat : Int) = _
  rw [BitVec.toNat_and, BitVec.toNat_ofInt, show (BitVec.ofInt 64 255).toNat = 2 ^ 8 - 1 from rfl, Nat.and_two_pow_sub_one_eq_mod, IntKind.wrap_i64]
  omega

theorem i64_and63 (n : Int) : bits BinOp.and IntKind.i64 n 63 = n % 64 := by
  show IntKind.i64.wrap ((BitVec.ofInt 64 n &&& BitVec.ofInt 64 63).toNat : Int) = _
  rw [BitVec.toNat_and, BitVec.toNat_ofInt, show (BitVec.ofInt 64 63).toNat = 2 ^ 6 - 1 from rfl, Nat.and_two_pow_sub_one_eq_mod, IntKind.wrap_i64]
  omega

theorem pow_le_8 (k : Nat) (h : k ≤ 8) : 256 ^ k ≤ 18446744073709551616 := by
  have := Nat.pow_le_pow_right (n := 256) (by decide) h
  simpa using this

set_option maxRecDepth 20000 in
set_option maxHeartbeats 800000 in
theorem be_spec (n k : Int) (h1 : -9223372036854775808 ≤ n) (h2 : n ≤ 9223372036854775807) (w : World) :
    Calls Tryd.prog 56 #[.int .i64 n, .int .i64 k] w fun e w' => e = .returned (.tuple #[.string (beT n k), .int .i64 (wE n k)]) ∧ Below w.heap.size w w' := by
  by_cases hf : fitsB n k = true
  · obtain ⟨m, j, rfl, rfl, h1, h8, hm⟩ := fits_nat hf
    rw [beT_nat m j hf, wE_yes _ _ hf]
    go_enter Tryd.func56, Tryd.ntmps56
    go_wp2_with fail
    refine (fits_spec _ _ (by omega) (by omega) _).mono ?_
    rintro e w' ⟨rfl, rfl⟩
    go_wp2_with fail
    refine (highFirst_spec m j (by omega) (by omega) _).mono ?_
    rintro e w' ⟨rfl, hB⟩
    go_wp2
    go_ret2
    exact ⟨rfl, hB⟩
  · have hf' : fitsB n k = false := by simpa using hf
    clear hf
    rw [beT_no n k hf', wE_no _ _ hf']
    go_enter Tryd.func56, Tryd.ntmps56
    go_wp2_with fail
    refine (fits_spec _ _ (by omega) (by omega) _).mono ?_
    rintro e w' ⟨rfl, rfl⟩
    go_wp2
    go_ret2
    exact ⟨rfl, Below.refl _ _⟩

theorem div_step (m t : Nat) : ((m / 256 ^ t : Nat) : Int) / 256 = ((m / 256 ^ (t + 1) : Nat) : Int) := by
  rw [Nat.pow_succ, ← Nat.div_div_eq_div_mul]
  omega

set_option maxRecDepth 20000 in
set_option maxHeartbeats 1600000 in
theorem refbe_spec (n k : Int) (h1 : -9223372036854775808 ≤ n) (h2 : n ≤ 9223372036854775807) (w : World) :
    Calls Tryd.prog 57 #[.int .i64 n, .int .i64 k] w fun e w' => e = .returned (.tuple #[.string (beT n k), .int .i64 (wE n k)]) ∧ Below w.heap.size w w' := by
  by_cases hf : fitsB n k = true
  · obtain ⟨m, j, rfl, rfl, h1, h8, hm⟩ := fits_nat hf
    rw [beT_nat m j hf, wE_yes _ _ hf]
    have hmk := made_run j (by omega)
    have hrow := World.rowIs_made w (.int .u8 0) j 5
    have hbel : Below w.heap.size w (w.alloc (.cells (madeCells #[.int .u8 0] j) 5)) := (Below.refl _ _).alloc (Nat.le_refl _) _
    go_enter Tryd.func57, Tryd.ntmps57
    go_wp2_with fail
    refine (reffits_spec _ _ (by omega) (by omega) _).mono ?_
    rintro e w' ⟨rfl, rfl⟩
    go_wp2
    clear hf
    go_loopw [0, 7] (fun x y wr => ∃ (t q : Nat), t ≤ j ∧ q = m / 256 ^ t ∧ x = .int .i64 (q : Int) ∧ y = .int .i64 ((j : Int) - 1 - t) ∧ wr.rowIs w'.heap.size 5 j (fun i => .int .u8 ((if j - 1 - i < t then m / 256 ^ (j - 1 - i) % 256 else 0 : Nat) : Int)) ∧ Below w'.heap.size w' wr) (fun _ y _ => (intOf y + 1).toNat)
    case atStart => exact ⟨0, m, Nat.zero_le _, by simp, by simp, by simp, hrow.congr (fun i _ => by simp), hbel⟩
    case round =>
      obtain ⟨t, q, ht, hq, rfl, rfl, hr, hb⟩ := hrel
      have hle : q ≤ m := by rw [hq]; exact Nat.div_le_self _ _
      have HD : Hid (q = m / 256 ^ t) := hq
      clear hq
      by_cases hlt : t < j
      · have hc := hr.cell (i := j - 1 - t) (by omega)
        have hf := hr.frozen (j - 1 - t)
        have hand := i64_and255 (q : Int)
        go_wp2
        go_roundw
        case rel =>
          refine ⟨t + 1, q / 256, by omega, ?_, by go_num, by go_num, ?_, hb.setCell (by simp) _⟩
          · rw [HD.out, Nat.pow_succ, ← Nat.div_div_eq_div_mul]
          · refine (hr.set (j - 1 - t) _).congr (fun i hi => ?_)
            by_cases e : i = j - 1 - t
            · subst e
              rw [if_pos rfl, show j - 1 - (j - 1 - t) = t from by omega, if_pos (by omega), ← HD.out]
              congr 1
            · rw [if_neg e]
              congr 3
              by_cases h : j - 1 - i < t
              · simp [h, show j - 1 - i < t + 1 by omega]
              · simp [h, show ¬ j - 1 - i < t + 1 by omega]
        case measure => simp [intOf]; omega
      · obtain rfl : t = j := by omega
        have hr2 : wr.rowIs w'.heap.size 5 t (fun i => .int .u8 ((m / 256 ^ (t - 1 - i) % 256 : Nat) : Int)) := hr.congr (fun i hi => by rw [if_pos (by omega)])
        have hcv := conv_row (cap := t) hr2
        clear hr
        go_wp2
        go_ret2
        exact ⟨rfl, hb⟩
  · have hf' : fitsB n k = false := by simpa using hf
    clear hf
    rw [beT_no n k hf', wE_no _ _ hf']
    go_enter Tryd.func57, Tryd.ntmps57
    go_wp2_with fail
    refine (reffits_spec _ _ (by omega) (by omega) _).mono ?_
    rintro e w' ⟨rfl, rfl⟩
    go_wp2
    go_ret2
    exact ⟨rfl, Below.refl _ _⟩

theorem beT_size (n k : Int) : (beT n k).size ≤ 8 := by
  by_cases hf : fitsB n k = true
  · obtain ⟨m, j, rfl, rfl, h1, h8, hm⟩ := fits_nat hf
    rw [beT_nat m j hf, textOf_size, highL_length]
    exact h8
  · have hf' : fitsB n k = false := by simpa using hf
    rw [beT_no n k hf']
    simp [ByteArray.size]

theorem leT_turned (n k : Int) : textOf (bytesOf (beT n k)).reverse = leT n k := by
  by_cases hf : fitsB n k = true
  · obtain ⟨m, j, rfl, rfl, h1, h8, hm⟩ := fits_nat hf
    rw [beT_nat m j hf, leT_nat m j hf, bytesOf_textOf _ (highL_lt m j), lowL_reverse]
  · have hf' : fitsB n k = false := by simpa using hf
    rw [beT_no n k hf', leT_no n k hf']
    rfl

end S2
end Go.Proofs.YtfmpiidnemhijaaDoor
