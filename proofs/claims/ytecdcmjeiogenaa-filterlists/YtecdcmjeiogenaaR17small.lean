/- Own text: the document's wrap and sign; lists that are the same. -/
import Derived.Test.YtecdcmjeiogenaaP17mem
namespace Go.Proofs.Ytecdcmjeiogenaa
open Go.RowKit
set_option linter.unusedSimpArgs false
set_option linter.unusedVariables false

theorem wrap_32 (n : Int) : IntKind.i32.wrap n = w32 n := by unfold w32; exact IntKind.wrap_i32 n
theorem wrap_64 (n : Int) : wrap64 n = w64 n := by unfold wrap64 w64; omega
theorem wrap_64_32 (n : Int) : wrap64 (wrap32 n) = w32 n := by unfold wrap64 wrap32 w32; omega
set_option maxRecDepth 20000 in
set_option maxHeartbeats 800000 in
theorem xwrap (n : Int) (w : World) : Calls Try.prog 30 #[.int .i64 n] w fun e w' => e = .returned (.int .i64 (w32 n)) ∧ w' = w := by
  go_enter Try.func30, Try.ntmps30
  go_wp2_with fail
  go_ret
  exact ⟨by rw [← wrap_64_32 n]; rfl, rfl⟩
set_option maxRecDepth 20000 in
set_option maxHeartbeats 800000 in
theorem xsign (n : Int) (w : World) : Calls Try.prog 34 #[.int .i64 n] w fun e w' => e = .returned (.int .i64 (sgn n)) ∧ w' = w := by
  go_enter Try.func34, Try.ntmps34
  by_cases h1 : n < 0
  · have HE : Hid (sgn n = -1) := if_pos h1
    go_wp2_with fail
    go_ret
    exact ⟨by rw [HE.out]; rfl, rfl⟩
  · by_cases h2 : 0 < n
    · have HE : Hid (sgn n = 1) := (if_neg h1).trans (if_pos h2)
      go_wp2_with fail
      go_ret
      exact ⟨by rw [HE.out]; rfl, rfl⟩
    · have HE : Hid (sgn n = 0) := (if_neg h1).trans (if_neg h2)
      go_wp2_with fail
      go_ret
      exact ⟨by rw [HE.out]; rfl, rfl⟩
set_option maxRecDepth 20000 in
set_option maxHeartbeats 3200000 in
theorem ints_same (l : List Int) (a b : Option Addr) (c d : Nat) (w : World) (hl : IntsAt w a l) (hm : IntsAt w b l) :
    Calls Try.prog 27 #[.slice a l.length c, .slice b l.length d] w fun e w' => e = .returned (.bool true) ∧ ∃ n, w' = w.drewN n := by
  have h1 := hl.len
  have HL : Hid (IntsAt w a l) := hl
  have HM : Hid (IntsAt w b l) := hm
  clear hl hm
  go_enter Try.func27, Try.ntmps27
  go_wp2_with fail
  go_loopw [5] (fun t wr => ∃ k n : Nat, k ≤ l.length ∧ t = .int .i64 (k : Int) ∧ wr = w.drewN n) (fun t _ => l.length - (intOf t).toNat)
  case atStart => exact ⟨0, 0, Nat.zero_le _, rfl, rfl⟩
  case round =>
    obtain ⟨k, n, hk, rfl, hw⟩ := hrel
    have HW : Hid (wr = w.drewN n) := hw
    clear hw
    by_cases hlt : k < l.length
    · obtain ⟨b1, o1, rfl, q1⟩ := HL.out.at k hlt
      obtain ⟨b2, o2, rfl, q2⟩ := HM.out.at k hlt
      have r1 := q1 wr (by rw [HW.out]; exact below_drewN _ _)
      have r2 := q2 wr (by rw [HW.out]; exact below_drewN _ _)
      clear q1 q2
      generalize l.getD k 0 = x at *
      go_wp2_with fail
      go_quiet (fail)
      go_wp2_with fail
      go_roundw
      case rel => exact ⟨k + 1, n + nq, by omega, by go_num, by rw [HW.out, World.drewN_drewN]⟩
      case measure => simp [intOf]; omega
    · go_wp2_with fail
      go_ret
      exact ⟨rfl, n, HW.out⟩
set_option maxRecDepth 20000 in
set_option maxHeartbeats 1600000 in
theorem same_same (l : List Int) (a b : Option Addr) (c d : Nat) (w : World) (hl : IntsAt w a l) (hm : IntsAt w b l) :
    Calls Try.prog 16 #[.slice a l.length c, .slice b l.length d] w fun e w' => e = .returned (.bool true) ∧ ∃ n, w' = w.drewN n := by
  have ki := ints_same l a b c d w hl hm
  clear hl hm
  go_enter Try.func16, Try.ntmps16
  go_wp2_with fail
  refine ki.mono ?_
  rintro e w2 ⟨rfl, n, rfl⟩
  generalize hw2 : w.drewN n = w2
  have HW : Hid (w2 = w.drewN n) := hw2.symm
  clear hw2
  go_wp2_with fail
  go_ret
  exact ⟨rfl, n, HW.out⟩

end Go.Proofs.Ytecdcmjeiogenaa
