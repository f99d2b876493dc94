/- Own text: the document's foretold; lists that are the same. -/
import Derived.Test.YtpfkaddammfkkabDoorP9mem
namespace Go.Proofs.YtpfkaddammfkkabDoor
open Go.RowKit
set_option linter.unusedSimpArgs false
set_option linter.unusedVariables false
set_option maxRecDepth 20000 in
set_option maxHeartbeats 3200000 in
theorem ints_same (l : List Int) (a b : Option Addr) (c d : Nat) (w : World) (hl : IntsAt w a l) (hm : IntsAt w b l) :
    Calls Tryd.prog 12 #[.slice a l.length c, .slice b l.length d] w fun e w' => e = .returned (.bool true) ∧ ∃ n, w' = w.drewN n := by
  have h1 := hl.len
  have HL : Hid (IntsAt w a l) := hl
  have HM : Hid (IntsAt w b l) := hm
  clear hl hm
  go_enter Tryd.func12, Tryd.ntmps12
  go_wp2_with fail
  go_loopw [5] (fun t wr => ∃ k n : Nat, k ≤ l.length ∧ t = .int .i64 (k : Int) ∧ wr = w.drewN n) (fun t _ => l.length - (intOf t).toNat)
  case atStart => exact ⟨0, 0, Nat.zero_le _, rfl, rfl⟩
  case round =>
    obtain ⟨k, n, hk, rfl, hw⟩ := hrel
    have HW : Hid (wr = w.drewN n) := hw
    clear hw
    by_cases hlt : k < l.length
    · obtain ⟨b1, o1, rfl, q1⟩ := HL.out.at k hlt
      obtain ⟨b2, o2, rfl, q2⟩ := HM.out.at k hlt
      have r1 := q1 wr (by rw [HW.out]; exact below_drewN _ _)
      have r2 := q2 wr (by rw [HW.out]; exact below_drewN _ _)
      clear q1 q2
      generalize l.getD k 0 = x at *
      go_wp2_with fail
      go_quiet (fail)
      go_wp2_with fail
      go_roundw
      case rel => exact ⟨k + 1, n + nq, by omega, by go_num, by rw [HW.out, World.drewN_drewN]⟩
      case measure => simp [intOf]; omega
    · go_wp2_with fail
      go_ret
      exact ⟨rfl, n, HW.out⟩
theorem same_same (l : List Int) (a b : Option Addr) (c d : Nat) (w : World) (hl : IntsAt w a l) (hm : IntsAt w b l) :
    Calls Tryd.prog 6 #[.slice a l.length c, .slice b l.length d] w fun e w' => e = .returned (.bool true) ∧ ∃ n, w' = w.drewN n := by
  have ki := ints_same l a b c d w hl hm
  clear hl hm
  go_enter Tryd.func6, Tryd.ntmps6
  go_wp2_with fail
  refine ki.mono ?_
  rintro e w2 ⟨rfl, n, rfl⟩
  generalize hw2 : w.drewN n = w2
  have HW : Hid (w2 = w.drewN n) := hw2.symm
  clear hw2
  go_wp2_with fail
  go_ret
  exact ⟨rfl, n, HW.out⟩
end Go.Proofs.YtpfkaddammfkkabDoor
