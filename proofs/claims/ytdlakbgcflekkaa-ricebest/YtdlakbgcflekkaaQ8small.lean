/- Own text: the walks of the program's small calls. -/
import Derived.Test.YtdlakbgcflekkaaQ8mem
import Derived.Test.YtdlakbgcflekkaaRows
import Derived.RegionTactic
import Derived.Deep.QuietTactic
import Derived.BigQuiet
import Derived.Outline
import Derived.WalkLawsBesides
import Derived.Deep.RegionHeld
import Derived.Deep.RegionHeld3
import Derived.Deep.CutRange
import Derived.Deep.RegionWith
import Derived.Deep.LoopGhost
namespace Go.Proofs.Ytdlakbgcflekkaa
open Go.RowKit
set_option linter.unusedSimpArgs false
set_option linter.unusedVariables false

set_option maxRecDepth 20000 in
set_option maxHeartbeats 3200000 in
theorem pw_spec (m : Int) (h0 : 0 ≤ m) (h1 : m ≤ 1) (w : World) :
    Calls Try.prog 57 #[.int .i64 m] w fun e w' => e = .returned (.int .i64 (4 + m)) ∧ w' = w := by
  rcases (show m = 0 ∨ m = 1 by omega) with rfl | rfl
  · go_enter Try.func57, Try.ntmps57
    go_wp2
    go_ret
    exact ⟨rfl, rfl⟩
  · go_enter Try.func57, Try.ntmps57
    go_wp2
    go_ret
    exact ⟨rfl, rfl⟩
set_option maxRecDepth 20000 in
set_option maxHeartbeats 3200000 in
theorem mark_spec (m : Int) (h0 : 0 ≤ m) (h1 : m ≤ 1) (w : World) :
    Calls Try.prog 58 #[.int .i64 m] w fun e w' => e = .returned (.int .i64 (15 + 16 * m)) ∧ w' = w := by
  have KP := fun wx => pw_spec m h0 h1 wx
  rcases (show m = 0 ∨ m = 1 by omega) with rfl | rfl
  · go_enter Try.func58, Try.ntmps58
    go_wp2_with (go_at_call 57; refine (KP _).mono ?_; rintro e w' ⟨rfl, rfl⟩)
    go_ret
    exact ⟨rfl, rfl⟩
  · go_enter Try.func58, Try.ntmps58
    go_wp2_with (go_at_call 57; refine (KP _).mono ?_; rintro e w' ⟨rfl, rfl⟩)
    go_ret
    exact ⟨rfl, rfl⟩
def areB (b r : Int) : Bool := decide (1 ≤ b ∧ b ≤ 65535 ∧ 0 ≤ r ∧ r ≤ 32)
set_option maxRecDepth 20000 in
set_option maxHeartbeats 3200000 in
theorem areOf_spec (b r : Int) (w : World) : Calls Try.prog 41 #[.int .i64 b, .int .i64 r] w fun e w' => e = .returned (.bool (areB b r)) ∧ w' = w := by
  by_cases g0 : b < 1
  · have hd : areB b r = false := decide_eq_false (by omega)
    rw [hd]
    go_enter Try.func41, Try.ntmps41
    go_wp2
    go_ret
    exact ⟨rfl, rfl⟩
  · skip
    by_cases g1 : 65535 < b
    · have hd : areB b r = false := decide_eq_false (by omega)
      rw [hd]
      go_enter Try.func41, Try.ntmps41
      go_wp2
      go_ret
      exact ⟨rfl, rfl⟩
    · skip
      by_cases g2 : r < 0
      · have hd : areB b r = false := decide_eq_false (by omega)
        rw [hd]
        go_enter Try.func41, Try.ntmps41
        go_wp2
        go_ret
        exact ⟨rfl, rfl⟩
      · skip
        by_cases g3 : 32 < r
        · have hd : areB b r = false := decide_eq_false (by omega)
          have hb : decide (r ≤ 32) = false := decide_eq_false (by omega)
          rw [hd]
          go_enter Try.func41, Try.ntmps41
          go_wp2
          go_ret
          exact ⟨rfl, rfl⟩
        · skip
          have hd : areB b r = true := decide_eq_true (by omega)
          have hb : decide (r ≤ 32) = true := decide_eq_true (by omega)
          rw [hd]
          go_enter Try.func41, Try.ntmps41
          go_wp2
          go_ret
          exact ⟨rfl, rfl⟩
set_option maxRecDepth 20000 in
set_option maxHeartbeats 3200000 in
theorem mayBe_spec (m k e : Int) (h0 : 0 ≤ m) (h1 : m ≤ 1) (w : World) : Calls Try.prog 39 #[.int .i64 m, .int .i64 k, .int .i64 e] w fun en w' => en = .returned (.bool (decide (mayOk m k e))) ∧ w' = w := by
  have KM := fun wx => mark_spec m h0 h1 wx
  by_cases he : e = -1
  · subst he
    by_cases g0 : k < 0
    · have hd : decide (mayOk m k (-1)) = false := decide_eq_false (by unfold mayOk; omega)
      rw [hd]
      go_enter Try.func39, Try.ntmps39
      go_wp2
      go_ret
      exact ⟨rfl, rfl⟩
    · skip
      by_cases g1 : ¬ k < 15 + 16 * m
      · have hd : decide (mayOk m k (-1)) = false := decide_eq_false (by unfold mayOk; omega)
        have hb : decide (k < 15 + 16 * m) = false := decide_eq_false (by omega)
        rw [hd]
        go_enter Try.func39, Try.ntmps39
        go_wp2_with (go_at_call 58; refine (KM _).mono ?_; rintro e w' ⟨rfl, rfl⟩)
        go_ret
        exact ⟨rfl, rfl⟩
      · skip
        have hd : decide (mayOk m k (-1)) = true := decide_eq_true (by unfold mayOk; omega)
        have hb : decide (k < 15 + 16 * m) = true := decide_eq_true (by omega)
        rw [hd]
        go_enter Try.func39, Try.ntmps39
        go_wp2_with (go_at_call 58; refine (KM _).mono ?_; rintro e w' ⟨rfl, rfl⟩)
        go_ret
        exact ⟨rfl, rfl⟩
  · have hbe : (e == -1) = false := by rw [beq_eq_false_iff_ne]; exact he
    by_cases g0 : ¬ k = 0
    · have hd : decide (mayOk m k e) = false := decide_eq_false (by unfold mayOk; omega)
      have hb : (k == 0) = false := by rw [beq_eq_false_iff_ne]; exact g0
      rw [hd]
      go_enter Try.func39, Try.ntmps39
      go_wp2
      go_ret
      exact ⟨rfl, rfl⟩
    · skip
      by_cases g1 : e < 0
      · have hd : decide (mayOk m k e) = false := decide_eq_false (by unfold mayOk; omega)
        have hk : k = 0 := by omega
        subst hk
        rw [hd]
        go_enter Try.func39, Try.ntmps39
        go_wp2
        go_ret
        exact ⟨rfl, rfl⟩
      · skip
        by_cases g2 : 31 < e
        · have hd : decide (mayOk m k e) = false := decide_eq_false (by unfold mayOk; omega)
          have hb : decide (e ≤ 31) = false := decide_eq_false (by omega)
          have hk : k = 0 := by omega
          subst hk
          rw [hd]
          go_enter Try.func39, Try.ntmps39
          go_wp2
          go_ret
          exact ⟨rfl, rfl⟩
        · skip
          have hk : k = 0 := by omega
          subst hk
          have hd : decide (mayOk m 0 e) = true := decide_eq_true (by unfold mayOk; omega)
          have hb : decide (e ≤ 31) = true := decide_eq_true (by omega)
          rw [hd]
          go_enter Try.func39, Try.ntmps39
          go_wp2
          go_ret
          exact ⟨rfl, rfl⟩

end Go.Proofs.Ytdlakbgcflekkaa
