/- Own text: the contracts of the reader's calls. -/
import Derived.Test.YtfmpiidnemhijaaDoorZeros
namespace Go.Proofs.YtfmpiidnemhijaaDoor
open Go.RowKit
set_option linter.unusedSimpArgs false
set_option linter.unusedVariables false


theorem get_none (k : Int) (w : World) : Calls Tryd.prog 42 #[.pointer none, .int .i64 k] w fun e w' => e = .returned (.tuple #[.int .u64 0, .int .i64 1]) ∧ w' = w := by
  go_enter Tryd.func42, Tryd.ntmps42
  go_wp2
  go_ret2
  exact ⟨rfl, rfl⟩

theorem get_width (q : Nat) (k : Int) (hk : k < 0 ∨ 64 < k) (w : World) : Calls Tryd.prog 42 #[.pointer (some ⟨q, 0, none⟩), .int .i64 k] w fun e w' => e = .returned (.tuple #[.int .u64 0, .int .i64 11]) ∧ w' = w := by
  rcases hk with hk | hk
  · go_enter Tryd.func42, Tryd.ntmps42
    go_wp2
    go_ret2
    exact ⟨rfl, rfl⟩
  · go_enter Tryd.func42, Tryd.ntmps42
    go_wp2
    go_ret2
    exact ⟨rfl, rfl⟩

theorem get_end (q : Nat) (s : ByteArray) (hs : s.size ≤ 1000000000000000000) (at_ : Nat) (ha : at_ ≤ 8 * s.size) (k : Nat) (hk : k ≤ 64) (he : 8 * s.size < at_ + k) (w : World) (h : Rd w q s at_) :
    Calls Tryd.prog 42 #[.pointer (some ⟨q, 0, none⟩), .int .i64 (k : Int)] w fun e w' => e = .returned (.tuple #[.int .u64 0, .int .i64 10]) ∧ ∃ n, w' = w.drewN n := by
  go_enter Tryd.func42, Tryd.ntmps42
  go_wp2_with (go_at_call 58; refine (rest_spec q s hs at_ ha _ h).mono ?_; rintro e w' ⟨rfl, n1, rfl⟩)
  go_ret2
  exact ⟨rfl, _, rfl⟩

theorem get_ok (q : Nat) (s : ByteArray) (hs : s.size ≤ 1000000000000000000) (at_ : Nat) (k : Nat) (hk : k ≤ 64) (he : at_ + k ≤ 8 * s.size) (w : World) (h : Rd w q s at_) :
    Calls Tryd.prog 42 #[.pointer (some ⟨q, 0, none⟩), .int .i64 (k : Int)] w fun e w' => e = .returned (.tuple #[.int .u64 (bitsAt s at_ k : Int), .int .i64 0]) ∧ Rd w' q s (at_ + k) ∧ Stays (only q) w w' := by
  go_enter Tryd.func42, Tryd.ntmps42
  go_wp2_with (first | (go_at_call 58; refine (rest_spec q s hs at_ (by omega) _ h).mono ?_; rintro e w' ⟨rfl, n1, rfl⟩) | (go_at_call 59; refine (take_spec q s hs at_ k he hk _ (h.drewN _)).mono ?_; rintro e w2 ⟨rfl, hR2, hS2⟩))
  go_ret2
  exact ⟨rfl, hR2, ((Stays.refl _ _).drewN n1).trans hS2 (fun _ _ h => h)⟩

end Go.Proofs.YtfmpiidnemhijaaDoor
