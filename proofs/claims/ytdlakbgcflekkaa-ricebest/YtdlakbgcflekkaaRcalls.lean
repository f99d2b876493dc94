/- Own text: the contracts of the reader's calls. -/
import Derived.Test.YtdlakbgcflekkaaZeros
namespace Go.Proofs.Ytdlakbgcflekkaa
open Go.RowKit
set_option linter.unusedSimpArgs false
set_option linter.unusedVariables false


theorem get_none (k : Int) (w : World) : Calls Try.prog 74 #[.pointer none, .int .i64 k] w fun e w' => e = .returned (.tuple #[.int .u64 0, .int .i64 1]) ∧ w' = w := by
  go_enter Try.func74, Try.ntmps74
  go_wp2
  go_ret2
  exact ⟨rfl, rfl⟩

theorem get_width (q : Nat) (k : Int) (hk : k < 0 ∨ 64 < k) (w : World) : Calls Try.prog 74 #[.pointer (some ⟨q, 0, none⟩), .int .i64 k] w fun e w' => e = .returned (.tuple #[.int .u64 0, .int .i64 11]) ∧ w' = w := by
  rcases hk with hk | hk
  · go_enter Try.func74, Try.ntmps74
    go_wp2
    go_ret2
    exact ⟨rfl, rfl⟩
  · go_enter Try.func74, Try.ntmps74
    go_wp2
    go_ret2
    exact ⟨rfl, rfl⟩

theorem get_end (q : Nat) (s : ByteArray) (hs : s.size ≤ 1000000000000000000) (at_ : Nat) (ha : at_ ≤ 8 * s.size) (k : Nat) (hk : k ≤ 64) (he : 8 * s.size < at_ + k) (w : World) (h : Rd w q s at_) :
    Calls Try.prog 74 #[.pointer (some ⟨q, 0, none⟩), .int .i64 (k : Int)] w fun e w' => e = .returned (.tuple #[.int .u64 0, .int .i64 10]) ∧ ∃ n, w' = w.drewN n := by
  go_enter Try.func74, Try.ntmps74
  go_wp2_with (go_at_call 77; refine (rest_spec q s hs at_ ha _ h).mono ?_; rintro e w' ⟨rfl, n1, rfl⟩)
  go_ret2
  exact ⟨rfl, _, rfl⟩

theorem get_ok (q : Nat) (s : ByteArray) (hs : s.size ≤ 1000000000000000000) (at_ : Nat) (k : Nat) (hk : k ≤ 64) (he : at_ + k ≤ 8 * s.size) (w : World) (h : Rd w q s at_) :
    Calls Try.prog 74 #[.pointer (some ⟨q, 0, none⟩), .int .i64 (k : Int)] w fun e w' => e = .returned (.tuple #[.int .u64 (bitsAt s at_ k : Int), .int .i64 0]) ∧ Rd w' q s (at_ + k) ∧ Stays (only q) w w' := by
  go_enter Try.func74, Try.ntmps74
  go_wp2_with (first | (go_at_call 77; refine (rest_spec q s hs at_ (by omega) _ h).mono ?_; rintro e w' ⟨rfl, n1, rfl⟩) | (go_at_call 78; refine (take_spec q s hs at_ k he hk _ (h.drewN _)).mono ?_; rintro e w2 ⟨rfl, hR2, hS2⟩))
  go_ret2
  exact ⟨rfl, hR2, ((Stays.refl _ _).drewN n1).trans hS2 (fun _ _ h => h)⟩

theorem signed_none (k : Int) (w : World) : Calls Try.prog 76 #[.pointer none, .int .i64 k] w fun e w' => e = .returned (.tuple #[.int .i64 0, .int .i64 1]) ∧ w' = w := by
  go_enter Try.func76, Try.ntmps76
  go_wp2
  go_ret2
  exact ⟨rfl, rfl⟩

theorem runary_none (w : World) : Calls Try.prog 79 #[.pointer none] w fun e w' => e = .returned (.tuple #[.int .i64 0, .int .i64 1]) ∧ w' = w := by
  go_enter Try.func79, Try.ntmps79
  go_wp2
  go_ret2
  exact ⟨rfl, rfl⟩

theorem runary_width (q : Nat) (s : ByteArray) (hs : s.size ≤ 1000000000000000000) (at_ : Nat) (ha : at_ ≤ 8 * s.size) (hl : 16777216 < lead (ahead s at_)) (w : World) (h : Rd w q s at_) :
    Calls Try.prog 79 #[.pointer (some ⟨q, 0, none⟩)] w fun e w' => e = .returned (.tuple #[.int .i64 0, .int .i64 11]) ∧ ∃ n, w' = w.drewN n := by
  go_enter Try.func79, Try.ntmps79
  go_wp2_with (go_at_call 82; refine (zeros_spec q s hs at_ ha _ h).mono ?_; rintro e w' ⟨m, rfl, hm1, hm2, n1, rfl⟩; have hm : 16777216 < m := (by omega); clear hm1 hm2)
  go_ret2
  exact ⟨rfl, _, rfl⟩

theorem runary_end (q : Nat) (s : ByteArray) (hs : s.size ≤ 1000000000000000000) (at_ : Nat) (ha : at_ ≤ 8 * s.size) (hl : lead (ahead s at_) ≤ 16777216) (he : lead (ahead s at_) = 8 * s.size - at_) (w : World) (h : Rd w q s at_) :
    Calls Try.prog 79 #[.pointer (some ⟨q, 0, none⟩)] w fun e w' => e = .returned (.tuple #[.int .i64 0, .int .i64 10]) ∧ ∃ n, w' = w.drewN n := by
  go_enter Try.func79, Try.ntmps79
  go_wp2_with (first | (go_at_call 82; refine (zeros_spec q s hs at_ ha _ h).mono ?_; rintro e w' ⟨m, rfl, hm1, hm2, n1, rfl⟩; have hm : ((m : Int) == 8 * (s.size : Int) - (at_ : Int)) = true := (by simp; omega); have hm3 : m ≤ 16777216 := (by omega); clear hm1 hm2 hl he) | (go_at_call 77; refine (rest_spec q s hs at_ ha _ (h.drewN _)).mono ?_; rintro e w' ⟨rfl, n2, rfl⟩))
  go_ret2
  exact ⟨rfl, _, rfl⟩

theorem runary_ok (q : Nat) (s : ByteArray) (hs : s.size ≤ 1000000000000000000) (at_ : Nat) (ha : at_ ≤ 8 * s.size) (z : Nat) (hz : lead (ahead s at_) = z) (hl : z ≤ 16777216) (he : z < 8 * s.size - at_) (w : World) (h : Rd w q s at_) :
    Calls Try.prog 79 #[.pointer (some ⟨q, 0, none⟩)] w fun e w' => e = .returned (.tuple #[.int .i64 (z : Int), .int .i64 0]) ∧ Rd w' q s (at_ + z + 1) ∧ Stays (only q) w w' := by
  have HZ : Hid _ := hz
  clear hz
  have hne : ((z : Int) == 8 * (s.size : Int) - (at_ : Int)) = false := by simp; omega
  go_enter Try.func79, Try.ntmps79
  go_wp2_with (first | (go_at_call 82; refine (zeros_spec q s hs at_ ha _ h).mono ?_; rintro e w' ⟨m, rfl, hm1, hm2, n1, rfl⟩; rw [HZ.out] at hm1 hm2; obtain rfl : m = z := (by omega); clear hm1 hm2) | (go_at_call 77; refine (rest_spec q s hs at_ ha _ (h.drewN _)).mono ?_; rintro e w' ⟨rfl, n2, rfl⟩))
  rw [show (m : Int) + 1 = ((m + 1 : Nat) : Int) from by omega]
  refine (pass_spec q s hs at_ (m + 1) (by omega) _ (h.drewN _)).mono ?_
  rintro e w2 ⟨rfl, hR2, hS2⟩
  go_wp2
  go_ret2
  exact ⟨rfl, hR2, ((Stays.refl _ _).drewN _).trans hS2 (fun _ _ h => h)⟩

theorem rrice_none (k : Int) (w : World) : Calls Try.prog 75 #[.pointer none, .int .i64 k] w fun e w' => e = .returned (.tuple #[.int .i64 0, .int .i64 1]) ∧ w' = w := by
  go_enter Try.func75, Try.ntmps75
  go_wp2
  go_ret2
  exact ⟨rfl, rfl⟩

theorem at_none (w : World) : Calls Try.prog 25 #[.pointer none] w fun e w' => e = .returned (.int .i64 0) ∧ w' = w := by
  go_enter Try.func25, Try.ntmps25
  go_wp2
  go_ret
  exact ⟨rfl, rfl⟩

theorem wsigned_none (n k : Int) (w : World) : Calls Try.prog 60 #[.pointer none, .int .i64 n, .int .i64 k] w fun e w' => e = .returned (.int .i64 1) ∧ w' = w := by
  go_enter Try.func60, Try.ntmps60
  go_wp2
  go_ret
  exact ⟨rfl, rfl⟩

end Go.Proofs.Ytdlakbgcflekkaa
