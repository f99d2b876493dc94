/- Own text: the walks of the document's Rice, and of both readers' Align. -/
import Derived.Test.YtdlakbgcflekkaaRrice
namespace Go.Proofs.Ytdlakbgcflekkaa
open Go.RowKit
set_option linter.unusedSimpArgs false
set_option linter.unusedVariables false


theorem refrice_width (x : Nat) (k : Int) (hk : k < 0 ∨ 30 < k) (w : World) : Calls Try.prog 47 #[.pointer (some ⟨x, 0, none⟩), .int .i64 k] w fun e w' => e = .returned (.tuple #[.int .i64 0, .int .i64 11]) ∧ w' = w := by
  rcases hk with hk | hk
  · go_enter Try.func47, Try.ntmps47
    go_wp2
    go_ret2
    exact ⟨rfl, rfl⟩
  · go_enter Try.func47, Try.ntmps47
    go_wp2
    go_ret2
    exact ⟨rfl, rfl⟩

theorem refrice_uerr (x : Nat) (s : ByteArray) (hs : s.size ≤ 1000000000000000000) (at_ : Nat) (ha : at_ ≤ 8 * s.size) (k : Nat) (hk : k ≤ 30) (hl : 16777216 < lead (ahead s at_)) (w : World) (h : Rr w x s at_) :
    Calls Try.prog 47 #[.pointer (some ⟨x, 0, none⟩), .int .i64 (k : Int)] w fun e w' => e = .returned (.tuple #[.int .i64 0, .int .i64 11]) ∧ w' = w := by
  have c1 := h.c1
  go_enter Try.func47, Try.ntmps47
  go_wp2_with fail
  refine (refunary_spec x s hs at_ ha w h).mono ?_
  rintro e w2 (⟨_, rfl, rfl⟩ | ⟨q1, _⟩ | ⟨q1, _⟩)
  · go_wp2
    go_ret2
    exact ⟨rfl, rfl⟩
  · exact absurd hl (by omega)
  · exact absurd hl (by omega)

theorem refrice_uend (x : Nat) (s : ByteArray) (hs : s.size ≤ 1000000000000000000) (at_ : Nat) (ha : at_ ≤ 8 * s.size) (k : Nat) (hk : k ≤ 30) (hl : lead (ahead s at_) ≤ 16777216) (he : lead (ahead s at_) = 8 * s.size - at_) (w : World) (h : Rr w x s at_) :
    Calls Try.prog 47 #[.pointer (some ⟨x, 0, none⟩), .int .i64 (k : Int)] w fun e w' => e = .returned (.tuple #[.int .i64 0, .int .i64 10]) ∧ w' = w := by
  have HL : Hid _ := hl
  have HE : Hid _ := he
  clear hl he
  have c1 := h.c1
  go_enter Try.func47, Try.ntmps47
  go_wp2_with fail
  refine (refunary_spec x s hs at_ ha w h).mono ?_
  rintro e w2 (⟨q1, _⟩ | ⟨_, _, rfl, rfl⟩ | ⟨_, q1, _⟩)
  · exact absurd q1 (by have := HL.out; omega)
  · go_wp2
    go_ret2
    exact ⟨rfl, rfl⟩
  · exact absurd q1 (by have := HE.out; omega)

theorem refrice_gend (x : Nat) (s : ByteArray) (hs : s.size ≤ 1000000000000000000) (at_ : Nat) (ha : at_ ≤ 8 * s.size) (k : Nat) (hk : k ≤ 30) (z : Nat) (hz : lead (ahead s at_) = z) (hl : z ≤ 16777216) (hzr : z < 8 * s.size - at_) (he : 8 * s.size < at_ + z + 1 + k) (w : World) (h : Rr w x s at_) :
    Calls Try.prog 47 #[.pointer (some ⟨x, 0, none⟩), .int .i64 (k : Int)] w fun e w' => e = .returned (.tuple #[.int .i64 0, .int .i64 10]) ∧ Rr w' x s at_ ∧ Stays (only x) w w' := by
  have HZ : Hid _ := hz
  clear hz
  have c1 := h.c1
  go_enter Try.func47, Try.ntmps47
  go_wp2_with fail
  refine (refunary_spec x s hs at_ ha w h).mono ?_
  rintro e w2 (⟨q1, _⟩ | ⟨_, q1, _⟩ | ⟨_, _, rfl, hR2, hS2⟩)
  · exact absurd q1 (by have := HZ.out; omega)
  · exact absurd q1 (by have := HZ.out; omega)
  · rw [HZ.out] at hR2 ⊢
    have d1 := hR2.c1
    have g1 := hR2.f 1
    clear c1
    go_wp2_with fail
    refine (refget_end x s hs (at_ + z + 1) (by omega) k (by omega) he _ hR2).mono ?_
    rintro e w3 ⟨rfl, n1, rfl⟩
    go_wp2
    go_ret2
    exact ⟨rfl, (hR2.drewN n1).set at_, (hS2.drewN _).setCell ⟨x, 1, none⟩ _ (.inl rfl)⟩

theorem plus_low (z low k : Nat) (hz : z ≤ 16777216) (hk : k ≤ 30) (hl : low < 2 ^ k) :
    IntKind.u64.wrap (IntKind.u64.wrap ((z : Int) * 2 ^ k) + (low : Int)) = ((z * 2 ^ k + low : Nat) : Int) := by
  have h30 : (2 : Nat) ^ k ≤ 2 ^ 30 := pow_le_of k 30 hk
  have hm : z * 2 ^ k ≤ 16777216 * 2 ^ 30 := Nat.mul_le_mul hz h30
  have e1 : (z : Int) * 2 ^ k = ((z * 2 ^ k : Nat) : Int) := by simp
  rw [IntKind.wrap_u64, IntKind.wrap_u64, e1]
  omega

theorem refrice_ok (x : Nat) (s : ByteArray) (hs : s.size ≤ 1000000000000000000) (at_ : Nat) (ha : at_ ≤ 8 * s.size) (k : Nat) (hk : k ≤ 30) (z : Nat) (hz : lead (ahead s at_) = z) (hl : z ≤ 16777216) (he : at_ + z + 1 + k ≤ 8 * s.size) (w : World) (h : Rr w x s at_) :
    Calls Try.prog 47 #[.pointer (some ⟨x, 0, none⟩), .int .i64 (k : Int)] w fun e w' => e = .returned (.tuple #[.int .i64 (unfoldN (z * 2 ^ k + bitsAt s (at_ + z + 1) k)), .int .i64 0]) ∧ Rr w' x s (at_ + z + 1 + k) ∧ Stays (only x) w w' := by
  have HZ : Hid _ := hz
  clear hz
  have c1 := h.c1
  go_enter Try.func47, Try.ntmps47
  go_wp2_with fail
  refine (refunary_spec x s hs at_ ha w h).mono ?_
  rintro e w2 (⟨q1, _⟩ | ⟨_, q1, _⟩ | ⟨_, _, rfl, hR2, hS2⟩)
  · exact absurd q1 (by have := HZ.out; omega)
  · exact absurd q1 (by have := HZ.out; omega)
  · rw [HZ.out] at hR2 ⊢
    clear c1
    go_wp2_with fail
    refine (refget_ok x s hs (at_ + z + 1) k (by omega) he _ hR2).mono ?_
    rintro e w3 ⟨rfl, hR3, hS3⟩
    have HP : Hid _ := plus_low z (bitsAt s (at_ + z + 1) k) k hl hk (bitsAt_lt s _ k)
    have HO : Hid _ := or_low z (bitsAt s (at_ + z + 1) k) k hl hk (bitsAt_lt s _ k)
    go_wp2_with fail
    rw [HP.out]
    refine (refunfold_spec _ HO.out.2 _).mono ?_
    rintro e w4 ⟨rfl, rfl⟩
    go_wp2
    go_ret2
    exact ⟨rfl, hR3, hS2.trans hS3 (fun _ _ h => h)⟩

/-- How many bits there are to a whole byte. -/
def padOf (at_ : Nat) : Nat := (8 - at_ % 8) % 8

/-- Where the document's reader stands. -/
def atOf (w : World) (x : Nat) : Nat := match w.cell? ⟨x, 1, none⟩ with
  | some (.int _ n) => n.toNat
  | _ => 0

theorem atOf_eq {w : World} {x : Nat} {s : ByteArray} {a : Nat} (h : Rr w x s a) : atOf w x = a := by
  unfold atOf
  rw [h.c1]
  simp

end Go.Proofs.Ytdlakbgcflekkaa
