/- Own text: signed numbers and folded ones, there and back: the walks of both readers' Signed, of unfolded and Unfold. -/
import Derived.Test.YtfmpiidnemhijaaDoorRefread
namespace Go.Proofs.YtfmpiidnemhijaaDoor
open Go.RowKit
set_option linter.unusedSimpArgs false
set_option linter.unusedVariables false


/-- The number whose folded one u is. -/
def unfoldN (u : Nat) : Int := if u % 2 = 0 then ((u / 2 : Nat) : Int) else -((u / 2 : Nat) : Int) - 1

theorem u64_and1 (u : Nat) (hu : u < 18446744073709551616) : bits BinOp.and IntKind.u64 (u : Int) 1 = ((u % 2 : Nat) : Int) := by
  have := u64_and_nat u 1 hu (by decide)
  rw [nat_mask1] at this
  exact this

theorem i64_xor0 (x : Int) (h1 : -9223372036854775808 ≤ x) (h2 : x ≤ 9223372036854775807) : bits BinOp.xor IntKind.i64 x 0 = x := by
  show IntKind.i64.wrap ((BitVec.ofInt 64 x ^^^ BitVec.ofInt 64 0).toNat : Int) = _
  rw [BitVec.toNat_xor, BitVec.toNat_ofInt, show (BitVec.ofInt 64 0).toNat = 0 from rfl, Nat.xor_zero, IntKind.wrap_i64]
  omega

theorem i64_xor1 (x : Int) (h1 : -9223372036854775808 ≤ x) (h2 : x ≤ 9223372036854775807) : bits BinOp.xor IntKind.i64 x (-1) = -x - 1 := by
  show IntKind.i64.wrap ((BitVec.ofInt 64 x ^^^ BitVec.ofInt 64 (-1)).toNat : Int) = _
  rw [BitVec.toNat_xor, BitVec.toNat_ofInt, show (BitVec.ofInt 64 (-1)).toNat = 18446744073709551615 from rfl, xor_ones _ (by omega), IntKind.wrap_i64]
  omega

/-- Two's complement of k bits. -/
def sgn (u k : Nat) : Int := if 2 ^ (k - 1) ≤ u then (u : Int) - 2 ^ k else (u : Int)

theorem ret_pair {k l : IntKind} {a b c : Int} (h : a = b) : Ending.returned (.tuple #[.int k a, .int l c]) = .returned (.tuple #[.int k b, .int l c]) := by rw [h]

theorem sgn_code (u k : Nat) (h1 : 1 ≤ k) (h2 : k ≤ 64) (hu : u < 2 ^ k) : wrap64 (IntKind.u64.wrap ((u : Int) * 2 ^ (64 - k))) / 2 ^ (64 - k) = sgn u k := by
  obtain ⟨A, hA⟩ : ∃ A, A = (2 : Nat) ^ (64 - k) := ⟨_, rfl⟩
  obtain ⟨H, hH⟩ : ∃ H, H = (2 : Nat) ^ (k - 1) := ⟨_, rfl⟩
  have hA0 : 0 < A := by rw [hA]; exact Nat.two_pow_pos _
  have hHA : H * A = 9223372036854775808 := by rw [hA, hH, ← Nat.pow_add, show k - 1 + (64 - k) = 63 from by omega]
  have hk : (2 : Nat) ^ k = 2 * H := by rw [hH, ← Nat.pow_succ', show (k - 1).succ = k from by omega]
  have ei : (2 : Int) ^ (64 - k) = (A : Int) := by rw [hA]; simp
  have ek : (2 : Int) ^ k = ((2 * H : Nat) : Int) := by rw [← hk]; simp
  have eu : (u : Int) * (A : Int) = ((u * A : Nat) : Int) := by simp
  have hub : u * A < (2 * H) * A := Nat.mul_lt_mul_of_pos_right (by omega) hA0
  rw [Nat.mul_assoc, hHA] at hub
  unfold sgn
  rw [ei, ek, eu, IntKind.wrap_u64, ← hH]
  by_cases hh : H ≤ u
  · rw [if_pos hh]
    have hge : H * A ≤ u * A := Nat.mul_le_mul_right _ hh
    have e1 : wrap64 (((u * A : Nat) : Int) % 18446744073709551616) = ((u : Int) - ((2 * H : Nat) : Int)) * (A : Int) := by
      have e2 : ((u : Int) - ((2 * H : Nat) : Int)) * (A : Int) = ((u * A : Nat) : Int) - ((2 * (H * A) : Nat) : Int) := by
        rw [Int.sub_mul, eu, ← Nat.mul_assoc]
        simp
      rw [e2, hHA]
      unfold wrap64
      omega
    rw [e1, Int.mul_ediv_cancel _ (by omega)]
  · rw [if_neg hh]
    have hlt : u * A < H * A := Nat.mul_lt_mul_of_pos_right (by omega) hA0
    have e1 : wrap64 (((u * A : Nat) : Int) % 18446744073709551616) = (u : Int) * (A : Int) := by
      rw [eu]
      unfold wrap64
      omega
    rw [e1, Int.mul_ediv_cancel _ (by omega)]

theorem sgn_half (u k : Nat) (h1 : 1 ≤ k) (hu : u < 2 ^ k) : (u : Int) / 2 ^ (k - 1) = if 2 ^ (k - 1) ≤ u then 1 else 0 := by
  have hk : (2 : Nat) ^ k = 2 * 2 ^ (k - 1) := by rw [← Nat.pow_succ', show (k - 1).succ = k from by omega]
  rw [div_cast]
  obtain ⟨H, hH⟩ : ∃ H, H = (2 : Nat) ^ (k - 1) := ⟨_, rfl⟩
  have h0 : 0 < H := by rw [hH]; exact Nat.two_pow_pos _
  rw [← hH] at hk ⊢
  by_cases h : H ≤ u
  · rw [if_pos h, Nat.div_eq_of_lt_le (k := 1) (by omega) (by omega)]; rfl
  · rw [if_neg h, Nat.div_eq_of_lt (by omega)]; rfl

end Go.Proofs.YtfmpiidnemhijaaDoor
