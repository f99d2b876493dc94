/- Own text: what the machine's and, or and shifts make of numbers, in the spelling in which the walk shows them. It speaks of no program. -/
import Derived.WalkKit
import Derived.Laws.Bits64
import Derived.Laws.BitsAllLaws
import Derived.Test.YtfmpiidnemhijaaDoorBitlist
namespace Go.Proofs.YtfmpiidnemhijaaDoor
open Go.RowKit
set_option linter.unusedSimpArgs false
set_option linter.unusedVariables false


theorem pow_le_of (k m : Nat) (h : k ≤ m) : (2 : Nat) ^ k ≤ 2 ^ m := Nat.pow_le_pow_right (by decide) h

/-- 'n & (1<<k - 1)'. -/
theorem mask_u64 (n k : Nat) (hn : n < 18446744073709551616) (hk : k ≤ 63) :
    bits BinOp.and IntKind.u64 (n : Int) (IntKind.u64.wrap (IntKind.u64.wrap (2 ^ k) - 1)) = ((n % 2 ^ k : Nat) : Int) := by
  have h1 : (2 : Nat) ^ k ≤ 2 ^ 63 := pow_le_of k 63 hk
  have h0 : 0 < (2 : Nat) ^ k := Nat.two_pow_pos k
  have e1 : ((2 : Int) ^ k) = ((2 ^ k : Nat) : Int) := by simp
  have e : IntKind.u64.wrap (IntKind.u64.wrap (2 ^ k) - 1) = ((2 ^ k - 1 : Nat) : Int) := by
    rw [IntKind.wrap_u64, IntKind.wrap_u64, e1]
    omega
  rw [e, u64_and_nat n (2 ^ k - 1) hn (by omega), Nat.and_two_pow_sub_one_eq_mod]

/-- 'b |= byte(part << j)', part of k bits, where b has nothing in its k + j lowest bits. -/
theorem or_u8 (x part k j : Nat) (q : Nat) (hx : x = q * 2 ^ (k + j)) (hx2 : x < 256) (hp : part < 2 ^ k) (hkj : k + j ≤ 8) :
    bits BinOp.or IntKind.u8 (x : Int) (IntKind.u64.wrap ((part : Int) * 2 ^ j) % 256) = ((x + part * 2 ^ j : Nat) : Int) := by
  have h1 : part * 2 ^ j < 2 ^ (k + j) := by
    rw [Nat.pow_add]
    exact Nat.mul_lt_mul_of_pos_right hp (Nat.two_pow_pos j)
  have h2 : (2 : Nat) ^ (k + j) ≤ 2 ^ 8 := pow_le_of _ 8 hkj
  have e1 : (part : Int) * 2 ^ j = ((part * 2 ^ j : Nat) : Int) := by simp
  have e : IntKind.u64.wrap ((part : Int) * 2 ^ j) % 256 = ((part * 2 ^ j : Nat) : Int) := by
    rw [IntKind.wrap_u64, e1]
    omega
  rw [e, u8_or_nat _ _ hx2 (by omega), nat_join (k + j) x _ (by rw [hx]; simp) h1]

theorem i64_and7 (n : Int) : bits BinOp.and IntKind.i64 n 7 = n % 8 := by
  show IntKind.i64.wrap ((BitVec.ofInt 64 n &&& BitVec.ofInt 64 7).toNat : Int) = _
  rw [BitVec.toNat_and, BitVec.toNat_ofInt, show (BitVec.ofInt 64 7).toNat = 2 ^ 3 - 1 from rfl, Nat.and_two_pow_sub_one_eq_mod, IntKind.wrap_i64]
  omega

/-- 'n<<t | next & (1<<t - 1)'. -/
theorem or_u64 (x y t : Nat) (hx : x * 2 ^ t < 18446744073709551616) (hy : y < 18446744073709551616) (ht : t ≤ 63) :
    bits BinOp.or IntKind.u64 (IntKind.u64.wrap ((x : Int) * 2 ^ t)) (bits BinOp.and IntKind.u64 (y : Int) (IntKind.u64.wrap (IntKind.u64.wrap (2 ^ t) - 1))) = ((x * 2 ^ t + y % 2 ^ t : Nat) : Int) := by
  have e : IntKind.u64.wrap ((x : Int) * 2 ^ t) = ((x * 2 ^ t : Nat) : Int) := by
    have e1 : (x : Int) * 2 ^ t = ((x * 2 ^ t : Nat) : Int) := by simp
    rw [IntKind.wrap_u64, e1]; omega
  have hp : y % 2 ^ t < 2 ^ t := Nat.mod_lt _ (Nat.two_pow_pos t)
  have h63 : (2 : Nat) ^ t ≤ 2 ^ 63 := pow_le_of t 63 ht
  rw [e, mask_u64 y t hy ht, u64_or_nat _ _ hx (by omega), nat_join t _ _ (by simp) hp]
end Go.Proofs.YtfmpiidnemhijaaDoor
