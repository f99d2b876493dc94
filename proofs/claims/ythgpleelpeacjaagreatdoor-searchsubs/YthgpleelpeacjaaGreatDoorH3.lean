/- Own text. -/
import Derived.WalkKit
import Derived.Laws.Bits64
import Derived.Laws.BitsAllLaws
import Derived.Test.YthgpleelpeacjaaGreatDoorH1
set_option linter.unusedSimpArgs false
set_option linter.unusedVariables false
set_option maxRecDepth 20000
set_option maxHeartbeats 12800000
namespace Go.Proofs.YthgpleelpeacjaaGreatDoor
open Go.RowKit
theorem pow_le_of (k m : Nat) (h : k ≤ m) : (2 : Nat) ^ k ≤ 2 ^ m := Nat.pow_le_pow_right (by decide) h
theorem mask_u64 (n k : Nat) (hn : n < 18446744073709551616) (hk : k ≤ 63) :
  bits BinOp.and IntKind.u64 (n : Int) (IntKind.u64.wrap (IntKind.u64.wrap (2 ^ k) - 1)) = ((n % 2 ^ k : Nat) : Int) := by
 have h1 : (2 : Nat) ^ k ≤ 2 ^ 63 := pow_le_of k 63 hk
 have h0 : 0 < (2 : Nat) ^ k := Nat.two_pow_pos k
 have e1 : ((2 : Int) ^ k) = ((2 ^ k : Nat) : Int) := by simp
 have e : IntKind.u64.wrap (IntKind.u64.wrap (2 ^ k) - 1) = ((2 ^ k - 1 : Nat) : Int) := by
  rw [IntKind.wrap_u64, IntKind.wrap_u64, e1]
  omega
 rw [e, u64_and_nat n (2 ^ k - 1) hn (by omega), Nat.and_two_pow_sub_one_eq_mod]
end Go.Proofs.YthgpleelpeacjaaGreatDoor
