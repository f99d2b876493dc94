/- Own text: the walks of 'folded' and of the document's 'Fold', and of the writer's 'Rice'. -/
import Derived.Test.YtfmpiidnemhijaaDoorWcalls
namespace Go.Proofs.YtfmpiidnemhijaaDoor
open Go.RowKit
set_option linter.unusedSimpArgs false
set_option linter.unusedVariables false


theorem ret_int {k : IntKind} {a b : Int} (h : a = b) : Ending.returned (.int k a) = .returned (.int k b) := by rw [h]

/-- Twice n, or twice -n less 1. -/
def foldN (n : Int) : Nat := if 0 ≤ n then (2 * n).toNat else (-(2 * n) - 1).toNat

theorem foldN_pos (n : Int) (h : 0 ≤ n) : (foldN n : Int) = 2 * n := by unfold foldN; rw [if_pos h]; omega
theorem foldN_neg (n : Int) (h : n < 0) : (foldN n : Int) = -(2 * n) - 1 := by unfold foldN; rw [if_neg (by omega)]; omega
theorem foldN_lt (n : Int) (h1 : -9223372036854775808 ≤ n) (h2 : n ≤ 9223372036854775807) : foldN n < 18446744073709551616 := by
  by_cases h : 0 ≤ n
  · have := foldN_pos n h; omega
  · have := foldN_neg n (by omega); omega

theorem xor_ones (x : Nat) (h : x < 18446744073709551616) : x ^^^ 18446744073709551615 = 18446744073709551615 - x := by
  apply Nat.eq_of_testBit_eq
  intro i
  have e : (18446744073709551615 : Nat) - x = 2 ^ 64 - (x + 1) := by omega
  rw [e, Nat.testBit_two_pow_sub_succ (by omega), Nat.testBit_xor, show (18446744073709551615 : Nat) = 2 ^ 64 - 1 from rfl, Nat.testBit_two_pow_sub_one]
  by_cases hi : i < 64
  · simp [hi]
  · have : x.testBit i = false := Nat.testBit_lt_two_pow (Nat.lt_of_lt_of_le h (Nat.pow_le_pow_right (n := 2) (by decide) (show 64 ≤ i by omega)))
    simp [hi, this]

theorem div_cast (x k : Nat) : (x : Int) / 2 ^ k = ((x / 2 ^ k : Nat) : Int) := by simp

end Go.Proofs.YtfmpiidnemhijaaDoor
