/- Own text: the walks of both readers' Rice and Align. -/
import Derived.Test.YtfmpiidnemhijaaDoorSigns
import Derived.Test.YtfmpiidnemhijaaDoorAwake
namespace Go.Proofs.YtfmpiidnemhijaaDoor
open Go.RowKit
set_option linter.unusedSimpArgs false
set_option linter.unusedVariables false


theorem or_low (z low k : Nat) (hz : z ≤ 16777216) (hk : k ≤ 30) (hl : low < 2 ^ k) :
    bits BinOp.or IntKind.u64 (IntKind.u64.wrap ((z : Int) * 2 ^ k)) (low : Int) = ((z * 2 ^ k + low : Nat) : Int) ∧ z * 2 ^ k + low < 18446744073709551616 := by
  have h30 : (2 : Nat) ^ k ≤ 2 ^ 30 := pow_le_of k 30 hk
  have hm : z * 2 ^ k ≤ 16777216 * 2 ^ 30 := Nat.mul_le_mul hz h30
  have e : IntKind.u64.wrap ((z : Int) * 2 ^ k) = ((z * 2 ^ k : Nat) : Int) := by
    have e1 : (z : Int) * 2 ^ k = ((z * 2 ^ k : Nat) : Int) := by simp
    rw [IntKind.wrap_u64, e1]
    omega
  exact ⟨by rw [e, u64_or_nat _ _ (by omega) (by omega), nat_join k _ _ (by simp) hl], by omega⟩

theorem below_only {q : Nat} {w w' : World} (h : Below w.heap.size w w') : Stays (only q) w w' := Stays.of_below h _

end Go.Proofs.YtfmpiidnemhijaaDoor
