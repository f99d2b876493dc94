/- Own text: the walks of the document's Rice, and of both readers' Align. -/
import Derived.Test.YtfmpiidnemhijaaDoorRrice
namespace Go.Proofs.YtfmpiidnemhijaaDoor
open Go.RowKit
set_option linter.unusedSimpArgs false
set_option linter.unusedVariables false
theorem plus_low (z low k : Nat) (hz : z ≤ 16777216) (hk : k ≤ 30) (hl : low < 2 ^ k) :
    IntKind.u64.wrap (IntKind.u64.wrap ((z : Int) * 2 ^ k) + (low : Int)) = ((z * 2 ^ k + low : Nat) : Int) := by
  have h30 : (2 : Nat) ^ k ≤ 2 ^ 30 := pow_le_of k 30 hk
  have hm : z * 2 ^ k ≤ 16777216 * 2 ^ 30 := Nat.mul_le_mul hz h30
  have e1 : (z : Int) * 2 ^ k = ((z * 2 ^ k : Nat) : Int) := by simp
  rw [IntKind.wrap_u64, IntKind.wrap_u64, e1]
  omega

/-- How many bits there are to a whole byte. -/
def padOf (at_ : Nat) : Nat := (8 - at_ % 8) % 8

/-- Where the document's reader stands. -/
def atOf (w : World) (x : Nat) : Nat := match w.cell? ⟨x, 1, none⟩ with
  | some (.int _ n) => n.toNat
  | _ => 0

theorem atOf_eq {w : World} {x : Nat} {s : ByteArray} {a : Nat} (h : Rr w x s a) : atOf w x = a := by
  unfold atOf
  rw [h.c1]
  simp

end Go.Proofs.YtfmpiidnemhijaaDoor
