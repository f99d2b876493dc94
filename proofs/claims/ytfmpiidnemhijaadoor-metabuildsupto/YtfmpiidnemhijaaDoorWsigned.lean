/- Own text: the walks of both writers' Signed, Unary and Rice. -/
import Derived.Test.YtfmpiidnemhijaaDoorRefwrite
import Derived.Test.YtfmpiidnemhijaaDoorAwake
namespace Go.Proofs.YtfmpiidnemhijaaDoor
open Go.RowKit
set_option linter.unusedSimpArgs false
set_option linter.unusedVariables false


/-- Does n fit in k bits, signed? -/
def fitsP (n k : Int) : Prop := 1 ≤ k ∧ k ≤ 64 ∧ -2 ^ (k - 1).toNat ≤ n ∧ n < 2 ^ (k - 1).toNat

/-- n as an unsigned number of 64 bits. -/
def asU (n : Int) : Nat := (n % 18446744073709551616).toNat

theorem asU_lt (n : Int) : asU n < 18446744073709551616 := by unfold asU; omega
theorem asU_wrap (n : Int) : IntKind.u64.wrap n = (asU n : Int) := by rw [IntKind.wrap_u64]; unfold asU; omega

theorem sign_div (n : Int) (m : Nat) : (n / 2 ^ m = 0 ↔ 0 ≤ n ∧ n < 2 ^ m) ∧ (n / 2 ^ m = -1 ↔ -2 ^ m ≤ n ∧ n < 0) := by
  have hp : 0 < (2 : Int) ^ m := Int.pow_pos (by decide)
  have h1 := Int.emod_nonneg n (Int.ne_of_gt hp)
  have h2 := Int.emod_lt_of_pos n hp
  have h3 := Int.mul_ediv_add_emod n (2 ^ m)
  generalize (2 : Int) ^ m = A at *
  generalize n % A = r at *
  generalize n / A = q at *
  constructor
  · constructor
    · rintro rfl; simp at h3; omega
    · intro ⟨ha, hb⟩
      rcases Int.lt_trichotomy q 0 with h | h | h
      · have : A * q ≤ A * (-1) := Int.mul_le_mul_of_nonneg_left (by omega) (by omega)
        omega
      · exact h
      · have : A * 1 ≤ A * q := Int.mul_le_mul_of_nonneg_left (by omega) (by omega)
        omega
  · constructor
    · rintro rfl; omega
    · intro ⟨ha, hb⟩
      rcases Int.lt_trichotomy q (-1) with h | h | h
      · have : A * q ≤ A * (-2) := Int.mul_le_mul_of_nonneg_left (by omega) (by omega)
        omega
      · exact h
      · have : A * 0 ≤ A * q := Int.mul_le_mul_of_nonneg_left (by omega) (by omega)
        omega

end Go.Proofs.YtfmpiidnemhijaaDoor
