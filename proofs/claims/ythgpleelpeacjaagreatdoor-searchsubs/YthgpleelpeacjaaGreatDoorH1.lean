/- Own text. -/

set_option linter.unusedSimpArgs false
set_option linter.unusedVariables false
set_option maxRecDepth 20000
set_option maxHeartbeats 12800000
namespace Go.Proofs.YthgpleelpeacjaaGreatDoor
def num (L : List Nat) : Nat := L.foldl (fun a b => 2 * a + b) 0
def bitsOf (n : Nat) : Nat → List Nat
 | 0 => []
 | k + 1 => (n / 2 ^ k % 2) :: bitsOf n k
theorem bitsOf_length (n k : Nat) : (bitsOf n k).length = k := by induction k with
 | zero => rfl
 | succ k ih => simp [bitsOf, ih]
theorem bitsOf_mod (n k j : Nat) (h : j ≤ k) : bitsOf (n % 2 ^ k) j = bitsOf n j := by
 induction j with
 | zero => rfl
 | succ j ih =>
  simp only [bitsOf]
  rw [ih (by omega)]
  congr 1
  have h1 : n % 2 ^ k / 2 ^ j % 2 = (n % 2 ^ k) % 2 ^ (j + 1) / 2 ^ j := by
   rw [Nat.pow_succ, Nat.mod_mul_right_div_self]
  have h2 : n / 2 ^ j % 2 = n % 2 ^ (j + 1) / 2 ^ j := by
   rw [Nat.pow_succ, Nat.mod_mul_right_div_self]
  rw [h1, h2, Nat.mod_mod_of_dvd _ (Nat.pow_dvd_pow 2 h)]
end Go.Proofs.YthgpleelpeacjaaGreatDoor
