/- Own text. -/
import Derived.Test.YthgpleelpeacjaaGreatDoorF12
set_option linter.unusedSimpArgs false
set_option linter.unusedVariables false
set_option maxRecDepth 20000
set_option maxHeartbeats 12800000
namespace Go.Proofs.YthgpleelpeacjaaGreatDoor
open Go.RowKit
theorem wid (n : Int) (h : -9223372036854775808 ≤ n ∧ n ≤ 9223372036854775807) : wrap64 n = n := by unfold wrap64; omega
theorem was_lt (l : List Int) (v : Int) (hv : 1 ≤ v) (hl : ∀ x ∈ l, sigE x v = 0) : (wasN l : Int) < v := by
 unfold wasN
 by_cases hz : zerB l = true
 ·rw [if_pos hz]; omega
 rw [if_neg hz]
 have hne : ∃ x, x ∈ l ∧ x ≠ 0 := by
  apply Classical.byContradiction
  intro hno
  apply hz
  unfold zerB
  rw [List.all_eq_true]
  intro x hx
  rw [beq_iff_eq]
  exact Classical.byContradiction fun h => hno ⟨x, hx, h⟩
 obtain ⟨x, hx, h0⟩ := hne
 have hd := (dvB_iff l (wasK l 31)).1 (wasK_dvB l 31) x hx
 obtain ⟨h1, h2, h3, h4⟩ := (sigE_iff x v).1 (hl x hx)
 generalize wasK l 31 = w at *
 apply Classical.byContradiction
 intro hlt
 obtain ⟨k, hk⟩ := Int.dvd_of_emod_eq_zero hd
 obtain ⟨n, hn⟩ : ∃ n, w = (v.toNat - 1) + (n + 1) := ⟨w - (v.toNat - 1) - 1, by omega⟩
 have hp : (2 : Int) ^ w = 2 ^ (v.toNat - 1) * (2 ^ n * 2) := by rw [hn, Int.pow_add, Int.pow_succ]
 have hq : (0 : Int) < 2 ^ (v.toNat - 1) := Int.pow_pos (by decide)
 have hr : (0 : Int) < 2 ^ n := Int.pow_pos (by decide)
 rw [hp, Int.mul_assoc] at hk
 generalize (2 : Int) ^ (v.toNat - 1) = A at *
 generalize (2 : Int) ^ n = T at *
 rw [hk] at h3 h4
 have a1 : (-1 : Int) ≤ T * 2 * k := Int.le_of_mul_le_mul_left (by rw [Int.mul_neg, Int.mul_one]; exact h3) hq
 have a2 : T * 2 * k < 1 := Int.lt_of_mul_lt_mul_left (by rw [Int.mul_one]; exact h4) (Int.le_of_lt hq)
 rcases (show k ≤ -1 ∨ k = 0 ∨ 1 ≤ k by omega) with b | b | b
 ·have := Int.mul_le_mul_of_nonneg_left b (show (0 : Int) ≤ T * 2 by omega)
  omega
 ·rw [b] at hk; rw [Int.mul_zero, Int.mul_zero] at hk; exact h0 hk
 ·have := Int.mul_le_mul_of_nonneg_left b (show (0 : Int) ≤ T * 2 by omega)
  omega
theorem shr_small (l : List Int) (v : Int) (hv : 1 ≤ v) (hv2 : v ≤ 33) (hl : ∀ x ∈ l, sigE x v = 0) (j : Nat) : -4294967296 ≤ (shrL l (wasN l)).getD j 0 ∧ (shrL l (wasN l)).getD j 0 ≤ 4294967296 := by
 by_cases hj : j < (shrL l (wasN l)).length
 ·have hm := getD_mem (shrL l (wasN l)) j hj
  obtain ⟨x, hx, e⟩ := List.mem_map.1 hm
  have hw := was_lt l v hv hl
  have hd := (dvB_iff l (wasN l)).1 (wasN_dvB l) x hx
  obtain ⟨V, rfl⟩ : ∃ V : Nat, v = V := ⟨v.toNat, by omega⟩
  have hf := fit_div x V (wasN l) (by omega) (hl x hx) hd
  obtain ⟨h1, h2, h3, h4⟩ := (sigE_iff _ _).1 hf
  rw [Int.toNat_natCast] at h3 h4
  have hp : (2 : Nat) ^ (V - wasN l - 1) ≤ 2 ^ 32 := Nat.pow_le_pow_right (by decide) (by omega)
  have e32 : (2 : Nat) ^ 32 = 4294967296 := by decide
  rw [pow_int (V - wasN l - 1)] at h3 h4
  rw [← e]
  show -4294967296 ≤ x / 2 ^ wasN l ∧ x / 2 ^ wasN l ≤ 4294967296
  generalize x / 2 ^ wasN l = y at *
  omega
 ·rw [List.getD_eq_getElem?_getD, List.getElem?_eq_none (by omega)]
  exact ⟨by decide, by decide⟩
theorem fx0_small (m : List Int) (hm : ∀ j, -4294967296 ≤ m.getD j 0 ∧ m.getD j 0 ≤ 4294967296) (i : Nat) : -137438953472 ≤ wrap64 (m.getD (0 + i) 0 - foreN (wF 0) 0 m (0 + i)) ∧ wrap64 (m.getD (0 + i) 0 - foreN (wF 0) 0 m (0 + i)) ≤ 137438953472 := by
 have h := hm (0 + i)
 have e : foreN (wF 0) 0 m (0 + i) = (0) / 1 := rfl
 rw [e]
 clear e
 generalize m.getD (0 + i) 0 = y at *
 clear hm
 have ey : wrap64 (y - (0) / 1) = y - (0) / 1 := wid _ (by omega)
 rw [ey]
 omega
theorem fx1_small (m : List Int) (hm : ∀ j, -4294967296 ≤ m.getD j 0 ∧ m.getD j 0 ≤ 4294967296) (i : Nat) : -137438953472 ≤ wrap64 (m.getD (1 + i) 0 - foreN (wF 1) 0 m (1 + i)) ∧ wrap64 (m.getD (1 + i) 0 - foreN (wF 1) 0 m (1 + i)) ≤ 137438953472 := by
 have h := hm (1 + i)
 have h0 := hm (1 + i - 1 - 0)
 have e : foreN (wF 1) 0 m (1 + i) = (wrap64 (0 + wrap64 ((1) * m.getD (1 + i - 1 - 0) 0))) / 1 := rfl
 rw [e]
 clear e
 generalize m.getD (1 + i) 0 = y at *
 generalize m.getD (1 + i - 1 - 0) 0 = x0 at *
 clear hm
 have p0 : wrap64 ((1) * x0) = (1) * x0 := wid _ (by omega)
 have a0 : wrap64 (0 + (1) * x0) = 0 + (1) * x0 := wid _ (by omega)
 rw [p0, a0]
 clear p0 a0
 have ey : wrap64 (y - (0 + (1) * x0) / 1) = y - (0 + (1) * x0) / 1 := wid _ (by omega)
 rw [ey]
 omega
theorem fx2_small (m : List Int) (hm : ∀ j, -4294967296 ≤ m.getD j 0 ∧ m.getD j 0 ≤ 4294967296) (i : Nat) : -137438953472 ≤ wrap64 (m.getD (2 + i) 0 - foreN (wF 2) 0 m (2 + i)) ∧ wrap64 (m.getD (2 + i) 0 - foreN (wF 2) 0 m (2 + i)) ≤ 137438953472 := by
 have h := hm (2 + i)
 have h0 := hm (2 + i - 1 - 0)
 have h1 := hm (2 + i - 1 - 1)
 have e : foreN (wF 2) 0 m (2 + i) = (wrap64 (wrap64 (0 + wrap64 ((2) * m.getD (2 + i - 1 - 0) 0)) + wrap64 ((-1) * m.getD (2 + i - 1 - 1) 0))) / 1 := rfl
 rw [e]
 clear e
 generalize m.getD (2 + i) 0 = y at *
 generalize m.getD (2 + i - 1 - 0) 0 = x0 at *
 generalize m.getD (2 + i - 1 - 1) 0 = x1 at *
 clear hm
 have p0 : wrap64 ((2) * x0) = (2) * x0 := wid _ (by omega)
 have a0 : wrap64 (0 + (2) * x0) = 0 + (2) * x0 := wid _ (by omega)
 have p1 : wrap64 ((-1) * x1) = (-1) * x1 := wid _ (by omega)
 have a1 : wrap64 (0 + (2) * x0 + (-1) * x1) = 0 + (2) * x0 + (-1) * x1 := wid _ (by omega)
 rw [p0, a0, p1, a1]
 clear p0 a0 p1 a1
 have ey : wrap64 (y - (0 + (2) * x0 + (-1) * x1) / 1) = y - (0 + (2) * x0 + (-1) * x1) / 1 := wid _ (by omega)
 rw [ey]
 omega
theorem fx3_small (m : List Int) (hm : ∀ j, -4294967296 ≤ m.getD j 0 ∧ m.getD j 0 ≤ 4294967296) (i : Nat) : -137438953472 ≤ wrap64 (m.getD (3 + i) 0 - foreN (wF 3) 0 m (3 + i)) ∧ wrap64 (m.getD (3 + i) 0 - foreN (wF 3) 0 m (3 + i)) ≤ 137438953472 := by
 have h := hm (3 + i)
 have h0 := hm (3 + i - 1 - 0)
 have h1 := hm (3 + i - 1 - 1)
 have h2 := hm (3 + i - 1 - 2)
 have e : foreN (wF 3) 0 m (3 + i) = (wrap64 (wrap64 (wrap64 (0 + wrap64 ((3) * m.getD (3 + i - 1 - 0) 0)) + wrap64 ((-3) * m.getD (3 + i - 1 - 1) 0)) + wrap64 ((1) * m.getD (3 + i - 1 - 2) 0))) / 1 := rfl
 rw [e]
 clear e
 generalize m.getD (3 + i) 0 = y at *
 generalize m.getD (3 + i - 1 - 0) 0 = x0 at *
 generalize m.getD (3 + i - 1 - 1) 0 = x1 at *
 generalize m.getD (3 + i - 1 - 2) 0 = x2 at *
 clear hm
 have p0 : wrap64 ((3) * x0) = (3) * x0 := wid _ (by omega)
 have a0 : wrap64 (0 + (3) * x0) = 0 + (3) * x0 := wid _ (by omega)
 have p1 : wrap64 ((-3) * x1) = (-3) * x1 := wid _ (by omega)
 have a1 : wrap64 (0 + (3) * x0 + (-3) * x1) = 0 + (3) * x0 + (-3) * x1 := wid _ (by omega)
 have p2 : wrap64 ((1) * x2) = (1) * x2 := wid _ (by omega)
 have a2 : wrap64 (0 + (3) * x0 + (-3) * x1 + (1) * x2) = 0 + (3) * x0 + (-3) * x1 + (1) * x2 := wid _ (by omega)
 rw [p0, a0, p1, a1, p2, a2]
 clear p0 a0 p1 a1 p2 a2
 have ey : wrap64 (y - (0 + (3) * x0 + (-3) * x1 + (1) * x2) / 1) = y - (0 + (3) * x0 + (-3) * x1 + (1) * x2) / 1 := wid _ (by omega)
 rw [ey]
 omega
theorem fx4_small (m : List Int) (hm : ∀ j, -4294967296 ≤ m.getD j 0 ∧ m.getD j 0 ≤ 4294967296) (i : Nat) : -137438953472 ≤ wrap64 (m.getD (4 + i) 0 - foreN (wF 4) 0 m (4 + i)) ∧ wrap64 (m.getD (4 + i) 0 - foreN (wF 4) 0 m (4 + i)) ≤ 137438953472 := by
 have h := hm (4 + i)
 have h0 := hm (4 + i - 1 - 0)
 have h1 := hm (4 + i - 1 - 1)
 have h2 := hm (4 + i - 1 - 2)
 have h3 := hm (4 + i - 1 - 3)
 have e : foreN (wF 4) 0 m (4 + i) = (wrap64 (wrap64 (wrap64 (wrap64 (0 + wrap64 ((4) * m.getD (4 + i - 1 - 0) 0)) + wrap64 ((-6) * m.getD (4 + i - 1 - 1) 0)) + wrap64 ((4) * m.getD (4 + i - 1 - 2) 0)) + wrap64 ((-1) * m.getD (4 + i - 1 - 3) 0))) / 1 := rfl
 rw [e]
 clear e
 generalize m.getD (4 + i) 0 = y at *
 generalize m.getD (4 + i - 1 - 0) 0 = x0 at *
 generalize m.getD (4 + i - 1 - 1) 0 = x1 at *
 generalize m.getD (4 + i - 1 - 2) 0 = x2 at *
 generalize m.getD (4 + i - 1 - 3) 0 = x3 at *
 clear hm
 have p0 : wrap64 ((4) * x0) = (4) * x0 := wid _ (by omega)
 have a0 : wrap64 (0 + (4) * x0) = 0 + (4) * x0 := wid _ (by omega)
 have p1 : wrap64 ((-6) * x1) = (-6) * x1 := wid _ (by omega)
 have a1 : wrap64 (0 + (4) * x0 + (-6) * x1) = 0 + (4) * x0 + (-6) * x1 := wid _ (by omega)
 have p2 : wrap64 ((4) * x2) = (4) * x2 := wid _ (by omega)
 have a2 : wrap64 (0 + (4) * x0 + (-6) * x1 + (4) * x2) = 0 + (4) * x0 + (-6) * x1 + (4) * x2 := wid _ (by omega)
 have p3 : wrap64 ((-1) * x3) = (-1) * x3 := wid _ (by omega)
 have a3 : wrap64 (0 + (4) * x0 + (-6) * x1 + (4) * x2 + (-1) * x3) = 0 + (4) * x0 + (-6) * x1 + (4) * x2 + (-1) * x3 := wid _ (by omega)
 rw [p0, a0, p1, a1, p2, a2, p3, a3]
 clear p0 a0 p1 a1 p2 a2 p3 a3
 have ey : wrap64 (y - (0 + (4) * x0 + (-6) * x1 + (4) * x2 + (-1) * x3) / 1) = y - (0 + (4) * x0 + (-6) * x1 + (4) * x2 + (-1) * x3) / 1 := wid _ (by omega)
 rw [ey]
 omega
theorem lp0_small (m : List Int) (hm : ∀ j, -4294967296 ≤ m.getD j 0 ∧ m.getD j 0 ≤ 4294967296) (i : Nat) : -137438953472 ≤ wrap64 (m.getD (1 + i) 0 - foreN [31] 5 m (1 + i)) ∧ wrap64 (m.getD (1 + i) 0 - foreN [31] 5 m (1 + i)) ≤ 137438953472 := by
 have h := hm (1 + i)
 have h0 := hm (1 + i - 1 - 0)
 have e : foreN [31] 5 m (1 + i) = (wrap64 (0 + wrap64 ((31) * m.getD (1 + i - 1 - 0) 0))) / 32 := rfl
 rw [e]
 clear e
 generalize m.getD (1 + i) 0 = y at *
 generalize m.getD (1 + i - 1 - 0) 0 = x0 at *
 clear hm
 have p0 : wrap64 ((31) * x0) = (31) * x0 := wid _ (by omega)
 have a0 : wrap64 (0 + (31) * x0) = 0 + (31) * x0 := wid _ (by omega)
 rw [p0, a0]
 clear p0 a0
 have ey : wrap64 (y - (0 + (31) * x0) / 32) = y - (0 + (31) * x0) / 32 := wid _ (by omega)
 rw [ey]
 omega
theorem lp1_small (m : List Int) (hm : ∀ j, -4294967296 ≤ m.getD j 0 ∧ m.getD j 0 ≤ 4294967296) (i : Nat) : -137438953472 ≤ wrap64 (m.getD (2 + i) 0 - foreN [60, -29] 5 m (2 + i)) ∧ wrap64 (m.getD (2 + i) 0 - foreN [60, -29] 5 m (2 + i)) ≤ 137438953472 := by
 have h := hm (2 + i)
 have h0 := hm (2 + i - 1 - 0)
 have h1 := hm (2 + i - 1 - 1)
 have e : foreN [60, -29] 5 m (2 + i) = (wrap64 (wrap64 (0 + wrap64 ((60) * m.getD (2 + i - 1 - 0) 0)) + wrap64 ((-29) * m.getD (2 + i - 1 - 1) 0))) / 32 := rfl
 rw [e]
 clear e
 generalize m.getD (2 + i) 0 = y at *
 generalize m.getD (2 + i - 1 - 0) 0 = x0 at *
 generalize m.getD (2 + i - 1 - 1) 0 = x1 at *
 clear hm
 have p0 : wrap64 ((60) * x0) = (60) * x0 := wid _ (by omega)
 have a0 : wrap64 (0 + (60) * x0) = 0 + (60) * x0 := wid _ (by omega)
 have p1 : wrap64 ((-29) * x1) = (-29) * x1 := wid _ (by omega)
 have a1 : wrap64 (0 + (60) * x0 + (-29) * x1) = 0 + (60) * x0 + (-29) * x1 := wid _ (by omega)
 rw [p0, a0, p1, a1]
 clear p0 a0 p1 a1
 have ey : wrap64 (y - (0 + (60) * x0 + (-29) * x1) / 32) = y - (0 + (60) * x0 + (-29) * x1) / 32 := wid _ (by omega)
 rw [ey]
 omega
theorem lp2_small (m : List Int) (hm : ∀ j, -4294967296 ≤ m.getD j 0 ∧ m.getD j 0 ≤ 4294967296) (i : Nat) : -137438953472 ≤ wrap64 (m.getD (2 + i) 0 - foreN [63, -31] 5 m (2 + i)) ∧ wrap64 (m.getD (2 + i) 0 - foreN [63, -31] 5 m (2 + i)) ≤ 137438953472 := by
 have h := hm (2 + i)
 have h0 := hm (2 + i - 1 - 0)
 have h1 := hm (2 + i - 1 - 1)
 have e : foreN [63, -31] 5 m (2 + i) = (wrap64 (wrap64 (0 + wrap64 ((63) * m.getD (2 + i - 1 - 0) 0)) + wrap64 ((-31) * m.getD (2 + i - 1 - 1) 0))) / 32 := rfl
 rw [e]
 clear e
 generalize m.getD (2 + i) 0 = y at *
 generalize m.getD (2 + i - 1 - 0) 0 = x0 at *
 generalize m.getD (2 + i - 1 - 1) 0 = x1 at *
 clear hm
 have p0 : wrap64 ((63) * x0) = (63) * x0 := wid _ (by omega)
 have a0 : wrap64 (0 + (63) * x0) = 0 + (63) * x0 := wid _ (by omega)
 have p1 : wrap64 ((-31) * x1) = (-31) * x1 := wid _ (by omega)
 have a1 : wrap64 (0 + (63) * x0 + (-31) * x1) = 0 + (63) * x0 + (-31) * x1 := wid _ (by omega)
 rw [p0, a0, p1, a1]
 clear p0 a0 p1 a1
 have ey : wrap64 (y - (0 + (63) * x0 + (-31) * x1) / 32) = y - (0 + (63) * x0 + (-31) * x1) / 32 := wid _ (by omega)
 rw [ey]
 omega
theorem fold14 (x : Int) (h : -137438953472 ≤ x ∧ x ≤ 137438953472) : foldN x / 2 ^ 14 ≤ 16777216 := by
 have e : (2 : Nat) ^ 14 = 16384 := by decide
 rw [e]
 rcases (show x < 0 ∨ 0 ≤ x by omega) with h1 | h1
 ·have := foldN_neg x h1; omega
 ·have := foldN_pos x h1; omega
theorem left_mem (C : List Int) (sh : Nat) (m : List Int) (n : Nat) (P : Int → Prop) (h : ∀ i, P (wrap64 (m.getD (C.length + i) 0 - foreN C sh m (C.length + i)))) : ∀ x ∈ leftN C sh m n, P x := fun x hx => by
 obtain ⟨i, hi, e⟩ := List.mem_iff_getElem.1 hx
 have hi2 : i < n := by rwa [leftN_len] at hi
 have h2 := leftN_at C sh m n i hi2
 rw [List.getD_eq_getElem?_getD, List.getElem?_eq_getElem hi] at h2
 have h3 : x = wrap64 (m.getD (C.length + i) 0 - foreN C sh m (C.length + i)) := by rw [← e]; exact h2
 rw [h3]; exact h i
theorem tried_res (w : Int) (q : Sb) (ht : triedS w q) (hk : q.k = 2 ∨ q.k = 3) (m : List Int) (hm : ∀ j, -4294967296 ≤ m.getD j 0 ∧ m.getD j 0 ≤ 4294967296) (hn : m.length ≤ 65535) : ShY (resN q m) ∧ (resN q m).length = m.length - q.o.toNat := by
 have fin : ∀ (C : List Int) (sh : Nat) (k : Nat), (∀ i, -137438953472 ≤ wrap64 (m.getD (C.length + i) 0 - foreN C sh m (C.length + i)) ∧ wrap64 (m.getD (C.length + i) 0 - foreN C sh m (C.length + i)) ≤ 137438953472) → ShY (leftN C sh m (m.length - k)) ∧ (leftN C sh m (m.length - k)).length = m.length - k := fun C sh k h => ⟨⟨fun x hx => fold14 x (left_mem C sh m _ (fun x => -137438953472 ≤ x ∧ x ≤ 137438953472) h x hx), by rw [leftN_len]; omega⟩, leftN_len _ _ _ _⟩
 rcases ht with rfl | rfl | ⟨o, ho, rfl⟩ | ⟨C, hC, rfl⟩
 ·rcases hk with h | h <;> cases h
 ·rcases hk with h | h <;> cases h
 ·unfold resN fxS
  rw [if_pos rfl, Int.toNat_natCast]
  rcases (show o = 0 ∨ o = 1 ∨ o = 2 ∨ o = 3 ∨ o = 4 by omega) with rfl | rfl | rfl | rfl | rfl
  ·exact fin (wF 0) 0 0 (fx0_small m hm)
  ·exact fin (wF 1) 0 1 (fx1_small m hm)
  ·exact fin (wF 2) 0 2 (fx2_small m hm)
  ·exact fin (wF 3) 0 3 (fx3_small m hm)
  ·exact fin (wF 4) 0 4 (fx4_small m hm)
 ·unfold resN lpS
  rw [if_neg (by decide : ¬ (3 : Int) = 2), Int.toNat_natCast]
  show ShY (leftN C 5 m (m.length - C.length)) ∧ (leftN C 5 m (m.length - C.length)).length = m.length - C.length
  rcases List.mem_cons.1 hC with rfl | hC
  ·exact fin [31] 5 1 (lp0_small m hm)
  rcases List.mem_cons.1 hC with rfl | hC
  ·exact fin [60, -29] 5 2 (lp1_small m hm)
  rcases List.mem_cons.1 hC with rfl | hC
  ·exact fin [63, -31] 5 2 (lp2_small m hm)
  cases hC
theorem tried_o (w : Int) (q : Sb) (ht : triedS w q) : 0 ≤ q.o ∧ q.o ≤ 4 := by
 rcases ht with rfl | rfl | ⟨o, ho, rfl⟩ | ⟨C, hC, rfl⟩
 ·show (0 : Int) ≤ 0 ∧ (0 : Int) ≤ 4; decide
 ·show (0 : Int) ≤ 0 ∧ (0 : Int) ≤ 4; decide
 ·show 0 ≤ (o : Int) ∧ (o : Int) ≤ 4; omega
 ·show 0 ≤ (C.length : Int) ∧ (C.length : Int) ≤ 4
  rcases List.mem_cons.1 hC with rfl | hC
  ·decide
  rcases List.mem_cons.1 hC with rfl | hC
  ·decide
  rcases List.mem_cons.1 hC with rfl | hC
  ·decide
  cases hC
theorem brN_ok (b r : Nat) (res : List Int) (hb : 1 ≤ b) (hb2 : b ≤ 65535) (hr : r ≤ 32) (hrb : r ≤ b) (hs : ShY res) (hn : res.length = b - r) : chkOk (brN b r res) b r ∧ encR (brN b r res) b r res = true ∧ (encB (brN b r res) b r res).length = ordS res b r (bestK (ordS res b r) (fnO b r)) := by
 have hC := fnO_cut b r hb hb2 hr hrb
 have h4 := (fnO_best b r hb hb2 hr hrb).1
 have hk := bestK_le (ordS res b r) (fnO b r)
 have hC2 := hC.to (bestK (ordS res b r) (fnO b r)) hk
 have hR := best_encR hC2 res hs hn
 have hL := best_encL hC2 res hs hn (by omega)
 refine ⟨(best_rok hC2 res).chk, hR, ?_⟩
 rw [← hL]
 unfold encL brN
 rw [hR]
 rfl
theorem shrL_ln (l : List Int) (k : Nat) : (shrL l k).length = l.length := by unfold shrL; rw [List.length_map]
theorem wiS_k (q : Sb) (m : List Int) : (wiS q m).k = q.k ∧ (wiS q m).o = q.o ∧ (wiS q m).w = q.w ∧ (wiS q m).p = q.p ∧ (wiS q m).h = q.h ∧ (wiS q m).C = q.C := by
 unfold wiS; split <;> exact ⟨rfl, rfl, rfl, rfl, rfl, rfl⟩
theorem resN_wi (q : Sb) (m m' : List Int) : resN (wiS q m) m' = resN q m' := by
 obtain ⟨h1, h2, _, _, h5, h6⟩ := wiS_k q m
 unfold resN; rw [h1, h2, h5, h6]
section
variable (l : List Int) (v : Int) (hv : 1 ≤ v ∧ v ≤ 33) (hn1 : 1 ≤ l.length) (hn2 : l.length ≤ 65535) (hfit : ∀ x ∈ l, sigE x v = 0)
theorem tried_rice (q : Sb) (ht : triedS (wasN l : Int) q) (hk : q.k = 2 ∨ q.k = 3) (ho : q.o ≤ (l.length : Int)) (hv : 1 ≤ v ∧ v ≤ 33) (hn1 : 1 ≤ l.length) (hn2 : l.length ≤ 65535) (hfit : ∀ x ∈ l, sigE x v = 0) :
  (wiS q (shrL l (wasN l))).R = brN l.length q.o.toNat (resN q (shrL l (wasN l))) ∧ chkOk (wiS q (shrL l (wasN l))).R l.length q.o ∧ encR (wiS q (shrL l (wasN l))).R l.length q.o (resN q (shrL l (wasN l))) = true := by
 have hm := shr_small l v hv.1 hv.2 hfit
 have hl := shrL_ln l (wasN l)
 have h4 := tried_o _ q ht
 obtain ⟨hs, hlen⟩ := tried_res _ q ht hk (shrL l (wasN l)) hm (by omega)
 have e : (wiS q (shrL l (wasN l))).R = brN l.length q.o.toNat (resN q (shrL l (wasN l))) := by
  unfold wiS; rw [if_neg (by omega), hl]
 obtain ⟨b1, b2, _⟩ := brN_ok l.length q.o.toNat (resN q (shrL l (wasN l))) hn1 hn2 (by omega) (by omega) hs (by rw [hlen, hl])
 have eo : ((q.o.toNat : Nat) : Int) = q.o := by omega
 rw [eo] at b1 b2
 exact ⟨e, by rw [e]; exact b1, by rw [e]; exact b2⟩
theorem tried_sub (q : Sb) (ht : triedS (wasN l : Int) q) (ho : q.o ≤ (l.length : Int)) (hv : 1 ≤ v ∧ v ≤ 33) (hn1 : 1 ≤ l.length) (hn2 : l.length ≤ 65535) (hfit : ∀ x ∈ l, sigE x v = 0) : subOk (wiS q (shrL l (wasN l))) l.length v := by
 have hw := was_lt l v hv.1 hfit
 have h4 := tried_o _ q ht
 obtain ⟨e1, e2, e3, e4, e5, e6⟩ := wiS_k q (shrL l (wasN l))
 have hwq : q.w = (wasN l : Int) := by
  rcases ht with rfl | rfl | ⟨o, _, rfl⟩ | ⟨C, _, rfl⟩ <;> rfl
 refine ⟨⟨by omega, by omega⟩, hv, ⟨by rw [e3, hwq]; omega, by rw [e3, hwq]; exact hw⟩, ?_⟩
 have ht2 := ht
 rcases ht2 with h | h | ⟨o, ho4, h⟩ | ⟨C, hC, h⟩
 ·left; subst h; exact ⟨Or.inl rfl, ⟨rfl, rfl, rfl⟩, rfl, rfl⟩
 ·left; subst h; exact ⟨Or.inr rfl, ⟨rfl, rfl, rfl⟩, rfl, rfl⟩
 ·right; left
  have hk : q.k = 2 := by rw [h]; rfl
  obtain ⟨_, hc, _⟩ := tried_rice l v q ht (Or.inl hk) ho hv hn1 hn2 hfit
  refine ⟨by rw [e1]; exact hk, ⟨by rw [e4, h]; rfl, by rw [e5, h]; rfl, by rw [e6, h]; rfl⟩, by rw [e2]; exact h4.1, by rw [e2]; exact h4.2, by rw [e2]; exact ho, by rw [e2]; exact hc⟩
 ·right; right
  have hk : q.k = 3 := by rw [h]; rfl
  obtain ⟨_, hc, _⟩ := tried_rice l v q ht (Or.inr hk) ho hv hn1 hn2 hfit
  have hoC : q.o = (C.length : Int) := by rw [h]; rfl
  have hC1 : 1 ≤ C.length ∧ ∀ x ∈ C, sigE x 7 = 0 := by
   rcases List.mem_cons.1 hC with rfl | hC
   ·exact ⟨by decide, fun x hx => by simp at hx; subst hx; decide⟩
   rcases List.mem_cons.1 hC with rfl | hC
   ·exact ⟨by decide, fun x hx => by simp at hx; rcases hx with rfl | rfl <;> decide⟩
   rcases List.mem_cons.1 hC with rfl | hC
   ·exact ⟨by decide, fun x hx => by simp at hx; rcases hx with rfl | rfl <;> decide⟩
   cases hC
  refine ⟨by rw [e1]; exact hk, by rw [e2]; omega, by rw [e2]; omega, by rw [e2]; exact ho, by rw [e4, h]; show (1 : Int) ≤ 7; decide, by rw [e4, h]; show (7 : Int) ≤ 15; decide, by rw [e5, h]; show (0 : Int) ≤ 5; decide, by rw [e5, h]; show (5 : Int) ≤ 15; decide, by rw [e6, e2, h]; rfl, ?_, by rw [e2]; exact hc⟩
  rw [e6, e4, h]
  exact hC1.2
theorem tried_goes (q : Sb) (ht : triedS (wasN l : Int) q) (ho : q.o ≤ (l.length : Int)) (hv : 1 ≤ v ∧ v ≤ 33) (hn1 : 1 ≤ l.length) (hn2 : l.length ≤ 65535) (hfit : ∀ x ∈ l, sigE x v = 0) : vaB q l = true ↔ goesOk (wiS q (shrL l (wasN l))) v l := by
 obtain ⟨e1, e2, e3, e4, e5, e6⟩ := wiS_k q (shrL l (wasN l))
 have hwq : q.w = (wasN l : Int) := by
  rcases ht with rfl | rfl | ⟨o, _, rfl⟩ | ⟨C, _, rfl⟩ <;> rfl
 have hd : dvB l (wiS q (shrL l (wasN l))).w.toNat = true := by rw [e3, hwq, Int.toNat_natCast]; exact wasN_dvB l
 have hr : (wiS q (shrL l (wasN l))).k = 2 ∨ (wiS q (shrL l (wasN l))).k = 3 → encR (wiS q (shrL l (wasN l))).R l.length (wiS q (shrL l (wasN l))).o (resN (wiS q (shrL l (wasN l))) (shrL l (wiS q (shrL l (wasN l))).w.toNat)) = true := fun hk => by
  rw [e1] at hk
  rw [resN_wi, e3, hwq, Int.toNat_natCast, e2]
  exact (tried_rice l v q ht hk ho hv hn1 hn2 hfit).2.2
 unfold vaB
 by_cases h0 : q.k = 0
 ·rw [if_pos h0, List.all_eq_true]
  constructor
  ·intro h
   exact ⟨hfit, hd, fun _ x hx => by have := h x hx; rwa [beq_iff_eq] at this, hr⟩
  ·intro h x hx
   rw [beq_iff_eq]; exact h.2.2.1 (by rw [e1]; exact h0) x hx
 ·rw [if_neg h0]
  have hg : goesOk (wiS q (shrL l (wasN l))) v l := ⟨hfit, hd, fun h => absurd (e1 ▸ h) h0, hr⟩
  split
  ·exact ⟨fun _ => hg, fun _ => rfl⟩
  ·exact ⟨fun _ => hg, fun _ => decide_eq_true ho⟩
end
theorem sigB_full (x v : Int) (h : sigE x v = 0) : (sigB x v).length = v.toNat := by
 rw [sigE_iff] at h
 unfold sigB; rw [if_pos h, bitsOf_length]
theorem numsB_full (v : Int) (hv : 1 ≤ v) (m : List Int) (h : ∀ x ∈ m, sigE x v = 0) : (numsB 0 v m).length = m.length * v.toNat := by
 induction m with
 | nil => simp [numsB]
 | cons x t ih =>
  have e : numsB 0 v (x :: t) = sigB x v ++ numsB 0 v t := by
   have : oneB 0 v x = sigB x v := by unfold oneB; rw [if_neg (by omega), if_neg (by omega)]
   simp [numsB, this]
  rw [e, List.length_append, sigB_full x v (h x (List.mem_cons_self ..)), ih (fun y hy => h y (List.mem_cons_of_mem _ hy)), List.length_cons, Nat.add_mul]
  omega
theorem wstB_full (w : Nat) (h : w ≤ 100) : (wstB (w : Int)).length = 1 + w := by
 unfold wstB
 split
 ·rename_i h0
  rw [List.length_append, put_len 1 1 1 rfl (by decide) (by decide)]
  unfold unrB
  rw [if_pos (by omega), List.length_append, List.length_replicate, List.length_singleton]
  omega
 ·rw [put_len 0 1 1 rfl (by decide) (by decide)]
  omega
def blN (q : Sb) (u : Nat) (m : List Int) : Nat :=
 if q.k = 0 then u else if q.k = 1 then m.length * u
 else q.o.toNat * u + (if q.k = 2 then 0 else 9 + q.o.toNat * 7) + ordS (resN q m) m.length q.o.toNat (bestK (ordS (resN q m) m.length q.o.toNat) (fnO m.length q.o.toNat))
theorem shr_fits (l : List Int) (v : Int) (hv : 1 ≤ v) (hfit : ∀ x ∈ l, sigE x v = 0) : ∀ x ∈ shrL l (wasN l), sigE x (v - (wasN l : Int)) = 0 := fun y hy => by
 obtain ⟨x, hx, e⟩ := List.mem_map.1 hy
 have hw := was_lt l v hv hfit
 have hd := (dvB_iff l (wasN l)).1 (wasN_dvB l) x hx
 obtain ⟨V, rfl⟩ : ∃ V : Nat, v = V := ⟨v.toNat, by omega⟩
 have hf := fit_div x V (wasN l) (by omega) (hfit x hx) hd
 rw [← e, show ((V : Int) - (wasN l : Int)) = ((V - wasN l : Nat) : Int) by omega]
 exact hf
theorem sub_bits (l : List Int) (v : Int) (q : Sb) (ht : triedS (wasN l : Int) q) (ho : q.o ≤ (l.length : Int)) (hv : 1 ≤ v ∧ v ≤ 33) (hn1 : 1 ≤ l.length) (hn2 : l.length ≤ 65535) (hfit : ∀ x ∈ l, sigE x v = 0) :
  (subB (wiS q (shrL l (wasN l))) v l).length = 8 + wasN l + blN q (v.toNat - wasN l) (shrL l (wasN l)) := by
 have hw := was_lt l v hv.1 hfit
 have h4 := tried_o _ q ht
 have hsf := shr_fits l v hv.1 hfit
 have hll := shrL_ln l (wasN l)
 obtain ⟨e1, e2, e3, e4, e5, e6⟩ := wiS_k q (shrL l (wasN l))
 have hwq : q.w = (wasN l : Int) := by
  rcases ht with rfl | rfl | ⟨o, _, rfl⟩ | ⟨C, _, rfl⟩ <;> rfl
 have htn : (v - (wasN l : Int)).toNat = v.toNat - wasN l := by omega
 have h7 : (putB (typN (wiS q (shrL l (wasN l)))) 7).length = 7 := by
  refine put_len _ 7 7 rfl (by decide) ?_
  unfold typN
  rw [e1, e2]
  have : (2 : Int) ^ 7 = 128 := by decide
  rw [this]
  repeat' split
  all_goals omega
 unfold subB
 rw [List.length_append, List.length_append, h7, e3, hwq, Int.toNat_natCast, wstB_full _ (by omega)]
 have hb : (bodyB (wiS q (shrL l (wasN l))) v (shrL l (wasN l))).length = blN q (v.toNat - wasN l) (shrL l (wasN l)) := by
  have hrice := fun hk => tried_rice l v q ht hk ho hv hn1 hn2 hfit
  have hres : ∀ hk : q.k = 2 ∨ q.k = 3, (encB (wiS q (shrL l (wasN l))).R (shrL l (wasN l)).length q.o.toNat (resN q (shrL l (wasN l)))).length = ordS (resN q (shrL l (wasN l))) (shrL l (wasN l)).length q.o.toNat (bestK (ordS (resN q (shrL l (wasN l))) (shrL l (wasN l)).length q.o.toNat) (fnO (shrL l (wasN l)).length q.o.toNat)) := fun hk => by
   obtain ⟨hR, _, _⟩ := hrice hk
   have hm := shr_small l v hv.1 hv.2 hfit
   obtain ⟨hs, hlen⟩ := tried_res _ q ht hk (shrL l (wasN l)) hm (by omega)
   rw [hR, ← hll]
   exact (brN_ok (shrL l (wasN l)).length q.o.toNat (resN q (shrL l (wasN l))) (by omega) (by omega) (by omega) (by omega) hs hlen).2.2
  generalize hM : shrL l (wasN l) = m at *
  have htk : (numsB 0 (v - (wasN l : Int)) (m.take q.o.toNat)).length = q.o.toNat * (v.toNat - wasN l) := by
   rw [numsB_full _ (by omega) _ (fun x hx => hsf x (List.mem_of_mem_take hx)), List.length_take, htn]
   congr 1; omega
  unfold bodyB blN
  rw [e1, e2, e3, hwq]
  by_cases k0 : q.k = 0
  ·rw [if_pos k0, if_pos k0]
   have h0 : 0 < m.length := by omega
   rw [sigB_full _ _ (hsf _ (getD_mem m 0 h0)), htn]
  rw [if_neg k0, if_neg k0]
  by_cases k1 : q.k = 1
  ·rw [if_pos k1, if_pos k1, numsB_full _ (by omega) _ hsf, htn]
  rw [if_neg k1, if_neg k1]
  by_cases k2 : q.k = 2
  ·rw [if_pos k2, if_pos k2, List.length_append, htk, resN_wi, hres (Or.inl k2)]
   omega
  rw [if_neg k2, if_neg k2, List.length_append, htk, resN_wi, e4, e5, e6]
  have k3 : q.k = 3 := by
   rcases ht with h | h | ⟨o, _, h⟩ | ⟨C, _, h⟩
   ·rw [h] at k0; exact absurd rfl k0
   ·rw [h] at k1; exact absurd rfl k1
   ·rw [h] at k2; exact absurd rfl k2
   ·rw [h]; rfl
  obtain ⟨hp7, hh5, hCl, hC7⟩ : q.p = 7 ∧ q.h = 5 ∧ q.C.length = q.o.toNat ∧ ∀ x ∈ q.C, sigE x 7 = 0 := by
   rcases ht with h | h | ⟨o, _, h⟩ | ⟨C, hC, h⟩
   ·rw [h] at k0; exact absurd rfl k0
   ·rw [h] at k1; exact absurd rfl k1
   ·rw [h] at k2; exact absurd rfl k2
   ·refine ⟨by rw [h]; rfl, by rw [h]; rfl, by rw [h]; unfold lpS; exact (Int.toNat_natCast _).symm, ?_⟩
    rw [h]
    show ∀ x ∈ C, sigE x 7 = 0
    rcases List.mem_cons.1 hC with rfl | hC
    ·exact fun x hx => by simp at hx; subst hx; decide
    rcases List.mem_cons.1 hC with rfl | hC
    ·exact fun x hx => by simp at hx; rcases hx with rfl | rfl <;> decide
    rcases List.mem_cons.1 hC with rfl | hC
    ·exact fun x hx => by simp at hx; rcases hx with rfl | rfl <;> decide
    cases hC
  rw [hp7, hh5, List.length_append, List.length_append, List.length_append, put_len (7 - 1) 4 4 rfl (by decide) (by decide), put_len 5 5 5 rfl (by decide) (by decide), numsB_full 7 (by decide) q.C hC7, hCl, hres (Or.inr k3)]
  show _ + (4 + (5 + (q.o.toNat * 7 + _))) = _
  omega
 rw [hb]
 omega
def opS (v : Int) (l m : List Int) (q : Sb) : Option (Sb × Nat) := if vaB q l = true then some (wiS q m, (subB (wiS q m) v l).length) else none
def shoS (acc : Option (Sb × Nat)) (x : Sb × Nat) : Option (Sb × Nat) :=
 match acc with
 | none => some x
 | some a => if x.2 < a.2 then some x else some a
theorem st_sh (v : Int) (l m : List Int) (L : List Sb) (acc : Option (Sb × Nat)) : L.foldl (stS v l m) acc = (L.filterMap (opS v l m)).foldl shoS acc := by
 induction L generalizing acc with
 | nil => rfl
 | cons q t ih =>
  rw [List.foldl_cons, ih, List.filterMap_cons]
  unfold opS stS
  by_cases h : vaB q l = true
  ·rw [if_pos h, if_pos h]
   cases acc <;> rfl
  ·rw [if_neg h, if_neg h]
theorem sbR_sh (lv v : Int) (l : List Int) : sbR lv v l = ((cnL lv (wasN l : Int)).filterMap (opS v l (shrL l (wasN l)))).foldl shoS none := by
 unfold sbR; exact st_sh ..
def shoT (a : Sb × Nat) (L : List (Sb × Nat)) : Sb × Nat := L.foldl (fun a x => if x.2 < a.2 then x else a) a
theorem sh_some (L : List (Sb × Nat)) (a : Sb × Nat) : L.foldl shoS (some a) = some (shoT a L) := by
 induction L generalizing a with
 | nil => rfl
 | cons x t ih =>
  unfold shoT
  rw [List.foldl_cons, List.foldl_cons]
  have e : shoS (some a) x = some (if x.2 < a.2 then x else a) := by
   unfold shoS; dsimp only; split <;> rfl
  rw [e, ih]; rfl
theorem sh_none (L : List (Sb × Nat)) (a : Sb × Nat) (t : List (Sb × Nat)) (h : L = a :: t) : L.foldl shoS none = some (shoT a L) := by
 rw [h]
 have e : (a :: t).foldl shoS none = t.foldl shoS (some a) := rfl
 rw [e, sh_some]
 have e2 : shoT a (a :: t) = shoT a t := by
  unfold shoT; rw [List.foldl_cons, if_neg (Nat.lt_irrefl _)]
 rw [e2]
def wiW (w : Int) (q : Sb) : Sb := ⟨q.k, q.o, w, q.p, q.h, q.C, q.R⟩
theorem trL_w (lv w : Int) : trL lv w = (trL lv 0).map (wiW w) := by
 unfold trL
 rw [List.map_append, List.map_map]
 have h1 : (wiW w ∘ fxS 0) = fxS w := rfl
 rw [h1]
 congr 1
 split
 ·rw [List.map_map]; rfl
 ·rfl
theorem same_div (l : List Int) : (shrL l (wasN l)).all (fun x => x == (shrL l (wasN l)).getD 0 0) = l.all (fun x => x == l.getD 0 0) := by
 have hd := (dvB_iff l (wasN l)).1 (wasN_dvB l)
 generalize wasN l = w at *
 have hq : (2 : Int) ^ w ≠ 0 := Int.ne_of_gt (Int.pow_pos (by decide))
 cases l with
 | nil => rfl
 | cons a t =>
  have e0 : (shrL (a :: t) w).getD 0 0 = a / 2 ^ w := rfl
  rw [e0]
  show ((a :: t).map (fun n => n / 2 ^ w)).all _ = _
  rw [List.all_map]
  have ha := hd a (List.mem_cons_self ..)
  rw [Bool.eq_iff_iff, List.all_eq_true, List.all_eq_true]
  constructor
  ·intro h x hx
   have h1 := h x hx
   rw [Function.comp_apply, beq_iff_eq] at h1
   have h2 := hd x hx
   rw [beq_iff_eq]
   show x = a
   have h3 := Int.ediv_mul_cancel (Int.dvd_of_emod_eq_zero ha)
   have h4 := Int.ediv_mul_cancel (Int.dvd_of_emod_eq_zero h2)
   rw [← h4, h1, h3]
  ·intro h x hx
   have h1 := h x hx
   rw [beq_iff_eq] at h1
   rw [Function.comp_apply, beq_iff_eq]
   have : x = a := h1
   rw [this]
def cdL (lv w v : Int) (l m : List Int) (i : Nat) : List (Sb × Nat) := (cnS w :: vbS w :: (trL lv w).take i).filterMap (opS v l m)
theorem cdL_all (lv v : Int) (l : List Int) : (cnL lv (wasN l : Int)).filterMap (opS v l (shrL l (wasN l))) = cdL lv (wasN l) v l (shrL l (wasN l)) (trL lv (wasN l : Int)).length := by
 unfold cdL cnL; rw [List.take_length]
theorem cdL_succ (lv w v : Int) (l m : List Int) (i : Nat) (q : Sb) (h : (trL lv w)[i]? = some q) : cdL lv w v l m (i + 1) = cdL lv w v l m i ++ (opS v l m q).toList := by
 have hi : i < (trL lv w).length := by
  rcases Nat.lt_or_ge i (trL lv w).length with h1 | h1
  ·exact h1
  ·rw [List.getElem?_eq_none h1] at h; cases h
 have e : (trL lv w).take (i + 1) = (trL lv w).take i ++ [q] := by
  rw [List.take_add_one, h]; rfl
 unfold cdL
 rw [e, ← List.cons_append, ← List.cons_append, List.filterMap_append]
 congr 1
theorem trL_len (lv w : Int) : (trL lv w).length ≤ 8 := by
 unfold trL
 rw [List.length_append, List.length_map, List.length_range]
 have : (if lv = 2 then lpcs.map (lpS w) else []).length ≤ 3 := by
  split
  ·exact Nat.le_refl 3
  ·exact Nat.zero_le _
 split <;> omega
theorem cdL_len (lv w v : Int) (l m : List Int) (i : Nat) : (cdL lv w v l m i).length ≤ 10 := by
 unfold cdL
 have h1 := List.length_filterMap_le (opS v l m) (cnS w :: vbS w :: (trL lv w).take i)
 have h2 := trL_len lv w
 rw [List.length_cons, List.length_cons, List.length_take] at h1
 omega
theorem cdL_0 (lv w v : Int) (l m : List Int) : cdL lv w v l m 0 = (opS v l m (cnS w)).toList ++ [(vbS w, (subB (vbS w) v l).length)] := by
 have e : opS v l m (vbS w) = some (vbS w, (subB (vbS w) v l).length) := by
  unfold opS
  have h1 : vaB (vbS w) l = true := by unfold vaB vbS; simp
  have h2 : wiS (vbS w) m = vbS w := by unfold wiS vbS; simp
  rw [if_pos h1, h2]
 unfold cdL
 rw [List.take_zero, List.filterMap_cons, List.filterMap_cons, e]
 cases opS v l m (cnS w) <;> rfl
theorem trL_tried (lv w : Int) (q : Sb) (h : q ∈ trL lv w) : triedS w q ∧ (q.k = 2 ∨ q.k = 3) := by
 refine ⟨cnL_tried lv w q (List.mem_cons_of_mem _ (List.mem_cons_of_mem _ h)), ?_⟩
 unfold trL at h
 rcases List.mem_append.1 h with h | h
 ·obtain ⟨o, ho, rfl⟩ := List.mem_map.1 h; exact Or.inl rfl
 ·split at h
  ·obtain ⟨C, hC, rfl⟩ := List.mem_map.1 h; exact Or.inr rfl
  ·cases h
end Go.Proofs.YthgpleelpeacjaaGreatDoor
