/- Own text: predictors, wasted bits and stereo: plain functions, and what undoes what. It speaks of no program. subframes: which may be, their bits: plain functions. It speaks of no program. -/
import Derived.RowKit
import Derived.Test.YtkhdkmdiblomhaaG15x
namespace Go.Proofs.Ytkhdkmdiblomhaa
open Go.RowKit
set_option linter.unusedSimpArgs false
set_option linter.unusedVariables false
/-- What is foretold of a place: the first so many coefficients' part, modulo 2^64. -/
def foreS (C l : List Int) (a : Nat) : Nat → Int
  | 0 => 0
  | i + 1 => wrap64 (foreS C l a i + wrap64 (C.getD i 0 * l.getD (a - 1 - i) 0))
def foreN (C : List Int) (sh : Nat) (l : List Int) (a : Nat) : Int := foreS C l a C.length / 2 ^ sh
/-- The first n numbers that are left over. -/
def leftN (C : List Int) (sh : Nat) (l : List Int) : Nat → List Int
  | 0 => []
  | n + 1 => leftN C sh l n ++ [wrap64 (l.getD (C.length + n) 0 - foreN C sh l (C.length + n))]
/-- Warm numbers, and n behind them. -/
def wholeN (C : List Int) (sh : Nat) (warm l : List Int) : Nat → List Int
  | 0 => warm
  | n + 1 => wholeN C sh warm l n ++ [wrap64 (l.getD n 0 + foreN C sh (wholeN C sh warm l n) (warm.length + n))]
abbrev Rng (l : List Int) : Prop := ∀ n ∈ l, -9223372036854775808 ≤ n ∧ n ≤ 9223372036854775807
theorem wrap_rng (n : Int) : -9223372036854775808 ≤ wrap64 n ∧ wrap64 n ≤ 9223372036854775807 := by unfold wrap64; omega
theorem foreS_rng (C l : List Int) (a k : Nat) : -9223372036854775808 ≤ foreS C l a k ∧ foreS C l a k ≤ 9223372036854775807 := by
  cases k with
  | zero => unfold foreS; omega
  | succ k => exact wrap_rng _
theorem shr_rng (x : Int) (sh : Nat) (h : -9223372036854775808 ≤ x ∧ x ≤ 9223372036854775807) : -9223372036854775808 ≤ x / 2 ^ sh ∧ x / 2 ^ sh ≤ 9223372036854775807 := by
  have hp : (1 : Int) ≤ 2 ^ sh := by
    have := Nat.one_le_two_pow (n := sh)
    have e : ((2 ^ sh : Nat) : Int) = (2 : Int) ^ sh := by simp
    omega
  generalize (2 : Int) ^ sh = P at *
  refine ⟨?_, ?_⟩
  · refine Int.le_ediv_of_mul_le (by omega) ?_
    have : (-9223372036854775808 : Int) * P ≤ -9223372036854775808 * 1 := Int.mul_le_mul_of_nonpos_left (by omega) (by omega)
    omega
  · by_cases h0 : 0 ≤ x
    · have := Int.ediv_le_self P h0; omega
    · have := Int.ediv_neg_of_neg_of_pos (show x < 0 by omega) (show (0 : Int) < P by omega); omega
theorem foreN_rng (C : List Int) (sh : Nat) (l : List Int) (a : Nat) : -9223372036854775808 ≤ foreN C sh l a ∧ foreN C sh l a ≤ 9223372036854775807 := shr_rng _ _ (foreS_rng C l a C.length)
theorem leftN_len (C : List Int) (sh : Nat) (l : List Int) (n : Nat) : (leftN C sh l n).length = n := by
  induction n with
  | zero => rfl
  | succ n ih => unfold leftN; rw [List.length_append, ih]; rfl
theorem leftN_rng (C : List Int) (sh : Nat) (l : List Int) (n : Nat) : Rng (leftN C sh l n) := by
  induction n with
  | zero => intro x hx; cases hx
  | succ n ih =>
    intro x hx
    rcases List.mem_append.1 hx with hx | hx
    · exact ih x hx
    · rw [List.mem_singleton] at hx; rw [hx]; exact wrap_rng _
theorem wholeN_len (C : List Int) (sh : Nat) (warm l : List Int) (n : Nat) : (wholeN C sh warm l n).length = warm.length + n := by
  induction n with
  | zero => rfl
  | succ n ih => unfold wholeN; rw [List.length_append, ih]; rfl
theorem wholeN_rng (C : List Int) (sh : Nat) (warm l : List Int) (hw : Rng warm) (n : Nat) : Rng (wholeN C sh warm l n) := by
  induction n with
  | zero => exact hw
  | succ n ih =>
    intro x hx
    rcases List.mem_append.1 hx with hx | hx
    · exact ih x hx
    · rw [List.mem_singleton] at hx; rw [hx]; exact wrap_rng _
theorem getD_app_left (a b : List Int) (i : Nat) (h : i < a.length) : (a ++ b).getD i 0 = a.getD i 0 := by
  rw [List.getD_eq_getElem?_getD, List.getD_eq_getElem?_getD, List.getElem?_append_left h]
theorem getD_app_len (a : List Int) (x : Int) : (a ++ [x]).getD a.length 0 = x := by
  rw [List.getD_eq_getElem?_getD, List.getElem?_append_right (Nat.le_refl _), Nat.sub_self]; rfl
theorem leftN_at (C : List Int) (sh : Nat) (l : List Int) (n i : Nat) (h : i < n) : (leftN C sh l n).getD i 0 = wrap64 (l.getD (C.length + i) 0 - foreN C sh l (C.length + i)) := by
  induction n with
  | zero => omega
  | succ n ih =>
    have hl := leftN_len C sh l n
    unfold leftN
    by_cases e : i = n
    · subst e
      have h2 := getD_app_len (leftN C sh l i) (wrap64 (l.getD (C.length + i) 0 - foreN C sh l (C.length + i)))
      rw [hl] at h2; exact h2
    · rw [getD_app_left _ _ _ (by omega)]; exact ih (by omega)
theorem foreS_congr (C l m : List Int) (a k : Nat) (ha : k ≤ a) (h : ∀ j, j < a → l.getD j 0 = m.getD j 0) : foreS C l a k = foreS C m a k := by
  induction k with
  | zero => rfl
  | succ k ih => unfold foreS; rw [ih (by omega), h (a - 1 - k) (by omega)]
theorem foreN_congr (C : List Int) (sh : Nat) (l m : List Int) (a : Nat) (ha : C.length ≤ a) (h : ∀ j, j < a → l.getD j 0 = m.getD j 0) : foreN C sh l a = foreN C sh m a := by
  unfold foreN; rw [foreS_congr C l m a _ ha h]
theorem take_next (l : List Int) (n : Nat) (h : n < l.length) : l.take n ++ [l.getD n 0] = l.take (n + 1) := by
  rw [List.take_add_one, List.getD_eq_getElem?_getD, List.getElem?_eq_getElem h]; rfl
theorem getD_take (l : List Int) (n j : Nat) (h : j < n) : (l.take n).getD j 0 = l.getD j 0 := by
  rw [List.getD_eq_getElem?_getD, List.getD_eq_getElem?_getD, List.getElem?_take, if_pos h]
theorem rng_at (l : List Int) (h : Rng l) (n : Nat) : -9223372036854775808 ≤ l.getD n 0 ∧ l.getD n 0 ≤ 9223372036854775807 := by
  rw [List.getD_eq_getElem?_getD]
  cases e : l[n]? with
  | none => simp
  | some x => exact h x (List.mem_of_getElem? e)
theorem whole_left (C : List Int) (sh : Nat) (l : List Int) (hC : C.length ≤ l.length) (hr : Rng l) (N n : Nat) (hN : N = l.length - C.length) (hn : n ≤ N) : wholeN C sh (l.take C.length) (leftN C sh l N) n = l.take (C.length + n) := by
  have hw : (l.take C.length).length = C.length := by rw [List.length_take]; omega
  induction n with
  | zero => rfl
  | succ n ih =>
    have h1 := ih (by omega)
    have h2 := leftN_at C sh l N n (by omega)
    have h3 := foreN_congr C sh (l.take (C.length + n)) l (C.length + n) (by omega) (fun j hj => getD_take l _ j hj)
    have h4 := rng_at l hr (C.length + n)
    have h5 := foreN_rng C sh l (C.length + n)
    unfold wholeN
    rw [h1, h2, hw, h3]
    have e : wrap64 (wrap64 (l.getD (C.length + n) 0 - foreN C sh l (C.length + n)) + foreN C sh l (C.length + n)) = l.getD (C.length + n) 0 := by
      generalize l.getD (C.length + n) 0 = x at *
      generalize foreN C sh l (C.length + n) = f at *
      unfold wrap64; omega
    rw [e, take_next l _ (by omega), Nat.add_assoc]
theorem back9 (C : List Int) (sh : Nat) (l : List Int) (hC : C.length ≤ l.length) (hr : Rng l) : wholeN C sh (l.take C.length) (leftN C sh l (l.length - C.length)) (l.length - C.length) = l := by
  rw [whole_left C sh l hC hr _ _ rfl (Nat.le_refl _), List.take_of_length_le (by omega)]
/-- The weights of a fixed predictor. -/
def wF (o : Nat) : List Int := if o = 0 then [] else if o = 1 then [1] else if o = 2 then [2, -1] else if o = 3 then [3, -3, 1] else [4, -6, 4, -1]
theorem wF_len (o : Nat) (h : o ≤ 4) : (wF o).length = o := by
  rcases (show o = 0 ∨ o = 1 ∨ o = 2 ∨ o = 3 ∨ o = 4 by omega) with rfl | rfl | rfl | rfl | rfl <;> rfl
/-- Does 2^k divide all? -/
def dvB (l : List Int) (k : Nat) : Bool := l.all fun n => n % 2 ^ k == 0
theorem dvB_iff (l : List Int) (k : Nat) : dvB l k = true ↔ ∀ n ∈ l, n % 2 ^ k = 0 := by unfold dvB; simp
theorem dvB_mono (l : List Int) (j k : Nat) (h : j ≤ k) (hk : dvB l k = true) : dvB l j = true := by
  rw [dvB_iff] at *
  intro n hn
  have h1 := hk n hn
  have h2 : (2 : Int) ^ k = 2 ^ j * 2 ^ (k - j) := by rw [← Int.pow_add]; congr 1; omega
  have h3 : (2 : Int) ^ k ∣ n := Int.dvd_of_emod_eq_zero h1
  rw [h2] at h3
  exact Int.emod_eq_zero_of_dvd (Int.dvd_trans (Int.dvd_mul_right _ _) h3)
def wasK (l : List Int) : Nat → Nat
  | 0 => 0
  | k + 1 => if dvB l (k + 1) = true then k + 1 else wasK l k
def zerB (l : List Int) : Bool := l.all fun n => n == 0
/-- The bits that are wasted. -/
def wasN (l : List Int) : Nat := if zerB l = true then 0 else wasK l 31
theorem wasK_le (l : List Int) (k : Nat) : wasK l k ≤ k := by
  induction k with
  | zero => exact Nat.le_refl _
  | succ k ih => unfold wasK; split <;> omega
theorem wasN_le (l : List Int) : wasN l ≤ 31 := by unfold wasN; split; omega; exact wasK_le l 31
theorem wasK_is (l : List Int) (n K : Nat) (hn : n ≤ K) (h1 : dvB l n = true) (h2 : n = K ∨ dvB l (n + 1) = false) : wasK l K = n := by
  induction K with
  | zero => unfold wasK; omega
  | succ K ih =>
    unfold wasK
    by_cases e : n = K + 1
    · subst e; rw [if_pos h1]
    · rcases h2 with h2 | h2
      · omega
      · have h3 : ¬ dvB l (K + 1) = true := fun h => by
          have := dvB_mono l (n + 1) (K + 1) (by omega) h
          rw [h2] at this; cases this
        rw [if_neg h3]
        exact ih (by omega) (Or.inr h2)
theorem dvB_zero (l : List Int) : dvB l 0 = true := by rw [dvB_iff]; intro n _; simp [Int.emod_one]
theorem wasK_dvB (l : List Int) (k : Nat) : dvB l (wasK l k) = true := by
  induction k with
  | zero => exact dvB_zero l
  | succ k ih => unfold wasK; split; assumption; exact ih
theorem wasN_dvB (l : List Int) : dvB l (wasN l) = true := by unfold wasN; split; exact dvB_zero l; exact wasK_dvB l 31
def shrL (l : List Int) (k : Nat) : List Int := l.map fun n => n / 2 ^ k
def shlL (l : List Int) (k : Nat) : List Int := l.map fun n => wrap64 (n * 2 ^ k)
theorem shl_shr (l : List Int) (k : Nat) (hr : Rng l) (h : dvB l k = true) : shlL (shrL l k) k = l := by
  rw [dvB_iff] at h
  unfold shlL shrL
  rw [List.map_map]
  have e : ∀ n ∈ l, ((fun n => wrap64 (n * 2 ^ k)) ∘ fun n => n / 2 ^ k) n = n := fun n hn => by
    show wrap64 (n / 2 ^ k * 2 ^ k) = n
    rw [Int.ediv_mul_cancel (Int.dvd_of_emod_eq_zero (h n hn))]
    have := hr n hn
    unfold wrap64; omega
  rw [List.map_congr_left e, List.map_id']
/-- Two channels as a mode has them, number by number. -/
def stP (m : Nat) (p q : Int) : Int := if m = 2 then p - q else if m = 3 then (p + q) / 2 else p
def stQ (m : Nat) (p q : Int) : Int := if m = 1 then p - q else if m = 3 then p - q else q
def unP (m : Nat) (p q : Int) : Int := if m = 2 then p + q else if m = 3 then (p * 2 + q % 2 + q) / 2 else p
def unQ (m : Nat) (p q : Int) : Int := if m = 1 then p - q else if m = 3 then (p * 2 + q % 2 - q) / 2 else q
theorem un_st (m : Nat) (p q : Int) : unP m (stP m p q) (stQ m p q) = p ∧ unQ m (stP m p q) (stQ m p q) = q := by
  by_cases h1 : m = 1
  · subst h1; exact ⟨rfl, by show p - (p - q) = q; omega⟩
  · by_cases h2 : m = 2
    · subst h2; exact ⟨by show (p - q) + q = p; omega, rfl⟩
    · by_cases h3 : m = 3
      · subst h3; exact ⟨by show ((p + q) / 2 * 2 + (p - q) % 2 + (p - q)) / 2 = p; omega, by show ((p + q) / 2 * 2 + (p - q) % 2 - (p - q)) / 2 = q; omega⟩
      · unfold unP unQ stP stQ; rw [if_neg h2, if_neg h3, if_neg h2, if_neg h3, if_neg h1, if_neg h3, if_neg h1, if_neg h3]; exact ⟨rfl, rfl⟩
def zipN (f : Int → Int → Int) (a b : List Int) : Nat → List Int
  | 0 => []
  | n + 1 => zipN f a b n ++ [f (a.getD n 0) (b.getD n 0)]
theorem zipN_len (f : Int → Int → Int) (a b : List Int) (n : Nat) : (zipN f a b n).length = n := by
  induction n with
  | zero => rfl
  | succ n ih => unfold zipN; rw [List.length_append, ih]; rfl
theorem zipN_at (f : Int → Int → Int) (a b : List Int) (n i : Nat) (h : i < n) : (zipN f a b n).getD i 0 = f (a.getD i 0) (b.getD i 0) := by
  induction n with
  | zero => omega
  | succ n ih =>
    have hl := zipN_len f a b n
    unfold zipN
    by_cases e : i = n
    · subst e
      have h2 := getD_app_len (zipN f a b i) (f (a.getD i 0) (b.getD i 0))
      rw [hl] at h2; exact h2
    · rw [getD_app_left _ _ _ (by omega)]; exact ih (by omega)
theorem zipN_fst (f : Int → Int → Int) (a b : List Int) (n : Nat) (h : n ≤ a.length) (hf : ∀ i, i < n → f (a.getD i 0) (b.getD i 0) = a.getD i 0) : zipN f a b n = a.take n := by
  induction n with
  | zero => rfl
  | succ n ih => unfold zipN; rw [ih (by omega) (fun i hi => hf i (by omega)), hf n (by omega), take_next a n (by omega)]
theorem zipN_is (f : Int → Int → Int) (a b c : List Int) (n : Nat) (h : n ≤ c.length) (hf : ∀ i, i < n → f (a.getD i 0) (b.getD i 0) = c.getD i 0) : zipN f a b n = c.take n := by
  induction n with
  | zero => rfl
  | succ n ih => unfold zipN; rw [ih (by omega) (fun i hi => hf i (by omega)), hf n (by omega), take_next c n (by omega)]
/-- Two channels in a mode, and back. -/
theorem stereo_back (m : Nat) (a b : List Int) (hl : a.length = b.length) :
    zipN (unP m) (zipN (stP m) a b a.length) (zipN (stQ m) a b a.length) a.length = a ∧ zipN (unQ m) (zipN (stP m) a b a.length) (zipN (stQ m) a b a.length) a.length = b := by
  have e1 := zipN_is (unP m) (zipN (stP m) a b a.length) (zipN (stQ m) a b a.length) a a.length (Nat.le_refl _) (fun i hi => by rw [zipN_at _ _ _ _ _ hi, zipN_at _ _ _ _ _ hi]; exact (un_st m _ _).1)
  have e2 := zipN_is (unQ m) (zipN (stP m) a b a.length) (zipN (stQ m) a b a.length) b a.length (by omega) (fun i hi => by rw [zipN_at _ _ _ _ _ hi, zipN_at _ _ _ _ _ hi]; exact (un_st m _ _).2)
  rw [e1, e2, List.take_of_length_le (Nat.le_refl _), List.take_of_length_le (by omega)]
  exact ⟨rfl, rfl⟩
def inB (l : List Int) (M : Int) : Bool := l.all fun n => decide (-M ≤ n) && decide (n ≤ M)
theorem inB_iff (l : List Int) (M : Int) : inB l M = true ↔ ∀ n ∈ l, -M ≤ n ∧ n ≤ M := by unfold inB; simp
/-- A line's numbers. -/
def lineN (f s : Int) : Nat → List Int
  | 0 => []
  | n + 1 => lineN f s n ++ [wrap64 (f + wrap64 ((n : Int) * s))]
theorem lineN_len (f s : Int) (n : Nat) : (lineN f s n).length = n := by
  induction n with
  | zero => rfl
  | succ n ih => unfold lineN; rw [List.length_append, ih]; rfl
theorem lineN_at (f s : Int) (n i : Nat) (h : i < n) : (lineN f s n).getD i 0 = wrap64 (f + wrap64 ((i : Int) * s)) := by
  induction n with
  | zero => omega
  | succ n ih =>
    have hl := lineN_len f s n
    unfold lineN
    by_cases e : i = n
    · subst e
      have h2 := getD_app_len (lineN f s i) (wrap64 (f + wrap64 ((i : Int) * s)))
      rw [hl] at h2; exact h2
    · rw [getD_app_left _ _ _ (by omega)]; exact ih (by omega)
theorem lineN_rng (f s : Int) (n : Nat) : Rng (lineN f s n) := by
  induction n with
  | zero => intro x hx; cases hx
  | succ n ih =>
    intro x hx
    rcases List.mem_append.1 hx with hx | hx
    · exact ih x hx
    · rw [List.mem_singleton] at hx; rw [hx]; exact wrap_rng _
theorem line_zero (f s : Int) (n o : Nat) (h2 : 2 ≤ o) (h4 : o ≤ 4) (i : Nat) (hi : o + i < n) : wrap64 ((lineN f s n).getD (o + i) 0 - foreN (wF o) 0 (lineN f s n) (o + i)) = 0 := by
  have hL := fun j (hj : j < n) => lineN_at f s n j hj
  have g0 := hL (o + i) hi
  have g1 := hL (o + i - 1) (by omega)
  have g2 := hL (o + i - 2) (by omega)
  have m1 : ((o + i - 1 : Nat) : Int) * s = ((o + i : Nat) : Int) * s - s := by
    rw [show ((o + i - 1 : Nat) : Int) = ((o + i : Nat) : Int) - 1 by omega, Int.sub_mul, Int.one_mul]
  have m2 : ((o + i - 2 : Nat) : Int) * s = ((o + i : Nat) : Int) * s - 2 * s := by
    rw [show ((o + i - 2 : Nat) : Int) = ((o + i : Nat) : Int) - 2 by omega, Int.sub_mul]
  rw [m1] at g1
  rw [m2] at g2
  rcases (show o = 2 ∨ o = 3 ∨ o = 4 by omega) with rfl | rfl | rfl
  · have e : foreN (wF 2) 0 (lineN f s n) (2 + i) = wrap64 (wrap64 (0 + wrap64 (2 * (lineN f s n).getD (2 + i - 1) 0)) + wrap64 (-1 * (lineN f s n).getD (2 + i - 2) 0)) := by
      show _ / (2 : Int) ^ 0 = _
      rw [Int.pow_zero, Int.ediv_one]; rfl
    rw [e, g0, g1, g2]
    generalize ((2 + i : Nat) : Int) * s = p
    unfold wrap64; omega
  · have g3 := hL (3 + i - 3) (by omega)
    have m3 : ((3 + i - 3 : Nat) : Int) * s = ((3 + i : Nat) : Int) * s - 3 * s := by
      rw [show ((3 + i - 3 : Nat) : Int) = ((3 + i : Nat) : Int) - 3 by omega, Int.sub_mul]
    rw [m3] at g3
    have e : foreN (wF 3) 0 (lineN f s n) (3 + i) = wrap64 (wrap64 (wrap64 (0 + wrap64 (3 * (lineN f s n).getD (3 + i - 1) 0)) + wrap64 (-3 * (lineN f s n).getD (3 + i - 2) 0)) + wrap64 (1 * (lineN f s n).getD (3 + i - 3) 0)) := by
      show _ / (2 : Int) ^ 0 = _
      rw [Int.pow_zero, Int.ediv_one]; rfl
    rw [e, g0, g1, g2, g3]
    generalize ((3 + i : Nat) : Int) * s = p
    unfold wrap64; omega
  · have g3 := hL (4 + i - 3) (by omega)
    have g4 := hL (4 + i - 4) (by omega)
    have m3 : ((4 + i - 3 : Nat) : Int) * s = ((4 + i : Nat) : Int) * s - 3 * s := by
      rw [show ((4 + i - 3 : Nat) : Int) = ((4 + i : Nat) : Int) - 3 by omega, Int.sub_mul]
    have m4 : ((4 + i - 4 : Nat) : Int) * s = ((4 + i : Nat) : Int) * s - 4 * s := by
      rw [show ((4 + i - 4 : Nat) : Int) = ((4 + i : Nat) : Int) - 4 by omega, Int.sub_mul]
    rw [m3] at g3
    rw [m4] at g4
    have e : foreN (wF 4) 0 (lineN f s n) (4 + i) = wrap64 (wrap64 (wrap64 (wrap64 (0 + wrap64 (4 * (lineN f s n).getD (4 + i - 1) 0)) + wrap64 (-6 * (lineN f s n).getD (4 + i - 2) 0)) + wrap64 (4 * (lineN f s n).getD (4 + i - 3) 0)) + wrap64 (-1 * (lineN f s n).getD (4 + i - 4) 0)) := by
      show _ / (2 : Int) ^ 0 = _
      rw [Int.pow_zero, Int.ediv_one]; rfl
    rw [e, g0, g1, g2, g3, g4]
    generalize ((4 + i : Nat) : Int) * s = p
    unfold wrap64; omega

end Go.Proofs.Ytkhdkmdiblomhaa

namespace Go.Proofs.Ytkhdkmdiblomhaa
open Go.RowKit
set_option linter.unusedSimpArgs false
set_option linter.unusedVariables false

/-- How a subframe is coded. -/
structure Sb where
  k : Int
  o : Int
  w : Int
  p : Int
  h : Int
  C : List Int
  R : Rc
abbrev bareOk (s : Sb) : Prop := s.p = 0 ∧ s.h = 0 ∧ s.C = []
abbrev plnOk (s : Sb) : Prop := s.o = 0 ∧ s.R = ⟨0, 0, [], []⟩
abbrev kdA (s : Sb) : Prop := (s.k = 0 ∨ s.k = 1) ∧ bareOk s ∧ plnOk s
abbrev kdF (s : Sb) (b : Int) : Prop := s.k = 2 ∧ bareOk s ∧ 0 ≤ s.o ∧ s.o ≤ 4 ∧ s.o ≤ b ∧ chkOk s.R b s.o
abbrev kdL (s : Sb) (b : Int) : Prop := s.k = 3 ∧ 1 ≤ s.o ∧ s.o ≤ 32 ∧ s.o ≤ b ∧ 1 ≤ s.p ∧ s.p ≤ 15 ∧ 0 ≤ s.h ∧ s.h ≤ 15 ∧ (s.C.length : Int) = s.o ∧ (∀ x ∈ s.C, sigE x s.p = 0) ∧ chkOk s.R b s.o
/-- A Sub may be. -/
abbrev subOk (s : Sb) (b v : Int) : Prop := (1 ≤ b ∧ b ≤ 65535) ∧ (1 ≤ v ∧ v ≤ 33) ∧ (0 ≤ s.w ∧ s.w < v) ∧ (kdA s ∨ kdF s b ∨ kdL s b)
/-- What is left over of divided samples. -/
def resN (s : Sb) (m : List Int) : List Int := if s.k = 2 then leftN (wF s.o.toNat) 0 m (m.length - s.o.toNat) else leftN s.C s.h.toNat m (m.length - s.o.toNat)
/-- Samples go with a Sub. -/
abbrev goesOk (s : Sb) (v : Int) (l : List Int) : Prop := (∀ x ∈ l, sigE x v = 0) ∧ dvB l s.w.toNat = true ∧ (s.k = 0 → ∀ x ∈ l, x = l.getD 0 0) ∧ (s.k = 2 ∨ s.k = 3 → encR s.R l.length s.o (resN s (shrL l s.w.toNat)) = true)
def typN (s : Sb) : Int := if s.k = 0 then 0 else if s.k = 1 then 1 else if s.k = 2 then 8 + s.o else 31 + s.o
def wstB (w : Int) : List Nat := if 0 < w then putB 1 1 ++ unrB (w - 1) else putB 0 1
/-- Its bits behind the head, of divided samples. -/
def bodyB (s : Sb) (v : Int) (m : List Int) : List Nat :=
  if s.k = 0 then sigB (m.getD 0 0) (v - s.w)
  else if s.k = 1 then numsB 0 (v - s.w) m
  else if s.k = 2 then numsB 0 (v - s.w) (m.take s.o.toNat) ++ encB s.R m.length s.o.toNat (resN s m)
  else numsB 0 (v - s.w) (m.take s.o.toNat) ++ (putB (s.p - 1) 4 ++ (putB s.h 5 ++ (numsB 0 s.p s.C ++ encB s.R m.length s.o.toNat (resN s m))))
def subB (s : Sb) (v : Int) (l : List Int) : List Nat := putB (typN s) 7 ++ (wstB s.w ++ bodyB s v (shrL l s.w.toNat))
theorem sigE_iff (x v : Int) : sigE x v = 0 ↔ 1 ≤ v ∧ v ≤ 64 ∧ -2 ^ (v.toNat - 1) ≤ x ∧ x < 2 ^ (v.toNat - 1) := by
  unfold sigE
  constructor
  · intro h
    split at h
    · assumption
    · cases h
  · intro h; rw [if_pos h]
theorem fit0 (v x : Int) (h0 : ¬ v = -1) (h1 : ¬ v = 0) : fitE 0 v x ↔ sigE x v = 0 := by unfold fitE; rw [if_neg h0, if_neg h1]
theorem pow_int (k : Nat) : (2 : Int) ^ k = ((2 ^ k : Nat) : Int) := by simp
theorem fit_div (x : Int) (v w : Nat) (hw : w < v) (hf : sigE x v = 0) (hd : x % 2 ^ w = 0) : sigE (x / 2 ^ w) ((v - w : Nat) : Int) = 0 := by
  rw [sigE_iff] at hf ⊢
  obtain ⟨h1, h2, h3, h4⟩ := hf
  rw [Int.toNat_natCast] at h3 h4 ⊢
  have hp : (2 : Int) ^ (v - 1) = 2 ^ (v - w - 1) * 2 ^ w := by rw [← Int.pow_add]; congr 1; omega
  have hq : (0 : Int) < 2 ^ w := Int.pow_pos (by decide)
  have hx : x / 2 ^ w * 2 ^ w = x := Int.ediv_mul_cancel (Int.dvd_of_emod_eq_zero hd)
  rw [hp] at h3 h4
  refine ⟨by omega, by omega, ?_, ?_⟩
  · rw [← hx, ← Int.neg_mul] at h3
    exact Int.le_of_mul_le_mul_right h3 hq
  · rw [← hx] at h4
    exact Int.lt_of_mul_lt_mul_right h4 (Int.le_of_lt hq)
theorem fit_mul (x : Int) (v w : Nat) (hw : w < v) (hv : v ≤ 64) (hf : sigE x ((v - w : Nat) : Int) = 0) : sigE (x * 2 ^ w) v = 0 := by
  rw [sigE_iff] at hf ⊢
  obtain ⟨h1, h2, h3, h4⟩ := hf
  rw [Int.toNat_natCast] at h3 h4 ⊢
  have hp : (2 : Int) ^ (v - 1) = 2 ^ (v - w - 1) * 2 ^ w := by rw [← Int.pow_add]; congr 1; omega
  have hq : (0 : Int) < 2 ^ w := Int.pow_pos (by decide)
  rw [hp]
  refine ⟨by omega, by omega, ?_, ?_⟩
  · rw [← Int.neg_mul]
    exact Int.mul_le_mul_of_nonneg_right h3 (Int.le_of_lt hq)
  · exact Int.mul_lt_mul_of_pos_right h4 hq
theorem fit_rng (l : List Int) (v : Int) (h : ∀ x ∈ l, sigE x v = 0) : Rng l := fun x hx => by
  obtain ⟨h1, h2, h3, h4⟩ := (sigE_iff x v).1 (h x hx)
  have hp : (2 : Nat) ^ (v.toNat - 1) ≤ 2 ^ 63 := Nat.pow_le_pow_right (by decide) (by omega)
  have e63 : (2 : Nat) ^ 63 = 9223372036854775808 := by decide
  rw [pow_int] at h3 h4
  omega
theorem wholeN_pre (C : List Int) (sh : Nat) (warm r : List Int) (n N j : Nat) (hn : n ≤ N) (hj : j < warm.length + n) : (wholeN C sh warm r N).getD j 0 = (wholeN C sh warm r n).getD j 0 := by
  induction N with
  | zero => rw [show n = 0 by omega]
  | succ N ih =>
    by_cases e : n = N + 1
    · rw [e]
    · have hl := wholeN_len C sh warm r N
      have hs : wholeN C sh warm r (N + 1) = wholeN C sh warm r N ++ [wrap64 (r.getD N 0 + foreN C sh (wholeN C sh warm r N) (warm.length + N))] := rfl
      rw [hs, getD_app_left _ _ _ (by omega)]
      exact ih (by omega)
theorem wholeN_at (C : List Int) (sh : Nat) (warm r : List Int) (N i : Nat) (hi : i < N) : (wholeN C sh warm r N).getD (warm.length + i) 0 = wrap64 (r.getD i 0 + foreN C sh (wholeN C sh warm r i) (warm.length + i)) := by
  rw [wholeN_pre C sh warm r (i + 1) N _ (by omega) (by omega)]
  have hl := wholeN_len C sh warm r i
  have h2 := getD_app_len (wholeN C sh warm r i) (wrap64 (r.getD i 0 + foreN C sh (wholeN C sh warm r i) (warm.length + i)))
  rw [hl] at h2
  exact h2
theorem left_whole (C : List Int) (sh : Nat) (warm r : List Int) (hC : C.length = warm.length) (hr : Rng r) (N n : Nat) (hN : N ≤ r.length) (hn : n ≤ N) : leftN C sh (wholeN C sh warm r N) n = r.take n := by
  induction n with
  | zero => rfl
  | succ n ih =>
    unfold leftN
    have h1 := wholeN_at C sh warm r N n (by omega)
    have h3 := foreN_congr C sh (wholeN C sh warm r N) (wholeN C sh warm r n) (warm.length + n) (by omega) (fun j hj => wholeN_pre C sh warm r n N j (by omega) hj)
    have h4 := rng_at r hr n
    have h5 := foreN_rng C sh (wholeN C sh warm r n) (warm.length + n)
    rw [ih (by omega), hC, h3, h1]
    have e : wrap64 (wrap64 (r.getD n 0 + foreN C sh (wholeN C sh warm r n) (warm.length + n)) - foreN C sh (wholeN C sh warm r n) (warm.length + n)) = r.getD n 0 := by
      generalize r.getD n 0 = x at *
      generalize foreN C sh (wholeN C sh warm r n) (warm.length + n) = f at *
      unfold wrap64; omega
    rw [e, take_next r n (by omega)]
theorem shl_len (l : List Int) (k : Nat) : (shlL l k).length = l.length := List.length_map ..
theorem shr_len (l : List Int) (k : Nat) : (shrL l k).length = l.length := List.length_map ..
theorem wrap_id (x : Int) (h : -9223372036854775808 ≤ x ∧ x ≤ 9223372036854775807) : wrap64 x = x := by unfold wrap64; omega
/-- Samples times 2^w, of numbers that fit. -/
theorem shl_fit (m : List Int) (v w : Nat) (hw : w < v) (hv : v ≤ 64) (h : ∀ x ∈ m, sigE x ((v - w : Nat) : Int) = 0) : (∀ x ∈ shlL m w, sigE x v = 0) ∧ dvB (shlL m w) w = true ∧ shrL (shlL m w) w = m := by
  have hq : (2 : Int) ^ w ≠ 0 := Int.ne_of_gt (Int.pow_pos (by decide))
  have hx : ∀ x ∈ m, sigE (x * 2 ^ w) v = 0 ∧ wrap64 (x * 2 ^ w) = x * 2 ^ w := fun x hx => by
    have h1 := fit_mul x v w hw hv (h x hx)
    exact ⟨h1, wrap_id _ (fit_rng [x * 2 ^ w] v (fun y hy => by rw [List.mem_singleton] at hy; rw [hy]; exact h1) _ (by simp))⟩
  refine ⟨?_, ?_, ?_⟩
  · intro y hy
    obtain ⟨x, hm, rfl⟩ := List.mem_map.1 hy
    rw [(hx x hm).2]; exact (hx x hm).1
  · rw [dvB_iff]
    intro y hy
    obtain ⟨x, hm, rfl⟩ := List.mem_map.1 hy
    rw [(hx x hm).2]
    exact Int.mul_emod_left x (2 ^ w)
  · unfold shrL shlL
    rw [List.map_map]
    have e : ∀ x ∈ m, ((fun n => n / 2 ^ w) ∘ fun n => wrap64 (n * 2 ^ w)) x = x := fun x hm => by
      show wrap64 (x * 2 ^ w) / 2 ^ w = x
      rw [(hx x hm).2]
      exact Int.mul_ediv_cancel x hq
    rw [List.map_congr_left e, List.map_id']
/-- Divided samples fit. -/
theorem shr_fit (l : List Int) (v w : Nat) (hw : w < v) (h : ∀ x ∈ l, sigE x v = 0) (hd : dvB l w = true) : ∀ x ∈ shrL l w, sigE x ((v - w : Nat) : Int) = 0 := fun y hy => by
  obtain ⟨x, hm, rfl⟩ := List.mem_map.1 hy
  exact fit_div x v w hw (h x hm) ((dvB_iff l w).1 hd x hm)
/-- Residuals that a recipe takes are ints. -/
theorem fitE_rng (k e x : Int) (he : e ≤ 31) (h : fitE k e x) : -9223372036854775808 ≤ x ∧ x ≤ 9223372036854775807 := by
  unfold fitE at h
  split at h
  · unfold rcwE at h
    split at h
    · rename_i hc
      obtain ⟨h0, h1, h2⟩ := hc
      have hp : (2 : Nat) ^ k.toNat ≤ 2 ^ 30 := Nat.pow_le_pow_right (by decide) (by omega)
      have e30 : (2 : Nat) ^ 30 = 1073741824 := by decide
      have hp0 : 0 < (2 : Nat) ^ k.toNat := Nat.two_pow_pos _
      have h3 : foldN x < (16777216 + 1) * 2 ^ k.toNat := (Nat.div_lt_iff_lt_mul hp0).1 (by omega)
      have h4 : (16777216 + 1) * 2 ^ k.toNat ≤ (16777216 + 1) * 1073741824 := Nat.mul_le_mul_left _ (by omega)
      by_cases hx : 0 ≤ x
      · have := foldN_pos x hx; omega
      · have := foldN_neg x (by omega); omega
    · cases h
  · split at h
    · omega
    · exact fit_rng [x] e (fun y hy => by rw [List.mem_singleton] at hy; rw [hy]; exact h) x (by simp)
theorem mem_part (l : List Int) {b o r : Nat} (hC : Cut b o r) (hl : l.length = b - r) (x : Int) (hx : x ∈ l) : ∃ i, i < 2 ^ o ∧ x ∈ partN l b o r i := by
  have hall : ∀ n, n ≤ 2 ^ o → ∀ y ∈ l.take (frN b o r n), ∃ i, i < n ∧ y ∈ partN l b o r i := by
    intro n hn
    induction n with
    | zero => intro y hy; rw [frN_zero] at hy; simp at hy
    | succ n ih =>
      intro y hy
      rw [← take_part'] at hy
      rcases List.mem_append.1 hy with hy | hy
      · obtain ⟨i, h1, h2⟩ := ih (by omega) y hy
        exact ⟨i, by omega, h2⟩
      · exact ⟨n, by omega, hy⟩
  have := hall (2 ^ o) (Nat.le_refl _) x (by rw [hC.total, ← hl, List.take_length]; exact hx)
  exact this
theorem encR_rng {c : Rc} {b r : Int} {l : List Int} (h : encR c b r l = true) : Rng l := fun x hx => by
  obtain ⟨b', o', r', rfl, rfl, hk, hf⟩ := encR_yes h
  obtain ⟨hl, hfit⟩ := (fitB_iff c b' o' r' l).1 hf
  obtain ⟨i, hi, hp⟩ := mem_part l hk.cut hl x hx
  have hrow := hk.row i hi
  exact fitE_rng (c.P.getD i 0) (c.E.getD i 0) x (by omega) (hfit i hi x hp)
theorem encR_len {c : Rc} {b r : Int} {l : List Int} (h : encR c b r l = true) : (l.length : Int) = b - r := by
  obtain ⟨b', o', r', rfl, rfl, hk, hf⟩ := encR_yes h
  have := ((fitB_iff c b' o' r' l).1 hf).1
  have := hk.cut.rb
  omega

end Go.Proofs.Ytkhdkmdiblomhaa
