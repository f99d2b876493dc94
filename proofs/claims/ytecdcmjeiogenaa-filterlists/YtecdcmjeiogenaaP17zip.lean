/- Own text: two lists number by number; middle and side undone. -/
import Derived.Test.YtecdcmjeiogenaaP17mem
namespace Go.Proofs.Ytecdcmjeiogenaa
open Go.RowKit
set_option linter.unusedSimpArgs false
set_option linter.unusedVariables false
def zipN (f : Int → Int → Int) (a b : List Int) : Nat → List Int
  | 0 => []
  | n + 1 => zipN f a b n ++ [f (a.getD n 0) (b.getD n 0)]
theorem getD_app_len (a : List Int) (x : Int) : (a ++ [x]).getD a.length 0 = x := by
  rw [List.getD_eq_getElem?_getD, List.getElem?_append_right (Nat.le_refl _), Nat.sub_self]; rfl
theorem getD_app_left (a b : List Int) (i : Nat) (h : i < a.length) : (a ++ b).getD i 0 = a.getD i 0 := by
  rw [List.getD_eq_getElem?_getD, List.getD_eq_getElem?_getD, List.getElem?_append_left h]
theorem take_next (l : List Int) (n : Nat) (h : n < l.length) : l.take n ++ [l.getD n 0] = l.take (n + 1) := by
  rw [List.take_add_one, List.getD_eq_getElem?_getD, List.getElem?_eq_getElem h]; rfl
theorem zipN_len (f : Int → Int → Int) (a b : List Int) (n : Nat) : (zipN f a b n).length = n := by
  induction n with
  | zero => rfl
  | succ n ih => unfold zipN; rw [List.length_append, ih]; rfl
theorem zipN_at (f : Int → Int → Int) (a b : List Int) (n i : Nat) (h : i < n) : (zipN f a b n).getD i 0 = f (a.getD i 0) (b.getD i 0) := by
  induction n with
  | zero => omega
  | succ n ih =>
    have hl := zipN_len f a b n
    unfold zipN
    by_cases e : i = n
    · subst e
      have h2 := getD_app_len (zipN f a b i) (f (a.getD i 0) (b.getD i 0))
      rw [hl] at h2; exact h2
    · rw [getD_app_left _ _ _ (by omega)]; exact ih (by omega)
theorem zipN_is (f : Int → Int → Int) (a b c : List Int) (n : Nat) (h : n ≤ c.length) (hf : ∀ i, i < n → f (a.getD i 0) (b.getD i 0) = c.getD i 0) : zipN f a b n = c.take n := by
  induction n with
  | zero => rfl
  | succ n ih => unfold zipN; rw [ih (by omega) (fun i hi => hf i (by omega)), hf n (by omega), take_next c n (by omega)]
theorem zipN_unmid (a b : List Int) (ha : ∀ x ∈ a, In64 x) (hb : ∀ x ∈ b, In64 x) (n : Nat) (h1 : n ≤ a.length) (h2 : n ≤ b.length) : zipN unaN (zipN midN a b n) (zipN sidN a b n) n = a.take n ∧ zipN unbN (zipN midN a b n) (zipN sidN a b n) n = b.take n := by
  constructor
  · refine zipN_is _ _ _ a n h1 fun i hi => ?_
    rw [zipN_at _ _ _ _ _ hi, zipN_at _ _ _ _ _ hi]
    exact (un_mid (ha _ (getD_mem a i (by omega))) (hb _ (getD_mem b i (by omega)))).1
  · refine zipN_is _ _ _ b n h2 fun i hi => ?_
    rw [zipN_at _ _ _ _ _ hi, zipN_at _ _ _ _ _ hi]
    exact (un_mid (ha _ (getD_mem a i (by omega))) (hb _ (getD_mem b i (by omega)))).2
theorem zipN_in (f : Int → Int → Int) (hf : ∀ p q, In64 (f p q)) (a b : List Int) (n : Nat) : ∀ x ∈ zipN f a b n, In64 x := by
  induction n with
  | zero => intro x hx; cases hx
  | succ n ih =>
    intro x hx
    rcases List.mem_append.1 hx with hx | hx
    · exact ih x hx
    · rw [List.mem_singleton] at hx; rw [hx]; exact hf _ _
theorem midN_in (p q : Int) : In64 (midN p q) := w64_in _
theorem sidN_in (p q : Int) : In64 (sidN p q) := w64_in _
theorem unaN_in (p q : Int) : In64 (unaN p q) := w64_in _
theorem unbN_in (p q : Int) : In64 (unbN p q) := w64_in _

end Go.Proofs.Ytecdcmjeiogenaa
