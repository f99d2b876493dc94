/- Own text: parts joined by the program, plain laws. -/
import Derived.Test.YtolmijpecomkcaaQ5lay
import Derived.Test.YtolmijpecomkcaaP5join2
namespace Go.Proofs.Ytolmijpecomkcaa
open Go.RowKit
set_option linter.unusedSimpArgs false
set_option linter.unusedVariables false

theorem sumL_pre (ps : List Pcm) (i : Nat) : sumL (ps.take i) ≤ sumL ps := by
  induction ps generalizing i with
  | nil => simp
  | cons q t ih =>
    cases i with
    | zero => simp [sumL]
    | succ i =>
      have := ih i
      simp only [List.take_succ_cons, sumL]
      omega
theorem joinL_at (ps : List Pcm) (k : Nat) (hk : ∀ p ∈ ps, (p.pl.getD k []).length = lenP p) : ∀ (i : Nat) (p : Pcm), ps[i]? = some p → ∀ j, j < lenP p → (joinL ps k).getD (sumL (ps.take i) + j) 0 = (p.pl.getD k []).getD j 0 := by
  induction ps with
  | nil => intro i p h; simp at h
  | cons q t ih =>
    intro i p h j hj
    have hq := hk q (by simp)
    have e : joinL (q :: t) k = q.pl.getD k [] ++ joinL t k := by simp [joinL]
    cases i with
    | zero =>
      simp at h
      subst h
      rw [e]
      have h0 : sumL ((q :: t).take 0) + j = j := by simp [sumL]
      rw [h0]
      simp only [List.getD_eq_getElem?_getD]
      simp only [List.getD_eq_getElem?_getD] at hq
      rw [List.getElem?_append_left (by omega)]
    | succ i =>
      simp at h
      have h1 := ih (fun p hp => hk p (by simp [hp])) i p h j hj
      rw [e]
      have h2 : sumL ((q :: t).take (i + 1)) + j = (q.pl.getD k []).length + (sumL (t.take i) + j) := by
        simp only [List.take_succ_cons, sumL, hq]
        omega
      rw [h2]
      rw [List.getD_eq_getElem?_getD, List.getElem?_append_right (by omega), Nat.add_sub_cancel_left, ← List.getD_eq_getElem?_getD]
      exact h1
theorem joinL_len (ps : List Pcm) (k : Nat) (hk : ∀ p ∈ ps, (p.pl.getD k []).length = lenP p) : (joinL ps k).length = sumL ps := by
  induction ps with
  | nil => rfl
  | cons q t ih =>
    have e : joinL (q :: t) k = q.pl.getD k [] ++ joinL t k := by simp [joinL]
    rw [e, List.length_append, hk q (by simp), ih (fun p hp => hk p (by simp [hp]))]
    rfl
theorem partE_zero (p0 p : Pcm) (h : partE p0 p = 0) : checkN p = 0 ∧ alikeB p p0 = true := by
  unfold partE at h
  by_cases hc : checkN p = 0
  · rw [if_pos hc] at h
    by_cases ha : p.rate = p0.rate ∧ p.ch = p0.ch ∧ p.wd = p0.wd
    · exact ⟨hc, decide_eq_true ha⟩
    · rw [if_neg ha] at h
      exact absurd h (by decide)
  · rw [if_neg hc] at h
    exact absurd h hc
/-- What the whole's planes are behind i parts. -/
def soJ (ps : List Pcm) (i : Nat) : Nat → Nat → Int := fun k j => if j < sumL (ps.take i) then (joinL ps k).getD j 0 else 0
theorem soJ_step (ps : List Pcm) (i : Nat) (p : Pcm) (h : ps[i]? = some p) (k j : Nat) (hk : ∀ p ∈ ps, (p.pl.getD k []).length = lenP p) :
    (if sumL (ps.take i) ≤ j ∧ j < sumL (ps.take i) + lenP p then (p.pl.getD k []).getD (j - sumL (ps.take i)) 0 else soJ ps i k j) = soJ ps (i + 1) k j := by
  unfold soJ
  rw [sumL_take ps i p h]
  by_cases q : sumL (ps.take i) ≤ j ∧ j < sumL (ps.take i) + lenP p
  · rw [if_pos q, if_pos q.2]
    have := joinL_at ps k hk i p h (j - sumL (ps.take i)) (by omega)
    rw [← this, show sumL (ps.take i) + (j - sumL (ps.take i)) = j by omega]
  · rw [if_neg q]
    by_cases r : j < sumL (ps.take i)
    · rw [if_pos r, if_pos (by omega)]
    · rw [if_neg r, if_neg (by omega)]

end Go.Proofs.Ytolmijpecomkcaa
