/- Own text: PCMs that may be, plain laws. -/
import Derived.Test.YtolmijpecomkcaaDoorP5check2
namespace Go.Proofs.YtolmijpecomkcaaDoor
open Go.RowKit
set_option linter.unusedSimpArgs false
set_option linter.unusedVariables false
theorem check_zero (p : Pcm) (h : checkN p = 0) : headB p = true ∧ lenP p ≤ 1048576 ∧ ∀ i, i < p.pl.length → planeB p (p.pl.getD i []) = true := by
  unfold checkN at h
  cases hb : headB p && p.pl.all (planeB p) with
  | false => rw [hb] at h; cases h
  | true =>
    rw [hb] at h
    obtain ⟨h1, h2⟩ := Bool.and_eq_true_iff.1 hb
    refine ⟨h1, ?_, fun i hi => ?_⟩
    · by_cases hl : 1048576 < lenP p
      · rw [if_pos rfl, if_pos hl] at h
        cases h
      · omega
    · rw [List.all_eq_true] at h2
      apply h2
      rw [List.getD_eq_getElem?_getD, List.getElem?_eq_getElem hi]
      exact List.getElem_mem hi

theorem checkN_three (p : Pcm) : checkN p = 0 ∨ checkN p = 5 ∨ checkN p = 50 := by
  unfold checkN
  split
  · split
    · exact .inr (.inl rfl)
    · exact .inl rfl
  · exact .inr (.inr rfl)

theorem list_eq_of {α : Type} {l m : List α} {d : α} (hl : l.length = m.length) (h : ∀ j, j < l.length → l.getD j d = m.getD j d) : l = m := by
  apply List.ext_getElem hl
  intro j h1 h2
  have := h j h1
  rwa [List.getD_eq_getElem?_getD, List.getD_eq_getElem?_getD, List.getElem?_eq_getElem h1, List.getElem?_eq_getElem h2] at this

def sameB (p q : Pcm) : Bool := decide (p.rate = q.rate) && (decide (p.ch = q.ch) && (decide (p.wd = q.wd) && decide (p.pl = q.pl)))

end Go.Proofs.YtolmijpecomkcaaDoor
