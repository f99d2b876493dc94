/- Own text: lists of lists of numbers that a call owns: one of them is replaced; read as rows. It speaks of no program. -/
import Derived.Test.YtolmijpecomkcaaP5mem
import Derived.OneCell
import Derived.Deep.MidRow
namespace Go.Proofs.Ytolmijpecomkcaa
open Go.RowKit
set_option linter.unusedSimpArgs false
set_option linter.unusedVariables false

theorem getD_set_eq {α : Type} (l : List α) (x d : α) (i : Nat) (h : i < l.length) : (l.set i x).getD i d = x := by
  rw [List.getD_eq_getElem?_getD, List.getElem?_set_self h]
  rfl
theorem getD_set_ne {α : Type} (l : List α) (x d : α) (i j : Nat) (h : i ≠ j) : (l.set i x).getD j d = l.getD j d := by
  rw [List.getD_eq_getElem?_getD, List.getElem?_set_ne h, List.getD_eq_getElem?_getD]
theorem ne_swap {a b : Option Nat} (h : a = none ∨ a ≠ b) : b = none ∨ b ≠ a := by
  rcases h with h | h
  · cases b with
    | none => exact .inl rfl
    | some k => exact .inr (by rw [h]; simp)
  · exact .inr (fun e => h e.symm)

/-- One list grows, and its place in the row of lists is told so. -/
theorem OwnMat.set {E : TypeId} {B : Nat} {w w1 : World} {v : Value} {vs : List Value} {xs : List (List Int)} (h : OwnMat E B w v vs xs) (i : Nat) (hi : i < xs.length) {u' : Value} {l' : List Int}
    (hg : w.grownBy w1 (vs.getD i noS).ownBlock) (hu : w1.ownsRow B 3 1 u' l'.length (intsC l')) (hb : u'.ownBlock = (vs.getD i noS).ownBlock ∨ u'.ownBlock = some w.heap.size) (g cap : Nat) (hv : v = .slice (some ⟨g, 0, none⟩) xs.length cap) :
    OwnMat E B (w1.setCell ⟨g, i, none⟩ u') v (vs.set i u') (xs.set i l') := by
  have hvl := h.vlen
  have hvb : v.ownBlock = some g := by rw [hv]; rfl
  have hgl := (h.outer.lt g hvb).2
  have hug : u'.ownBlock ≠ some g := by
    rcases hb with e | e
    · rw [e]
      rcases h.aside i hi with q | q
      · rw [q]; simp
      · rw [hvb] at q; exact q
    · rw [e]
      intro e2
      cases e2
      omega
  have hout := h.outer.kept hg (ne_swap (h.aside i hi))
  have hnew : ∀ j, j < xs.length → j ≠ i → (vs.getD j noS).ownBlock = none ∨ (vs.getD j noS).ownBlock ≠ u'.ownBlock := fun j hj hji => by
    rcases hb with e | e
    · rw [e]
      exact h.apart j i hj hi hji
    · exact owns_new (h.inner j hj) (fun k hk => by rw [e] at hk; cases hk; exact Nat.le_refl _)
  refine ⟨?_, fun j hj => ?_, fun j k hj hk hjk => ?_, fun j hj => ?_⟩
  · rw [List.length_set]
    rw [hv] at hout ⊢
    exact (hout.stored i u').1
  · rw [List.length_set] at hj
    by_cases e : i = j
    · subst e
      rw [getD_set_eq _ _ _ _ (by omega), getD_set_eq _ _ _ _ hi]
      exact ownsRow_setCell_other hu hug _
    · rw [getD_set_ne _ _ _ _ _ e, getD_set_ne _ _ _ _ _ e]
      refine ownsRow_setCell_other ((h.inner j hj).kept hg (h.apart j i hj hi (fun q => e q.symm))) ?_ _
      rcases h.aside j hj with q | q
      · rw [q]; simp
      · rw [hvb] at q; exact q
  · rw [List.length_set] at hj hk
    by_cases e : i = j
    · subst e
      rw [getD_set_eq _ _ _ _ (by omega), getD_set_ne _ _ _ _ _ hjk]
      exact ne_swap (hnew k hk (fun q => hjk q.symm))
    · rw [getD_set_ne _ _ _ _ _ e]
      by_cases e2 : i = k
      · subst e2
        rw [getD_set_eq _ _ _ _ (by omega)]
        exact hnew j hj (fun q => e q.symm)
      · rw [getD_set_ne _ _ _ _ _ e2]
        exact h.apart j k hj hk hjk
  · rw [List.length_set] at hj
    by_cases e : i = j
    · subst e
      rw [getD_set_eq _ _ _ _ (by omega), hvb]
      exact .inr hug
    · rw [getD_set_ne _ _ _ _ _ e]
      exact h.aside j hj

/-- Rows of new memory: from block B on, and they may be written. -/
structure Fresh (B : Nat) (w : World) (ao : Option Addr) (xs : List (List Int)) : Prop where
  own : ∀ b off, ao = some ⟨b, off, none⟩ → 0 < xs.length → B ≤ b
  rows : ∀ b off, ao = some ⟨b, off, none⟩ → ∀ i, i < xs.length → ∀ a n c, w.cell? ⟨b, off + i, none⟩ = some (.slice a n c) → ∀ ba oa, a = some ⟨ba, oa, none⟩ → B ≤ ba ∧ ∀ j, w.frozen? ⟨ba, j, none⟩ = false

/-- What a call owns, read as rows. -/
theorem OwnMat.rows {E : TypeId} {B : Nat} {w : World} {v : Value} {vs : List Value} {xs : List (List Int)} (h : OwnMat E B w v vs xs) (hx : xs.length ≤ 5864062014805)
    (hl : ∀ i, i < xs.length → (xs.getD i []).length ≤ 17592186044415 ∧ ∀ n ∈ xs.getD i [], -9223372036854775808 ≤ n ∧ n ≤ 9223372036854775807) :
    ∃ ao cap, v = .slice ao xs.length cap ∧ RowsAt w ao xs ∧ Fresh B w ao xs := by
  have hvl := h.vlen
  have hin : ∀ i, i < xs.length → ∃ a c, vs.getD i noS = .slice a (xs.getD i []).length c ∧ (xs.getD i []).length ≤ c ∧ (a = none → c = 0) ∧ IntsAt w a (xs.getD i []) ∧ ∀ ba oa, a = some ⟨ba, oa, none⟩ → B ≤ ba ∧ ∀ j, w.frozen? ⟨ba, j, none⟩ = false := fun i hi => by
    have hr := h.inner i hi
    obtain ⟨l1, l2⟩ := hl i hi
    rcases hr.2 with ⟨e, e0⟩ | ⟨g, c, cur, e, hb, hg, hn, hm, hs, ht⟩
    · refine ⟨none, 0, by rw [e, e0], by omega, fun _ => rfl, ⟨l1, l2, fun q => (by omega)⟩, fun ba oa q => (by cases q)⟩
    · refine ⟨some ⟨g, 0, none⟩, c, e, hn, fun q => (by cases q), ⟨l1, l2, fun q => ⟨g, 0, rfl, fun j hj => ?_⟩⟩, fun ba oa q => ?_⟩
      · have := hr.cells (g := g) (by rw [e]; rfl) j (.int .i64 ((xs.getD i []).getD j 0)) (by
          rw [intsC, List.getElem?_map, List.getElem?_eq_getElem hj, List.getD_eq_getElem?_getD (l := xs.getD i []), List.getElem?_eq_getElem hj]
          rfl)
        rw [Addr.add_mid] at this
        exact this
      · cases q
        exact ⟨hb, fun j => by simp [World.frozen?, hg]⟩
  rcases h.outer.2 with ⟨e, e0⟩ | ⟨g, c, cur, e, hb, hg, hn, hm, hs, ht⟩
  · exact ⟨none, 0, by rw [e, e0], ⟨hx, fun q => by omega⟩, ⟨fun b off q => (by cases q), fun b off q => (by cases q)⟩⟩
  · have hcell : ∀ i, i < xs.length → w.cell? ⟨g, 0 + i, none⟩ = some (vs.getD i noS) := fun i hi => by
      have := h.outer.cells (g := g) (by rw [e]; rfl) i (vs.getD i noS) (by
        rw [List.getD_eq_getElem?_getD, List.getElem?_eq_getElem (by omega)]
        rfl)
      rw [Addr.add_mid] at this
      exact this
    refine ⟨some ⟨g, 0, none⟩, c, e, ⟨hx, fun q => ⟨g, 0, rfl, fun i hi => ?_⟩⟩, ⟨fun b off q _ => (by cases q; exact hb), fun b off q i hi a n c' hc ba oa ha => ?_⟩⟩
    · obtain ⟨a, c', e1, e2, e3, e4, _⟩ := hin i hi
      exact ⟨a, c', by rw [hcell i hi, e1], e2, e3, e4⟩
    · cases q
      obtain ⟨a', c'', e1, _, _, _, e5⟩ := hin i hi
      rw [hcell i hi, e1] at hc
      cases hc
      exact e5 ba oa ha

end Go.Proofs.Ytolmijpecomkcaa
