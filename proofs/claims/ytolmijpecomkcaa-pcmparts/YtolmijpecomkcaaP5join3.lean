/- Own text: the walk of the document's Join, what its second half keeps. -/
import Derived.Test.YtolmijpecomkcaaP5join2
namespace Go.Proofs.Ytolmijpecomkcaa
open Go.RowKit
set_option linter.unusedSimpArgs false
set_option linter.unusedVariables false

/-- The whole of a PCM, cut out. -/
theorem cut_all (p : Pcm) (hc : checkN p = 0) : cutP p 0 (lenP p) = p := by
  obtain ⟨hh, hlp, hpl⟩ := check_zero p hc
  have e : p.pl.map (cutL 0 (lenP p)) = p.pl := by
    refine list_ext _ _ [] (by rw [List.length_map]) (fun k hk => ?_)
    rw [List.length_map] at hk
    rw [getD_map_cut _ _ _ _ hk]
    have hl : (p.pl.getD k []).length = lenP p := by
      have := hpl k hk
      unfold planeB at this
      exact of_decide_eq_true (Bool.and_eq_true_iff.1 this).1
    unfold cutL
    rw [List.drop_zero]
    exact List.take_of_length_le (by omega)
  unfold cutP
  rw [e]

/-- On the way through Join's second half: the answer's box, the PCM that grows (its box at q, its planes' row at g). -/
structure Jo (w0 : World) (p0 : Pcm) (q g n cap : Nat) (vs : List Value) (xs : List (List Int)) (w : World) : Prop where
  res : w.heap[w0.heap.size]? = some (.cells zeroP 24 (0, 0))
  box : w.heap[q]? = some (.cells #[.int .i64 p0.rate, .int .i64 p0.ch, .int .i64 p0.wd, .slice (some ⟨g, 0, none⟩) n cap] 24 (0, 0))
  mat : OwnMat 45 (w0.heap.size + 1) w (.slice (some ⟨g, 0, none⟩) n cap) vs xs
  len : xs.length = n
  far : ∀ k, k < xs.length → (vs.getD k noS).ownBlock ≠ some q
  gq : g ≠ q
  q1 : w0.heap.size < q
  below : Below w0.heap.size w0 w
section
variable {w0 w w1 : World} {p0 : Pcm} {q g n cap : Nat} {vs : List Value} {xs : List (List Int)}
theorem Jo.g1 (h : Jo w0 p0 q g n cap vs xs w) : w0.heap.size < g ∧ g < w.heap.size := by
  have := h.mat.outer.lt g rfl
  omega
theorem Jo.next (h : Jo w0 p0 q g n cap vs xs w) (hB : Below w.heap.size w w1) : Jo w0 p0 q g n cap vs xs w1 :=
  ⟨by rw [hB.block _ (lt_of_block h.res)]; exact h.res, by rw [hB.block _ (lt_of_block h.box)]; exact h.box, h.mat.next hB, h.len, h.far, h.gq, h.q1, h.below.trans (hB.mono h.below.size)⟩
theorem Jo.drew (h : Jo w0 p0 q g n cap vs xs w) : Jo w0 p0 q g n cap vs xs w.drew := h.next ⟨rfl, rfl, rfl, Nat.le_refl _, fun _ _ => rfl⟩
theorem Jo.qc (h : Jo w0 p0 q g n cap vs xs w) (j : Nat) (v : Value) (hv : (#[.int .i64 p0.rate, .int .i64 p0.ch, .int .i64 p0.wd, .slice (some ⟨g, 0, none⟩) n cap] : Array Value)[j]? = some v) : w.cell? ⟨q, j, none⟩ = some v := by rw [cell_of_row _ _ _ _ _ _ h.box]; exact hv
theorem Jo.row (h : Jo w0 p0 q g n cap vs xs w) (k : Nat) (hk : k < n) : w.cell? ⟨g, k, none⟩ = some (vs.getD k noS) ∧ w.frozen? ⟨g, k, none⟩ = false := by
  have hl := h.len
  have ho := h.mat.outer
  rw [hl] at ho
  have hv := h.mat.vlen
  constructor
  · rw [ho.cellAt k (by omega), List.getD_eq_getElem?_getD, List.getElem?_eq_getElem (by omega)]
    rfl
  · exact ho.frozenAt k
theorem Jo.kept (h : Jo w0 p0 q g n cap vs xs w) (k : Nat) (hk : k < n) (hg : w.grownBy w1 (vs.getD k noS).ownBlock) :
    w1.heap[w0.heap.size]? = w.heap[w0.heap.size]? ∧ w1.heap[q]? = w.heap[q]? ∧ w1.heap[g]? = w.heap[g]? := by
  have hl := h.len
  have n0 : some w0.heap.size ≠ (vs.getD k noS).ownBlock := fun e => by
    have := ((h.mat.inner k (by omega)).lt _ e.symm).1
    omega
  have nq : some q ≠ (vs.getD k noS).ownBlock := fun e => h.far k (by omega) e.symm
  have ng : some g ≠ (vs.getD k noS).ownBlock := fun e => by
    rcases h.mat.aside k (by omega) with e2 | e2
    · rw [e2] at e
      cases e
    · exact e2 (by rw [← e]; rfl)
  exact ⟨hg.block _ (lt_of_block h.res) n0, hg.block _ (lt_of_block h.box) nq, hg.block _ h.g1.2 ng⟩
theorem Jo.kept2 (h : Jo w0 p0 q g n cap vs xs w) (k : Nat) (hk : k < n) (hg : w.grownBy w1 (vs.getD k noS).ownBlock) :
    w1.cell? ⟨q, 3, none⟩ = some (.slice (some ⟨g, 0, none⟩) n cap) ∧ w1.cell? ⟨g, k, none⟩ = some (vs.getD k noS) ∧ w1.frozen? ⟨g, k, none⟩ = false := by
  obtain ⟨c1, c2⟩ := h.row k hk
  obtain ⟨_, bq, bg⟩ := h.kept k hk hg
  refine ⟨?_, ?_, ?_⟩
  · have := h.box
    rw [← bq] at this
    rw [cell_of_row _ _ _ _ _ _ this]
    rfl
  · have e : w1.cell? ⟨g, k, none⟩ = w.cell? ⟨g, k, none⟩ := by simp [World.cell?, bg]
    exact e.trans c1
  · have e : w1.frozen? ⟨g, k, none⟩ = w.frozen? ⟨g, k, none⟩ := by simp [World.frozen?, bg]
    exact e.trans c2
/-- One plane grows. -/
theorem Jo.push {u' : Value} {l : List Int} {m : Nat} (h : Jo w0 p0 q g n cap vs xs w) (k : Nat) (hk : k < n) (hg : w.grownBy w1 (vs.getD k noS).ownBlock) (hm : l.length = m)
    (hu : w1.ownsRow (w0.heap.size + 1) 3 1 u' ((xs.getD k []).length + m) (intsC (xs.getD k []) ++ intsC l)) (hb : u'.ownBlock = (vs.getD k noS).ownBlock ∨ u'.ownBlock = some w.heap.size) :
    Jo w0 p0 q g n cap (vs.set k u') (xs.set k (xs.getD k [] ++ l)) (w1.setCell ⟨g, k, none⟩ u') := by
  have hl := h.len
  obtain ⟨b0, bq, bg⟩ := h.kept k hk hg
  have hq := lt_of_block h.box
  have h1 := h.g1
  have h2 := h.q1
  have h3 := h.gq
  have hu2 : w1.ownsRow (w0.heap.size + 1) 3 1 u' (xs.getD k [] ++ l).length (intsC (xs.getD k [] ++ l)) := by
    rw [List.length_append, intsC_append, hm]
    exact hu
  have hmat := h.mat.set k (by omega) hg hu2 hb g cap (by rw [hl])
  refine ⟨?_, ?_, hmat, by rw [List.length_set]; exact hl, fun j hj => ?_, h3, h2, ?_⟩
  · rw [Below.heap_setCell _ _ _ _ (by show w0.heap.size ≠ g; omega), b0]
    exact h.res
  · rw [Below.heap_setCell _ _ _ _ (by show q ≠ g; omega), bq]
    exact h.box
  · rw [List.length_set] at hj
    have hv := h.mat.vlen
    by_cases e : k = j
    · subst e
      rw [getD_set_eq _ _ _ _ (by omega)]
      rcases hb with e2 | e2
      · rw [e2]
        exact h.far k hj
      · rw [e2]
        intro e3
        have := Option.some.inj e3
        omega
    · rw [getD_set_ne _ _ _ _ _ e]
      exact h.far j hj
  · refine Below.setCell ?_ (by show w0.heap.size ≤ g; omega) _
    exact grown_to hg h.below h.below.size (fun j e => by have := ((h.mat.inner k (by omega)).lt j e).1; omega)
end

end Go.Proofs.Ytolmijpecomkcaa
