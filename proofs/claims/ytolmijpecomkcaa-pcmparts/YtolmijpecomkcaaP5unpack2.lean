/- Own text: the walk of the document's Unpack, what it keeps. -/
import Derived.Test.YtolmijpecomkcaaP5unpack
namespace Go.Proofs.Ytolmijpecomkcaa
open Go.RowKit
set_option linter.unusedSimpArgs false
set_option linter.unusedVariables false

/-- On the way through Unpack's loop. -/
structure Up (w0 : World) (big uns : Bool) (rate ch wd : Int) (C : Nat) (vs : List Value) (xs : List (List Int)) (w : World) : Prop where
  lay : w.heap[w0.heap.size]? = some (.cells #[.bool big, .bool uns] 34 (0, 0))
  res : w.heap[w0.heap.size + 1]? = some (.cells zeroP 24 (0, 0))
  q : w.heap[w0.heap.size + 3]? = some (.cells #[.int .i64 rate, .int .i64 ch, .int .i64 wd, .slice (some ⟨w0.heap.size + 2, 0, none⟩) C C] 24 (0, 0))
  mat : OwnMat 45 (w0.heap.size + 2) w (.slice (some ⟨w0.heap.size + 2, 0, none⟩) C C) vs xs
  len : xs.length = C
  far : ∀ k, k < xs.length → (vs.getD k noS).ownBlock ≠ some (w0.heap.size + 3)
  size : w0.heap.size + 4 ≤ w.heap.size
  below : Below w0.heap.size w0 w
section
variable {w0 w w' : World} {big uns : Bool} {rate ch wd : Int} {C : Nat} {vs : List Value} {xs : List (List Int)}
theorem Up.next (h : Up w0 big uns rate ch wd C vs xs w) (hB : Below w.heap.size w w') : Up w0 big uns rate ch wd C vs xs w' :=
  ⟨by rw [hB.block _ (lt_of_block h.lay)]; exact h.lay, by rw [hB.block _ (lt_of_block h.res)]; exact h.res, by rw [hB.block _ (lt_of_block h.q)]; exact h.q, h.mat.next hB, h.len, h.far, Nat.le_trans h.size hB.size, h.below.trans (hB.mono h.below.size)⟩
theorem Up.drew (h : Up w0 big uns rate ch wd C vs xs w) : Up w0 big uns rate ch wd C vs xs w.drew := h.next ⟨rfl, rfl, rfl, Nat.le_refl _, fun _ _ => rfl⟩
theorem Up.un (h : Up w0 big uns rate ch wd C vs xs w) : Un w0 big uns w := ⟨h.lay, h.res, h.below⟩
theorem Up.l0 (h : Up w0 big uns rate ch wd C vs xs w) : w.cell? ⟨w0.heap.size, 0, none⟩ = some (.bool big) := by rw [cell_of_row _ _ _ _ _ _ h.lay]; rfl
theorem Up.l1 (h : Up w0 big uns rate ch wd C vs xs w) : w.cell? ⟨w0.heap.size, 1, none⟩ = some (.bool uns) := by rw [cell_of_row _ _ _ _ _ _ h.lay]; rfl
theorem Up.q3 (h : Up w0 big uns rate ch wd C vs xs w) : w.cell? ⟨w0.heap.size + 3, 3, none⟩ = some (.slice (some ⟨w0.heap.size + 2, 0, none⟩) C C) := by rw [cell_of_row _ _ _ _ _ _ h.q]; rfl
theorem Up.row (h : Up w0 big uns rate ch wd C vs xs w) (k : Nat) (hk : k < C) : w.cell? ⟨w0.heap.size + 2, k, none⟩ = some (vs.getD k noS) ∧ w.frozen? ⟨w0.heap.size + 2, k, none⟩ = false := by
  have hl := h.len
  have ho := h.mat.outer
  rw [hl] at ho
  have hv := h.mat.vlen
  constructor
  · rw [ho.cellAt k (by omega), List.getD_eq_getElem?_getD, List.getElem?_eq_getElem (by omega)]
    rfl
  · exact ho.frozenAt k
/-- One number more. -/
theorem Up.push {w1 : World} {u' : Value} {x : Int} (h : Up w0 big uns rate ch wd C vs xs w) (k : Nat) (hk : k < C) (hg : w.grownBy w1 (vs.getD k noS).ownBlock)
    (hu : w1.ownsRow (w0.heap.size + 2) 3 1 u' ((xs.getD k []).length + 1) (intsC (xs.getD k []) ++ [.int .i64 x])) (hb : u'.ownBlock = (vs.getD k noS).ownBlock ∨ u'.ownBlock = some w.heap.size) :
    Up w0 big uns rate ch wd C (vs.set k u') (xs.set k (xs.getD k [] ++ [x])) (w1.setCell ⟨w0.heap.size + 2, k, none⟩ u') := by
  have hl := h.len
  have hsz := h.size
  have hne : ∀ j, j < w0.heap.size + 4 → some j ≠ (vs.getD k noS).ownBlock ∨ j = w0.heap.size + 2 := fun j hj => by
    by_cases e : j = w0.heap.size + 2
    · exact .inr e
    · refine .inl (fun q => ?_)
      by_cases e3 : j = w0.heap.size + 3
      · exact h.far k (by omega) (by rw [← q, e3])
      · have := ((h.mat.inner k (by omega)).lt j q.symm).1
        omega
  have hkeep : ∀ j, j < w0.heap.size + 4 → j ≠ w0.heap.size + 2 → w1.heap[j]? = w.heap[j]? := fun j hj hj2 => hg.block j (by omega) (by
    rcases hne j hj with q | q
    · exact q
    · exact absurd q hj2)
  have hu2 : w1.ownsRow (w0.heap.size + 2) 3 1 u' (xs.getD k [] ++ [x]).length (intsC (xs.getD k [] ++ [x])) := by
    rw [List.length_append, intsC_append]
    exact hu
  have hm := h.mat.set k (by omega) hg hu2 hb (w0.heap.size + 2) C (by rw [hl])
  refine ⟨?_, ?_, ?_, hm, by rw [List.length_set]; exact hl, fun j hj => ?_, by simpa [World.setCell] using Nat.le_trans hsz hg.size, ?_⟩
  · rw [Below.heap_setCell _ _ _ _ (by simp), hkeep _ (by omega) (by omega)]
    exact h.lay
  · rw [Below.heap_setCell _ _ _ _ (by simp), hkeep _ (by omega) (by omega)]
    exact h.res
  · rw [Below.heap_setCell _ _ _ _ (by simp), hkeep _ (by omega) (by omega)]
    exact h.q
  · rw [List.length_set] at hj
    have hv := h.mat.vlen
    by_cases e : k = j
    · subst e
      rw [getD_set_eq _ _ _ _ (by omega)]
      rcases hb with q | q
      · rw [q]
        exact h.far k hj
      · rw [q]
        intro q2
        have := Option.some.inj q2
        omega
    · rw [getD_set_ne _ _ _ _ _ e]
      exact h.far j hj
  · refine Below.setCell ?_ (by simp) _
    exact grown_to hg h.below (by omega) (fun j q => by have := ((h.mat.inner k (by omega)).lt j q).1; omega)
end

theorem bytesOf_ext (s : ByteArray) (a b : Nat) (h1 : a ≤ b) (h2 : b ≤ s.size) : (s.extract a b).size = b - a := by
  rw [ByteArray.size_extract]
  omega
theorem mOf_lt (s : ByteArray) (nb : Nat) (big : Bool) (i : Nat) (h : i * nb + nb ≤ s.size) : mOf s nb big i < 256 ^ nb := by
  have hl : (bytesOf (s.extract (i * nb) (i * nb + nb))).length = nb := by
    rw [bytesOf_length, bytesOf_ext _ _ _ (by omega) h]
    omega
  unfold mOf
  split
  · have := val_lt _ (bytesOf_lt (s.extract (i * nb) (i * nb + nb)))
    rwa [hl] at this
  · have := val_lt (bytesOf (s.extract (i * nb) (i * nb + nb))).reverse (fun b hb => bytesOf_lt _ b (List.mem_reverse.1 hb))
    rwa [List.length_reverse, hl] at this

end Go.Proofs.Ytolmijpecomkcaa
