/- Own text: the walk of the document's Unpack, its loop. -/
import Derived.Test.YtaepgjheknkojaaG48x
namespace Go.Proofs.Ytaepgjheknkojaa
open Go.RowKit
set_option linter.unusedSimpArgs false
set_option linter.unusedVariables false

section
variable {w0 w w1 : World} {big uns : Bool} {rate ch wd : Int} {C : Nat} {vs : List Value} {xs : List (List Int)}
theorem Up.qc (h : Up w0 big uns rate ch wd C vs xs w) (j : Nat) (v : Value) (hv : (#[.int .i64 rate, .int .i64 ch, .int .i64 wd, .slice (some ⟨w0.heap.size + 2, 0, none⟩) C C] : Array Value)[j]? = some v) : w.cell? ⟨w0.heap.size + 1 + 1 + 1, j, none⟩ = some v := by rw [cell_of_row _ _ _ _ _ _ h.q]; exact hv
theorem Up.r0 (h : Up w0 big uns rate ch wd C vs xs w) : w.cell? ⟨w0.heap.size + 1, 0, none⟩ = some (.int .i64 0) := by rw [cell_of_row _ _ _ _ _ _ h.res]; rfl
theorem Up.r1 (h : Up w0 big uns rate ch wd C vs xs w) : w.cell? ⟨w0.heap.size + 1, 1, none⟩ = some (.int .i64 0) := by rw [cell_of_row _ _ _ _ _ _ h.res]; rfl
theorem Up.r2 (h : Up w0 big uns rate ch wd C vs xs w) : w.cell? ⟨w0.heap.size + 1, 2, none⟩ = some (.int .i64 0) := by rw [cell_of_row _ _ _ _ _ _ h.res]; rfl
theorem Up.r3 (h : Up w0 big uns rate ch wd C vs xs w) : w.cell? ⟨w0.heap.size + 1, 3, none⟩ = some (.slice none 0 0) := by rw [cell_of_row _ _ _ _ _ _ h.res]; rfl
theorem Up.z (h : Up w0 big uns rate ch wd C vs xs w) (j : Nat) : w.frozen? ⟨w0.heap.size + 1, j, none⟩ = false := by
  have hrs := h.res
  simp [World.frozen?, hrs]
theorem Up.kept (h : Up w0 big uns rate ch wd C vs xs w) (k : Nat) (hk : k < C) (hg : w.grownBy w1 (vs.getD k noS).ownBlock) :
    w1.cell? ⟨w0.heap.size + 1 + 1 + 1, 3, none⟩ = some (.slice (some ⟨w0.heap.size + 1 + 1, 0, none⟩) C C) ∧ w1.cell? ⟨w0.heap.size + 1 + 1, k, none⟩ = some (vs.getD k noS) ∧ w1.frozen? ⟨w0.heap.size + 1 + 1, k, none⟩ = false := by
  have hl := h.len
  have hsz := h.size
  obtain ⟨c1, c2⟩ := h.row k hk
  have n3 : some (w0.heap.size + 3) ≠ (vs.getD k noS).ownBlock := fun q => h.far k (by omega) q.symm
  have n2 : some (w0.heap.size + 2) ≠ (vs.getD k noS).ownBlock := fun q => by
    rcases h.mat.aside k (by omega) with q2 | q2
    · rw [q2] at q
      cases q
    · exact q2 (by rw [← q]; rfl)
  have b3 : w1.heap[w0.heap.size + 3]? = w.heap[w0.heap.size + 3]? := hg.block _ (by omega) n3
  have b2 : w1.heap[w0.heap.size + 2]? = w.heap[w0.heap.size + 2]? := hg.block _ (by omega) n2
  refine ⟨?_, ?_, ?_⟩
  · have := h.q
    rw [← b3] at this
    rw [cell_of_row _ _ _ _ _ _ this]
    rfl
  · have e : w1.cell? ⟨w0.heap.size + 2, k, none⟩ = w.cell? ⟨w0.heap.size + 2, k, none⟩ := by simp [World.cell?, b2]
    exact e.trans c1
  · have e : w1.frozen? ⟨w0.heap.size + 2, k, none⟩ = w.frozen? ⟨w0.heap.size + 2, k, none⟩ := by simp [World.frozen?, b2]
    exact e.trans c2
end
theorem upL_len (s : ByteArray) (wd : Int) (big uns : Bool) (ch : Nat) : ∀ i k, ((upL s wd big uns ch i).getD k []).length ≤ i
  | 0, k => by
    have e : (upL s wd big uns ch 0).getD k [] = [] := by
      simp only [upL, List.getD_eq_getElem?_getD, List.getElem?_replicate]
      split <;> rfl
    rw [e]
    exact Nat.le_refl _
  | i + 1, k => by
    have hl := upL_length s wd big uns ch i
    have ih := upL_len s wd big uns ch i
    rw [upL]
    by_cases e : i % ch = k
    · by_cases hk : k < ch
      · subst e
        rw [getD_set_eq _ _ _ _ (by omega), List.length_append, List.length_singleton]
        have := ih (i % ch)
        omega
      · rw [List.getD_eq_getElem?_getD, List.getElem?_eq_none (by rw [List.length_set]; omega)]
        exact Nat.zero_le _
    · rw [getD_set_ne _ _ _ _ _ e]
      have := ih k
      omega
theorem upL_good (s : ByteArray) (wd : Int) (big uns : Bool) (ch : Nat) (i : Nat) (hs : ∀ j, j < i → sampB (numI s wd big uns j) wd = true) (h4 : 4 ≤ wd) (h32 : wd ≤ 32) (k : Nat) (hk : k < ch) : ((upL s wd big uns ch i).getD k []).length ≤ i ∧ ∀ n ∈ (upL s wd big uns ch i).getD k [], -9223372036854775808 ≤ n ∧ n ≤ 9223372036854775807 := by
  refine ⟨upL_len s wd big uns ch i k, ?_⟩
  induction i generalizing k with
  | zero =>
    have e : (upL s wd big uns ch 0).getD k [] = [] := by simp [upL, List.getD_eq_getElem?_getD, hk]
    rw [e]
    exact fun n hn => by cases hn
  | succ i ih =>
    have hl := upL_length s wd big uns ch i
    rw [upL]
    by_cases e : i % ch = k
    · subst e
      rw [getD_set_eq _ _ _ _ (by omega)]
      intro n hn
      rcases List.mem_append.1 hn with hn | hn
      · exact ih (fun j hj => hs j (by omega)) (i % ch) hk n hn
      · rw [List.mem_singleton] at hn
        rw [hn]
        have h1 := of_decide_eq_true (hs i (by omega))
        obtain ⟨p1, p2⟩ := pow31 (wd - 1).toNat (by omega)
        omega
    · rw [getD_set_ne _ _ _ _ _ e]
      exact ih (fun j hj => hs j (by omega)) k hk

end Go.Proofs.Ytaepgjheknkojaa
