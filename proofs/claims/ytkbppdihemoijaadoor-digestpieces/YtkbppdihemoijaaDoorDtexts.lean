/- Own text: a list of texts as an argument, each within the form's reach. -/
import Derived.Test.YtkbppdihemoijaaDoorDlaws
import Derived.SizedLaws
import Derived.SliceStrings
import Derived.ProofKit
namespace Go.Proofs.YtkbppdihemoijaaDoor
open Go.ChangeShapes Go.WideShapes Go.ChangeAt Go.RowKit
set_option linter.unusedSimpArgs false
set_option linter.unusedVariables false

theorem dcells9 : Tryd.prog.cellsOf 9 = 1 := by kernel_rfl

theorem weights_strs {H : Type} (P : Program) (e : TypeId) (l : List ByteArray) : ∀ s ∈ l, s.size ∈ DataW.weightsAll P e (strs (H := H) l) := by
  induction l with
  | nil => intro s h; cases h
  | cons x r ih =>
    intro s h
    have e1 : DataW.weightsAll P e (strs (H := H) (x :: r)) = [x.data.toList.length] ++ DataW.weightsAll P e (strs (H := H) r) := rfl
    rw [e1]
    rcases List.mem_cons.1 h with h | h
    · subst h
      refine List.mem_append.2 (.inl ?_)
      have : s.data.toList.length = s.size := by rw [Array.length_toList]; rfl
      rw [this]
      exact List.mem_cons_self
    · exact List.mem_append.2 (.inr (ih s h))

theorem sized_texts {H : Type} {P : Program} {ts : List TypeId} {ds : List (DataW H)} (h : (DataW.weightsEach P ts ds).all (· ≤ reachBytes) = true) {j : Nat} {t e : TypeId} {a b : List ByteArray} (ht : ts[j]? = some t) (hd : ds[j]? = some (.slice (strs a) (strs b))) (hu : P.underlying t = some (.slice e)) :
    ∀ s ∈ a, s.size ≤ 140737488351232 := by
  intro s hs
  have hm : s.size ∈ (DataW.slice (H := H) (strs a) (strs b)).weights P t := by
    simp only [DataW.weights, hu]
    exact List.mem_cons.2 (.inr (List.mem_append.2 (.inl (weights_strs P e a s hs))))
  have := List.all_eq_true.1 h _ (DataW.weights_mem_each ht hd _ hm)
  have h2 := of_decide_eq_true this
  simp only [reachBytes] at h2
  omega

/-- A list of texts, opened: where it lies, its texts, each within the reach. -/
theorem open_texts {H : Type} {enc : TypeId × Value → H} {w : World} {held : Bool} {ao : Option Addr} {len cap : Nat} {d : DataW H} {p : List MemPlace}
    (h : DataW.Trod enc Tryd.prog w 0 (fun _ => true) held 25 (.slice ao len cap) d p) (hd : ∀ a b : List ByteArray, d = .slice (strs a) (strs b) → ∀ s ∈ a, s.size ≤ 140737488351232) :
    len ≤ 9223372036854775807 ∧ ∃ (b off : Nat) (f : Nat → ByteArray), (0 < len → ao = some ⟨b, off, none⟩) ∧ (∀ i, i < len → w.cell? ⟨b, off + i, none⟩ = some (.string (f i))) ∧ (∀ i, i < len → (f i).size ≤ 140737488351232) ∧ (∀ i, len ≤ i → f i = ⟨#[]⟩) := by
  obtain ⟨fuel, hf⟩ := h
  rcases open_strings Tryd.underlying25 Tryd.underlying9 dcells9 hf with ⟨hcs, _⟩ | ⟨a, len', cap', ss, hcs, _, hl, hm, hz, hx, hcell, _⟩
  · simp [Value.cells] at hcs
    obtain ⟨rfl, rfl, rfl⟩ := hcs
    exact ⟨by omega, 0, 0, fun _ => ⟨#[]⟩, fun h => by omega, fun i hi => by omega, fun i hi => by omega, fun _ _ => rfl⟩
  · simp [Value.cells] at hcs
    obtain ⟨rfl, rfl, rfl⟩ := hcs
    simp only [if_true] at hz
    have hd2 : d = .slice (strs (ss.take len)) (strs (ss.drop len)) := congrArg Prod.fst hx
    have hsz := hd _ _ hd2
    refine ⟨by simp [maxLen] at hm; omega, a.block, a.off, fun i => (ss.take len).getD i ⟨#[]⟩, ?_, ?_, ?_, ?_⟩
    · intro h0
      have h1 := hcell 0 (by omega)
      obtain ⟨b, off, spot⟩ := a
      cases spot with
      | none => rfl
      | some x =>
        exfalso
        unfold Addr.add World.cell? at h1
        split at h1 <;> simp at h1
    · intro i hi
      have h1 := hcell i (by omega)
      have h2 := hcell 0 (by omega)
      have e : (ss.take len).getD i ⟨#[]⟩ = ss.getD i ByteArray.empty := by
        rw [List.getD_eq_getElem?_getD, List.getD_eq_getElem?_getD, List.getElem?_take, if_pos hi, List.getElem?_eq_getElem (by omega)]
        rfl
      show w.cell? _ = some (.string ((ss.take len).getD i ⟨#[]⟩))
      rw [e]
      obtain ⟨b, off, spot⟩ := a
      cases spot with
      | none =>
        rw [Addr.add_lit] at h1
        exact h1
      | some x =>
        exfalso
        unfold Addr.add World.cell? at h2
        split at h2 <;> simp at h2
    · intro i hi
      have hlt : i < (ss.take len).length := by rw [List.length_take]; omega
      show ((ss.take len).getD i ⟨#[]⟩).size ≤ _
      rw [List.getD_eq_getElem?_getD, List.getElem?_eq_getElem hlt]
      exact hsz _ (List.getElem_mem hlt)
    · intro i hi
      show (ss.take len).getD i ⟨#[]⟩ = _
      rw [List.getD_eq_getElem?_getD, List.getElem?_eq_none (by rw [List.length_take]; omega)]
      rfl

end Go.Proofs.YtkbppdihemoijaaDoor
