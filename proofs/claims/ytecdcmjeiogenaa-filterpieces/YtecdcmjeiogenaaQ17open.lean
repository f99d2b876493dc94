/- Own text: arguments of stage 17's laws, opened. -/
import Derived.Test.YtecdcmjeiogenaaQ17l6
import Derived.ProofKit
import Derived.OpenShut
import Derived.Deep.Slices
import Derived.Lib.SmallJoins
import Derived.ChangeSlices
import Derived.Deep.Grids
namespace Go.Proofs.Ytecdcmjeiogenaa
open Go.ChangeShapes Go.WideShapes Go.ChangeAt Go.RowKit Go.Deep
set_option linter.unusedSimpArgs false
set_option linter.unusedVariables false

theorem acells3 : Try.prog.cellsOf 3 = 1 := by kernel_rfl
theorem acellsI : Try.prog.cellsOf 22 = 1 := by kernel_rfl
theorem abytes3 : Try.prog.bytesOf 3 = 8 := by kernel_rfl
section
variable {H : Type} {enc : TypeId × Value → H} {w : World} {base base2 : Nat} {held : Bool}
theorem at_spot {a : Addr} {v : Value} (h : w.cell? (a.add 0) = some v) : ∃ b off, a = ⟨b, off, none⟩ := by
  obtain ⟨b, off, spot⟩ := a
  cases spot with
  | none => exact ⟨b, off, rfl⟩
  | some x =>
    exfalso
    unfold Addr.add World.cell? at h
    split at h <;> simp at h
/-- A list of numbers, opened. -/
theorem open_row {fuel : Nat} {cs : List Value} {x : DataW H × List MemPlace} (h : DataW.trod enc Try.prog w base (fun _ => true) held fuel 22 cs = some x) (hw : ∀ n ∈ x.1.weights Try.prog 22, n ≤ reachBytes) :
    ∃ (ao : Option Addr) (cap : Nat) (l : List Int), cs = [.slice ao l.length cap] ∧ IntsAt w ao l ∧ l.length ≤ cap ∧ (ao = none → cap = 0) ∧ l.length ≤ 17592186043904 := by
  rcases open_ints Try.underlying22 Try.underlying3 acells3 h with ⟨rfl, rfl⟩ | ⟨a, len, cap, zs, rfl, _, hl, hm, hz, hx, hc, hwf⟩
  · exact ⟨none, 0, [], rfl, ⟨by simp, fun n hn => absurd hn (by simp), fun h => absurd h (by simp)⟩, Nat.le_refl _, fun _ => rfl, by simp⟩
  · simp only [if_true] at hz
    rw [hx] at hw
    simp only [DataW.weights, Try.underlying22] at hw
    have hcap : cap * 8 ≤ reachBytes := by
      have := hw _ (List.mem_cons_self)
      rw [abytes3] at this
      simp only [lits, List.length_map, List.length_take, List.length_drop] at this
      have e : min len zs.length + (zs.length - len) = cap := by omega
      rwa [e] at this
    simp only [reachBytes] at hcap
    have hL : (zs.take len).length = len := by rw [List.length_take]; omega
    refine ⟨some a, cap, zs.take len, by rw [hL], ⟨by rw [hL]; omega, fun n hn => bounds_i64 (hwf n (List.mem_of_mem_take hn)), fun h0 => ?_⟩, by rw [hL]; exact hl, fun e => (by cases e), by rw [hL]; omega⟩
    rw [hL] at h0
    obtain ⟨b, off, rfl⟩ := at_spot (hc 0 (by omega))
    refine ⟨b, off, rfl, fun j hj => ?_⟩
    rw [hL] at hj
    have h9 := hc j (by omega)
    rw [Addr.add_mid] at h9
    rw [h9]
    congr 2
    rw [List.getD_eq_getElem?_getD, List.getD_eq_getElem?_getD, List.getElem?_take, if_pos hj]
set_option maxRecDepth 20000 in
theorem open_list {r : Reach} {v : Value} {d : DataW H} {q : List MemPlace} (hv : Value.okWide Try.prog w r base2 22 v) (h : DataW.Trod enc Try.prog w base (fun _ => true) held 22 v d q) (hw : ∀ n ∈ d.weights Try.prog 22, n ≤ reachBytes) :
    ∃ (ao : Option Addr) (cap : Nat) (l : List Int), v = .slice ao l.length cap ∧ IntsAt w ao l ∧ l.length ≤ cap ∧ (ao = none → cap = 0) ∧ l.length ≤ 17592186043904 := by
  obtain ⟨ao, len, cap, rfl⟩ := okWide_slice Try.underlying22 hv
  obtain ⟨fuel, hf⟩ := h
  obtain ⟨ao', cap', l, hc, h1, h2, h3, h4⟩ := open_row hf hw
  have e : (Value.slice ao len cap) = .slice ao' l.length cap' := by
    have : ([Value.slice ao len cap] : List Value) = [.slice ao' l.length cap'] := hc
    injection this
  exact ⟨ao', cap', l, e, h1, h2, h3, h4⟩
theorem acellsB : Try.prog.cellsOf 4 = 1 := by kernel_rfl
set_option maxRecDepth 20000 in
theorem open_truths {r : Reach} {v : Value} {d : DataW H} {q : List MemPlace} (hv : Value.okWide Try.prog w r base2 33 v) (h : DataW.Trod enc Try.prog w base (fun _ => true) held 33 v d q) :
    ∃ (ao : Option Addr) (cap : Nat) (l : List Bool), v = .slice ao l.length cap ∧ BoolsAt w ao l := by
  obtain ⟨ao, len, cap, rfl⟩ := okWide_slice Try.underlying33 hv
  obtain ⟨fuel, hf⟩ := h
  rcases open_bools Try.underlying33 Try.underlying4 acellsB hf with ⟨hc, _⟩ | ⟨a, len2, cap2, B, hc, _, hl, _, _, hcell⟩
  · have e : (Value.slice ao len cap) = .slice none 0 0 := by
      have : ([Value.slice ao len cap] : List Value) = [.slice none 0 0] := hc
      injection this
    exact ⟨none, 0, [], e, ⟨fun h => absurd h (by simp)⟩⟩
  · have e : (Value.slice ao len cap) = .slice (some a) len2 cap2 := by
      have : ([Value.slice ao len cap] : List Value) = [.slice (some a) len2 cap2] := hc
      injection this
    have hL : ((List.range len2).map B).length = len2 := by simp
    refine ⟨some a, cap2, (List.range len2).map B, by rw [hL]; exact e, ⟨fun h0 => ?_⟩⟩
    rw [hL] at h0
    obtain ⟨b, off, rfl⟩ := at_spot (hcell 0 (by omega))
    refine ⟨b, off, rfl, fun j hj => ?_⟩
    rw [hL] at hj
    have h9 := hcell j (by omega)
    rw [Addr.add_mid] at h9
    rw [h9, List.getD_eq_getElem?_getD, List.getElem?_map, List.getElem?_range hj]
    rfl
end

end Go.Proofs.Ytecdcmjeiogenaa
