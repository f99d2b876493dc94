/- Own text: lists that came in as arguments, opened. -/
import Derived.Test.YtpfkaddammfkkaaDoorP9mem
import Derived.ProofKit
import Derived.OpenShut
import Derived.Deep.Slices
import Derived.Lib.SmallJoins
import Derived.ChangeSlices
namespace Go.Proofs.YtpfkaddammfkkaaDoor
open Go.ChangeShapes Go.WideShapes Go.ChangeAt Go.RowKit Go.Deep
set_option linter.unusedSimpArgs false
set_option linter.unusedVariables false

theorem acells3 : Tryd.prog.cellsOf 3 = 1 := by kernel_rfl
theorem acellsI : Tryd.prog.cellsOf 22 = 1 := by kernel_rfl
theorem acellsT : Tryd.prog.cellsOf 47 = 2 := by kernel_rfl
theorem abytes3 : Tryd.prog.bytesOf 3 = 8 := by kernel_rfl
theorem aundT : Tryd.prog.underlying 47 = some (.array 2 3) := by kernel_rfl
section
variable {H : Type} {enc : TypeId × Value → H} {w : World} {base base2 : Nat} {held : Bool}
theorem at_spot {a : Addr} {v : Value} (h : w.cell? (a.add 0) = some v) : ∃ b off, a = ⟨b, off, none⟩ := by
  obtain ⟨b, off, spot⟩ := a
  cases spot with
  | none => exact ⟨b, off, rfl⟩
  | some x =>
    exfalso
    unfold Addr.add World.cell? at h
    split at h <;> simp at h
/-- A list of numbers, opened. -/
theorem open_row {fuel : Nat} {cs : List Value} {x : DataW H × List MemPlace} (h : DataW.trod enc Tryd.prog w base (fun _ => true) held fuel 22 cs = some x) (hw : ∀ n ∈ x.1.weights Tryd.prog 22, n ≤ reachBytes) :
    ∃ (ao : Option Addr) (cap : Nat) (l : List Int), cs = [.slice ao l.length cap] ∧ IntsAt w ao l ∧ l.length ≤ cap ∧ (ao = none → cap = 0) ∧ l.length ≤ 17592186043904 := by
  rcases open_ints Tryd.underlying22 Tryd.underlying3 acells3 h with ⟨rfl, rfl⟩ | ⟨a, len, cap, zs, rfl, _, hl, hm, hz, hx, hc, hwf⟩
  · exact ⟨none, 0, [], rfl, ⟨by simp, fun n hn => absurd hn (by simp), fun h => absurd h (by simp)⟩, Nat.le_refl _, fun _ => rfl, by simp⟩
  · simp only [if_true] at hz
    rw [hx] at hw
    simp only [DataW.weights, Tryd.underlying22] at hw
    have hcap : cap * 8 ≤ reachBytes := by
      have := hw _ (List.mem_cons_self)
      rw [abytes3] at this
      simp only [lits, List.length_map, List.length_take, List.length_drop] at this
      have e : min len zs.length + (zs.length - len) = cap := by omega
      rwa [e] at this
    simp only [reachBytes] at hcap
    have hL : (zs.take len).length = len := by rw [List.length_take]; omega
    refine ⟨some a, cap, zs.take len, by rw [hL], ⟨by rw [hL]; omega, fun n hn => bounds_i64 (hwf n (List.mem_of_mem_take hn)), fun h0 => ?_⟩, by rw [hL]; exact hl, fun e => (by cases e), by rw [hL]; omega⟩
    rw [hL] at h0
    obtain ⟨b, off, rfl⟩ := at_spot (hc 0 (by omega))
    refine ⟨b, off, rfl, fun j hj => ?_⟩
    rw [hL] at hj
    have h9 := hc j (by omega)
    rw [Addr.add_mid] at h9
    rw [h9]
    congr 2
    rw [List.getD_eq_getElem?_getD, List.getD_eq_getElem?_getD, List.getElem?_take, if_pos hj]
set_option maxRecDepth 20000 in
theorem open_list {r : Reach} {v : Value} {d : DataW H} {q : List MemPlace} (hv : Value.okWide Tryd.prog w r base2 22 v) (h : DataW.Trod enc Tryd.prog w base (fun _ => true) held 22 v d q) (hw : ∀ n ∈ d.weights Tryd.prog 22, n ≤ reachBytes) :
    ∃ (ao : Option Addr) (cap : Nat) (l : List Int), v = .slice ao l.length cap ∧ IntsAt w ao l ∧ l.length ≤ cap ∧ (ao = none → cap = 0) ∧ l.length ≤ 17592186043904 := by
  obtain ⟨ao, len, cap, rfl⟩ := okWide_slice Tryd.underlying22 hv
  obtain ⟨fuel, hf⟩ := h
  obtain ⟨ao', cap', l, hc, h1, h2, h3, h4⟩ := open_row hf hw
  have e : (Value.slice ao len cap) = .slice ao' l.length cap' := by
    have : ([Value.slice ao len cap] : List Value) = [.slice ao' l.length cap'] := hc
    injection this
  exact ⟨ao', cap', l, e, h1, h2, h3, h4⟩
set_option maxRecDepth 20000 in
theorem open_two {r : Reach} {v : Value} {d : DataW H} {q : List MemPlace} (hv : Value.okWide Tryd.prog w r base2 47 v) (h : DataW.Trod enc Tryd.prog w base (fun _ => true) held 47 v d q) :
    ∃ a b : Int, v = .agg #[.int .i64 a, .int .i64 b] ∧ (-9223372036854775808 ≤ a ∧ a ≤ 9223372036854775807) ∧ (-9223372036854775808 ≤ b ∧ b ≤ 9223372036854775807) := by
  simp only [Value.okWide, aundT] at hv
  obtain ⟨cs, rfl, hs, _⟩ := hv
  obtain ⟨fuel, hf⟩ := h
  obtain ⟨xs, m, _, _, hl, hxl, hall⟩ := DataW.trod_array aundT hf
  have hl2 : cs.toList.length = 2 := by
    have : cs.toList.length = Tryd.prog.cellsOf 47 := hl
    rw [this]; exact acellsT
  obtain ⟨cl⟩ := cs
  match cl, hl2 with
  | [c0, c1], _ =>
    match xs, hxl with
    | [x0, x1], _ =>
      have h0 := hall 0 (by omega)
      have h1 := hall 1 (by omega)
      simp [acells3, Value.cells] at h0 h1
      obtain ⟨z0, e0, _, q0⟩ := DataW.trod_int Tryd.underlying3 h0
      obtain ⟨z1, e1, _, q1⟩ := DataW.trod_int Tryd.underlying3 h1
      injection e0 with e0 _
      injection e1 with e1 _
      subst e0 e1
      exact ⟨z0, z1, rfl, bounds_i64 q0, bounds_i64 q1⟩
theorem acellsTI : Tryd.prog.cellsOf 33 = 2 := by kernel_rfl
theorem aundTI : Tryd.prog.underlying 33 = some (.array 2 22) := by kernel_rfl
set_option maxRecDepth 20000 in
theorem open_twoI {r : Reach} {v : Value} {d : DataW H} {q : List MemPlace} (hv : Value.okWide Tryd.prog w r base2 33 v) (h : DataW.Trod enc Tryd.prog w base (fun _ => true) held 33 v d q) (hw : ∀ n ∈ d.weights Tryd.prog 33, n ≤ reachBytes) :
    ∃ (xa : Option Addr) (xc : Nat) (x : List Int) (ya : Option Addr) (yc : Nat) (y : List Int), v = .agg #[.slice xa x.length xc, .slice ya y.length yc] ∧ IntsAt w xa x ∧ IntsAt w ya y ∧ (xa = none → xc = 0) ∧ (ya = none → yc = 0) ∧ y.length ≤ 17592186043904 ∧ y.length ≤ yc := by
  simp only [Value.okWide, aundTI] at hv
  obtain ⟨cs, rfl, hs, _⟩ := hv
  obtain ⟨fuel, hf⟩ := h
  obtain ⟨xs, m, _, hx, hl, hxl, hall⟩ := DataW.trod_array aundTI hf
  have hl2 : cs.toList.length = 2 := by
    have : cs.toList.length = Tryd.prog.cellsOf 33 := hl
    rw [this]; exact acellsTI
  obtain ⟨cl⟩ := cs
  match cl, hl2 with
  | [c0, c1], _ =>
    match xs, hxl with
    | [x0, x1], _ =>
      have h0 := hall 0 (by omega)
      have h1 := hall 1 (by omega)
      simp [acellsI, Value.cells] at h0 h1
      have hd : d = .agg [x0.1, x1.1] := congrArg Prod.fst hx
      have hw0 : ∀ n ∈ x0.1.weights Tryd.prog 22, n ≤ reachBytes := fun n hn => by
        apply hw
        rw [hd]
        simp [DataW.weights, aundTI, DataW.weightsEach, DataW.weightsAll]
        first | exact .inl hn | exact hn
      have hw1 : ∀ n ∈ x1.1.weights Tryd.prog 22, n ≤ reachBytes := fun n hn => by
        apply hw
        rw [hd]
        simp [DataW.weights, aundTI, DataW.weightsEach, DataW.weightsAll]
        first | exact .inr hn | exact hn
      obtain ⟨xa, xc, x, e0, i0, _, n0, _⟩ := open_row h0 hw0
      obtain ⟨ya, yc, y, e1, i1, k1, n1, b1⟩ := open_row h1 hw1
      injection e0 with e0 _
      injection e1 with e1 _
      subst e0 e1
      exact ⟨xa, xc, x, ya, yc, y, rfl, i0, i1, n0, n1, b1, k1⟩
end

end Go.Proofs.YtpfkaddammfkkaaDoor
