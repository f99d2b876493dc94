/- Own text: recipes and lists that came in as arguments, opened. -/
import Derived.Test.YtdlakbgcflekkaaQ8awake
import Derived.ProofKit
import Derived.OpenShut
import Derived.Deep.Slices
import Derived.Lib.SmallJoins
import Derived.ChangeSlices
namespace Go.Proofs.Ytdlakbgcflekkaa
open Go.ChangeShapes Go.WideShapes Go.ChangeAt Go.RowKit Go.Deep
set_option linter.unusedSimpArgs false
set_option linter.unusedVariables false

theorem acells3 : Try.prog.cellsOf 3 = 1 := by kernel_rfl
theorem acellsI : Try.prog.cellsOf 22 = 1 := by kernel_rfl
theorem acellsR : Try.prog.cellsOf 24 = 4 := by kernel_rfl
theorem acellsT : Try.prog.cellsOf 25 = 2 := by kernel_rfl
theorem abytes3 : Try.prog.bytesOf 3 = 8 := by kernel_rfl
theorem aundT : Try.prog.underlying 25 = some (.array 2 3) := by kernel_rfl
section
variable {H : Type} {enc : TypeId × Value → H} {w : World} {base base2 : Nat} {held : Bool}
theorem at_spot {a : Addr} {v : Value} (h : w.cell? (a.add 0) = some v) : ∃ b off, a = ⟨b, off, none⟩ := by
  obtain ⟨b, off, spot⟩ := a
  cases spot with
  | none => exact ⟨b, off, rfl⟩
  | some x =>
    exfalso
    unfold Addr.add World.cell? at h
    split at h <;> simp at h
/-- A list of numbers, opened. -/
theorem open_row {fuel : Nat} {cs : List Value} {x : DataW H × List MemPlace} (h : DataW.trod enc Try.prog w base (fun _ => true) held fuel 22 cs = some x) (hw : ∀ n ∈ x.1.weights Try.prog 22, n ≤ reachBytes) :
    ∃ (ao : Option Addr) (cap : Nat) (l : List Int), cs = [.slice ao l.length cap] ∧ IntsAt w ao l ∧ l.length ≤ cap ∧ (ao = none → cap = 0) := by
  rcases open_ints Try.underlying22 Try.underlying3 acells3 h with ⟨rfl, rfl⟩ | ⟨a, len, cap, zs, rfl, _, hl, hm, hz, hx, hc, hwf⟩
  · exact ⟨none, 0, [], rfl, ⟨by simp, fun n hn => absurd hn (by simp), fun h => absurd h (by simp)⟩, Nat.le_refl _, fun _ => rfl⟩
  · simp only [if_true] at hz
    rw [hx] at hw
    simp only [DataW.weights, Try.underlying22] at hw
    have hcap : cap * 8 ≤ reachBytes := by
      have := hw _ (List.mem_cons_self)
      rw [abytes3] at this
      simp only [lits, List.length_map, List.length_take, List.length_drop] at this
      have e : min len zs.length + (zs.length - len) = cap := by omega
      rwa [e] at this
    simp only [reachBytes] at hcap
    have hL : (zs.take len).length = len := by rw [List.length_take]; omega
    refine ⟨some a, cap, zs.take len, by rw [hL], ⟨by rw [hL]; omega, fun n hn => bounds_i64 (hwf n (List.mem_of_mem_take hn)), fun h0 => ?_⟩, by rw [hL]; exact hl, fun e => by cases e⟩
    rw [hL] at h0
    obtain ⟨b, off, rfl⟩ := at_spot (hc 0 (by omega))
    refine ⟨b, off, rfl, fun j hj => ?_⟩
    rw [hL] at hj
    have h9 := hc j (by omega)
    rw [Addr.add_mid] at h9
    rw [h9]
    congr 2
    rw [List.getD_eq_getElem?_getD, List.getD_eq_getElem?_getD, List.getElem?_take, if_pos hj]
set_option maxRecDepth 20000 in
theorem open_list {r : Reach} {v : Value} {d : DataW H} {q : List MemPlace} (hv : Value.okWide Try.prog w r base2 22 v) (h : DataW.Trod enc Try.prog w base (fun _ => true) held 22 v d q) (hw : ∀ n ∈ d.weights Try.prog 22, n ≤ reachBytes) :
    ∃ (ao : Option Addr) (cap : Nat) (l : List Int), v = .slice ao l.length cap ∧ IntsAt w ao l ∧ l.length ≤ cap ∧ (ao = none → cap = 0) := by
  obtain ⟨ao, len, cap, rfl⟩ := okWide_slice Try.underlying22 hv
  obtain ⟨fuel, hf⟩ := h
  obtain ⟨ao', cap', l, hc, h1, h2, h3⟩ := open_row hf hw
  have e : (Value.slice ao len cap) = .slice ao' l.length cap' := by
    have : ([Value.slice ao len cap] : List Value) = [.slice ao' l.length cap'] := hc
    injection this
  exact ⟨ao', cap', l, e, h1, h2, h3⟩
set_option maxRecDepth 20000 in
theorem open_rice {r : Reach} {v : Value} {d : DataW H} {q : List MemPlace} (hv : Value.okWide Try.prog w r base2 24 v) (h : DataW.Trod enc Try.prog w base (fun _ => true) held 24 v d q) (hw : ∀ n ∈ d.weights Try.prog 24, n ≤ reachBytes) :
    ∃ (c : Rc) (pa : Option Addr) (pc : Nat) (ea : Option Addr) (ec : Nat), v = riceV c pa pc ea ec ∧ RcAt w c pa ea := by
  obtain ⟨cs, rfl, hs⟩ := okWide_struct Try.underlying24 hv
  obtain ⟨fuel, hf⟩ := h
  obtain ⟨y0, y1, y2, y3, m, hx, hl, h0, h1, h2, h3⟩ := Joins.trod_struct4 Try.underlying24 hf
  rw [acellsR] at hl
  obtain ⟨z0, e0, f0, q0⟩ := DataW.trod_int Try.underlying3 h0
  obtain ⟨z1, e1, f1, q1⟩ := DataW.trod_int Try.underlying3 h1
  have hd : d = .agg [y0.1, y1.1, y2.1, y3.1] := by
    have := congrArg Prod.fst hx
    exact this
  have hw2 : ∀ n ∈ y2.1.weights Try.prog 22, n ≤ reachBytes := fun n hn => by
    apply hw
    rw [hd]
    simp only [DataW.weights, Try.underlying24, List.map_cons, List.map_nil, DataW.weightsEach, List.toList_toArray]
    simp only [List.mem_append]
    exact .inr (.inr (.inl hn))
  have hw3 : ∀ n ∈ y3.1.weights Try.prog 22, n ≤ reachBytes := fun n hn => by
    apply hw
    rw [hd]
    simp only [DataW.weights, Try.underlying24, List.map_cons, List.map_nil, DataW.weightsEach, List.toList_toArray]
    simp only [List.mem_append]
    exact .inr (.inr (.inr (.inl hn)))
  obtain ⟨pa, pc, P, hP, iP, _, _⟩ := open_row h2 hw2
  obtain ⟨ea, ec, E, hE, iE, _, _⟩ := open_row h3 hw3
  obtain ⟨cl⟩ := cs
  match cl, hl with
  | [c0, c1, c2, c3], _ =>
    simp [acells3, Value.cells] at e0 e1
    simp [acells3, acellsI, Value.cells] at hP hE
    subst e0 e1 hP hE
    exact ⟨⟨z0, z1, P, E⟩, pa, pc, ea, ec, rfl, ⟨iP, iE, (bounds_i64 q0).1, (bounds_i64 q0).2, (bounds_i64 q1).1, (bounds_i64 q1).2⟩⟩
set_option maxRecDepth 20000 in
theorem open_two {r : Reach} {v : Value} {d : DataW H} {q : List MemPlace} (hv : Value.okWide Try.prog w r base2 25 v) (h : DataW.Trod enc Try.prog w base (fun _ => true) held 25 v d q) :
    ∃ a b : Int, v = .agg #[.int .i64 a, .int .i64 b] ∧ (-9223372036854775808 ≤ a ∧ a ≤ 9223372036854775807) ∧ (-9223372036854775808 ≤ b ∧ b ≤ 9223372036854775807) := by
  simp only [Value.okWide, aundT] at hv
  obtain ⟨cs, rfl, hs, _⟩ := hv
  obtain ⟨fuel, hf⟩ := h
  obtain ⟨xs, m, _, _, hl, hxl, hall⟩ := DataW.trod_array aundT hf
  have hl2 : cs.toList.length = 2 := by
    have : cs.toList.length = Try.prog.cellsOf 25 := hl
    rw [this]; exact acellsT
  obtain ⟨cl⟩ := cs
  match cl, hl2 with
  | [c0, c1], _ =>
    match xs, hxl with
    | [x0, x1], _ =>
      have h0 := hall 0 (by omega)
      have h1 := hall 1 (by omega)
      simp [acells3, Value.cells] at h0 h1
      obtain ⟨z0, e0, _, q0⟩ := DataW.trod_int Try.underlying3 h0
      obtain ⟨z1, e1, _, q1⟩ := DataW.trod_int Try.underlying3 h1
      injection e0 with e0 _
      injection e1 with e1 _
      subst e0 e1
      exact ⟨z0, z1, rfl, bounds_i64 q0, bounds_i64 q1⟩
end

end Go.Proofs.Ytdlakbgcflekkaa
