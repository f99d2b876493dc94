/- Own text: samples that came in as an argument, opened: where they lie. -/
import Derived.Test.YtolmijpecomkcaaP5data
import Derived.Test.YtolmijpecomkcaaRows
import Derived.ProofKit
import Derived.OpenShut
import Derived.SizedLaws
import Derived.Deep.Matrix
import Derived.Lib.SmallJoins
namespace Go.Proofs.Ytolmijpecomkcaa
open Go.ChangeShapes Go.WideShapes Go.ChangeAt Go.RowKit Go.Deep
set_option linter.unusedSimpArgs false
set_option linter.unusedVariables false

theorem acells3 : Try.prog.cellsOf 3 = 1 := by kernel_rfl
theorem acells4 : Try.prog.cellsOf 4 = 1 := by kernel_rfl
theorem acellsI : Try.prog.cellsOf 45 = 1 := by kernel_rfl
theorem acellsR : Try.prog.cellsOf 22 = 1 := by kernel_rfl
theorem acellsP : Try.prog.cellsOf 24 = 4 := by kernel_rfl
theorem abytesI : Try.prog.bytesOf 45 = 24 := by kernel_rfl
theorem abytes3 : Try.prog.bytesOf 3 = 8 := by kernel_rfl

theorem weights_all {H : Type} (P : Program) (e : TypeId) : ∀ (l : List (DataW H)) (d : DataW H), d ∈ l → ∀ n ∈ d.weights P e, n ∈ DataW.weightsAll P e l
  | [], d, h, n, hn => by cases h
  | x :: r, d, h, n, hn => by
    have e1 : DataW.weightsAll P e (x :: r) = x.weights P e ++ DataW.weightsAll P e r := rfl
    rw [e1]
    rcases List.mem_cons.1 h with h | h
    · subst h
      exact List.mem_append.2 (.inl hn)
    · exact List.mem_append.2 (.inr (weights_all P e r d h n hn))

section
variable {H : Type} {enc : TypeId × Value → H} {w : World} {base : Nat} {held : Bool}

theorem at_spot {a : Addr} {v : Value} (h : w.cell? (a.add 0) = some v) : ∃ b off, a = ⟨b, off, none⟩ := by
  obtain ⟨b, off, spot⟩ := a
  cases spot with
  | none => exact ⟨b, off, rfl⟩
  | some x =>
    exfalso
    unfold Addr.add World.cell? at h
    split at h <;> simp at h

/-- A list of lists of numbers, opened. -/
theorem open_planes {fuel : Nat} {cs : List Value} {x : DataW H × List MemPlace} (h : DataW.trod enc Try.prog w base (fun _ => true) held fuel 22 cs = some x) (hw : ∀ n ∈ x.1.weights Try.prog 22, n ≤ reachBytes) :
    ∃ (ao : Option Addr) (cap : Nat) (xs : List (List Int)), cs = [.slice ao xs.length cap] ∧ RowsAt w ao xs := by
  rcases open_int_rows Try.underlying22 Try.underlying45 Try.underlying3 acellsI acells3 h with ⟨rfl, rfl⟩ | ⟨a, len, cap, A, L, C, Z, rfl, _, hl, hm, hx, hrow⟩
  · exact ⟨none, 0, [], rfl, ⟨by simp, fun h => by simp at h⟩⟩
  · have hlen : ((List.range len).map fun r => (Z r).take (L r)).length = len := by simp
    have hget : ∀ i, i < len → ((List.range len).map fun r => (Z r).take (L r)).getD i [] = (Z i).take (L i) := fun i hi => by simp [List.getD_eq_getElem?_getD, hi]
    rw [hx] at hw
    simp only [DataW.weights, Try.underlying22] at hw
    have hcap : cap * 24 ≤ reachBytes := by
      have := hw _ (List.mem_cons_self)
      rw [abytesI] at this
      simp only [List.length_map, List.length_range] at this
      have e : len + (cap - len) = cap := by omega
      rwa [e] at this
    simp only [reachBytes] at hcap
    refine ⟨some a, cap, (List.range len).map fun r => (Z r).take (L r), by rw [hlen], ⟨by rw [hlen]; omega, fun h0 => ?_⟩⟩
    rw [hlen] at h0
    obtain ⟨b, off, rfl⟩ := at_spot (hrow 0 (by omega)).1
    refine ⟨b, off, rfl, fun i hi => ?_⟩
    rw [hlen] at hi
    rw [hget i hi]
    obtain ⟨h1, h2, h3, h4, h5, h6, h7⟩ := hrow i (by omega)
    have hL : ((Z i).take (L i)).length = L i := by rw [List.length_take]; omega
    rw [hL]
    rw [add_plain] at h1
    have hC : C i * 8 ≤ reachBytes := by
      cases hA : A i with
      | none =>
        rw [h6 hA]
        exact Nat.zero_le _
      | some a' =>
        have hmem : intRow (H := H) .i64 (A i) (L i) (Z i) ∈ (List.range len).map fun r => intRow (H := H) .i64 (A r) (L r) (Z r) := List.mem_map.2 ⟨i, List.mem_range.2 hi, rfl⟩
        have hwt : C i * 8 ∈ (intRow (H := H) .i64 (A i) (L i) (Z i)).weights Try.prog 45 := by
          rw [hA]
          simp only [intRow, DataW.weights, Try.underlying45]
          rw [abytes3]
          have e : (lits (H := H) .i64 ((Z i).take (L i))).length + (lits (H := H) .i64 ((Z i).drop (L i))).length = C i := by
            simp only [lits, List.length_map, List.length_take, List.length_drop]
            omega
          rw [e]
          exact List.mem_cons_self
        exact hw _ (List.mem_cons.2 (.inr (List.mem_append.2 (.inl (weights_all _ _ _ _ hmem _ hwt)))))
    simp only [reachBytes] at hC
    refine ⟨A i, C i, h1, h2, h6, ⟨by rw [hL]; omega, fun n hn => bounds_i64 (h5 n (List.mem_of_mem_take hn)), fun h0' => ?_⟩⟩
    rw [hL] at h0'
    cases hA : A i with
    | none =>
      have := h6 hA
      omega
    | some a' =>
      obtain ⟨_, h8⟩ := h7 a' hA
      obtain ⟨b', off', rfl⟩ := at_spot (h8 0 (by omega))
      refine ⟨b', off', rfl, fun j hj => ?_⟩
      rw [hL] at hj
      have h9 := h8 j (by omega)
      rw [add_plain] at h9
      rw [h9]
      congr 2
      rw [List.getD_eq_getElem?_getD, List.getD_eq_getElem?_getD, List.getElem?_take, if_pos hj]

/-- A PCM's four cells, opened. -/
theorem open_pcm_cells {fuel : Nat} {cs : List Value} {x : DataW H × List MemPlace} (h : DataW.trod enc Try.prog w base (fun _ => true) held fuel 24 cs = some x) (hw : ∀ n ∈ x.1.weights Try.prog 24, n ≤ reachBytes) :
    ∃ (p : Pcm) (ao : Option Addr) (cap : Nat), cs = [.int .i64 p.rate, .int .i64 p.ch, .int .i64 p.wd, .slice ao p.pl.length cap] ∧ RowsAt w ao p.pl ∧ Fair p := by
  obtain ⟨y0, y1, y2, y3, m, rfl, hl, h0, h1, h2, h3⟩ := Joins.trod_struct4 Try.underlying24 h
  rw [acellsP] at hl
  obtain ⟨z0, e0, f0, q0⟩ := DataW.trod_int Try.underlying3 h0
  obtain ⟨z1, e1, f1, q1⟩ := DataW.trod_int Try.underlying3 h1
  obtain ⟨z2, e2, f2, q2⟩ := DataW.trod_int Try.underlying3 h2
  have hw3 : ∀ n ∈ y3.1.weights Try.prog 22, n ≤ reachBytes := fun n hn => by
    apply hw
    simp only [DataW.weights, Try.underlying24, List.map_cons, List.map_nil, DataW.weightsEach, List.toList_toArray]
    simp only [List.mem_append]
    exact .inr (.inr (.inr (.inl hn)))
  obtain ⟨ao, cap, xs, hcs, hr⟩ := open_planes h3 hw3
  match cs, hl with
  | [c0, c1, c2, c3], _ =>
    simp [acells3] at e0 e1 e2
    simp [acellsR] at hcs
    subst e0 e1 e2 hcs
    exact ⟨⟨z0, z1, z2, xs⟩, ao, cap, rfl, hr, ⟨(bounds_i64 q0).1, (bounds_i64 q0).2, (bounds_i64 q1).1, (bounds_i64 q1).2, (bounds_i64 q2).1, (bounds_i64 q2).2⟩⟩

/-- A PCM as an argument. -/
theorem open_pcm {r : Reach} {v : Value} {d : DataW H} {q : List MemPlace} (hv : Value.okWide Try.prog w r base 24 v) (h : DataW.Trod enc Try.prog w base (fun _ => true) held 24 v d q) (hw : ∀ n ∈ d.weights Try.prog 24, n ≤ reachBytes) :
    ∃ (p : Pcm) (ao : Option Addr) (cap : Nat), v = pcmV p ao cap ∧ RowsAt w ao p.pl ∧ Fair p := by
  obtain ⟨cs, rfl, hs⟩ := okWide_struct Try.underlying24 hv
  obtain ⟨fuel, hf⟩ := h
  obtain ⟨p, ao, cap, hc, hr, hfa⟩ := open_pcm_cells hf hw
  refine ⟨p, ao, cap, ?_, hr, hfa⟩
  have : cs.toList = (pcmC p ao cap).toList := hc
  rw [Array.toList_inj.1 this]

/-- A layout as an argument. -/
theorem open_layout {r : Reach} {v : Value} {d : DataW H} {q : List MemPlace} (hv : Value.okWide Try.prog w r base 34 v) (h : DataW.Trod enc Try.prog w base (fun _ => true) held 34 v d q) :
    ∃ big uns : Bool, v = .agg #[.bool big, .bool uns] ∧ d = .agg [.lit (.bool big), .lit (.bool uns)] ∧ q = [] := by
  obtain ⟨cs, rfl, hs⟩ := okWide_struct Try.underlying34 hv
  obtain ⟨fuel, hf⟩ := h
  obtain ⟨y0, y1, m, hx, hl, h0, h1⟩ := trod_struct2 Try.underlying34 hf
  obtain ⟨b0, e0, f0⟩ := DataW.trod_bool Try.underlying4 h0
  obtain ⟨b1, e1, f1⟩ := DataW.trod_bool Try.underlying4 h1
  have hl2 : cs.toList.length = 2 := by
    rw [Array.length_toList, hs]
    kernel_rfl
  subst f0 f1
  refine ⟨b0, b1, ?_, congrArg Prod.fst hx, by have := congrArg Prod.snd hx; simpa using this⟩
  obtain ⟨l⟩ := cs
  match l, hl2 with
  | [c0, c1], _ =>
    simp [acells4, Value.cells] at e0 e1
    rw [e0, e1]
end

end Go.Proofs.Ytolmijpecomkcaa
