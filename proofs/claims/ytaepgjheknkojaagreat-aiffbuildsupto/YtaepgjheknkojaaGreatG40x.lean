/- Own text: the walk of awake. samples that came in as an argument, opened: where they lie. samples and layouts that came in as arguments, opened. the walk of the document's Unpack, its early ends. -/
import Derived.Test.YtaepgjheknkojaaGreatG36x
import Derived.Test.YtaepgjheknkojaaGreatQ5pack3
import Derived.Test.YtaepgjheknkojaaGreatG4x
import Derived.Test.YtaepgjheknkojaaGreatRows
import Derived.ProofKit
import Derived.OpenShut
import Derived.SizedLaws
import Derived.Deep.Matrix
import Derived.Lib.SmallJoins
import Derived.Test.YtaepgjheknkojaaGreatG24x
namespace Go.Proofs.YtaepgjheknkojaaGreat
open Go.RowKit
set_option linter.unusedSimpArgs false
set_option linter.unusedVariables false

def two (wd : Int) : Pcm := ⟨44100, 1, wd, [[1, -1]]⟩
set_option maxRecDepth 20000 in
set_option maxHeartbeats 1600000 in
theorem two_spec (wd : Int) (w : World) : Calls Tryz.prog 24 #[.int .i64 wd] w fun e w' => ∃ ao cap, e = .returned (pcmV (two wd) ao cap) ∧ RowsAt w' ao (two wd).pl ∧ Below w.heap.size w w' := by
  go_enter Tryz.func24, Tryz.ntmps24
  go_wp2_with fail
  generalize hwf : World.alloc (World.alloc (World.alloc w _) _) _ = wf
  have h : ∀ (w : World) (o : Obj), Below w.heap.size w (w.alloc o) := fun w o => (Below.refl _ _).alloc (Nat.le_refl _) _
  have hb0 : wf.heap[w.heap.size]? = some (.cells #[.int .i64 44100, .int .i64 1, .int .i64 wd, .slice (some ⟨w.heap.size + 1 + 1, 0, none⟩) 1 1] 24 (0, 0)) := by
    rw [← hwf, (h _ _).block _ (by simp <;> omega), (h _ _).block _ (by simp)]
    exact heap_alloc_new _ _
  have hb1 : wf.heap[w.heap.size + 1]? = some (.cells #[.int .i64 1, .int .i64 (-1)] 3 (0, 0)) := by
    rw [← hwf, (h _ _).block _ (by simp)]
    have e : (w.alloc (.cells #[.int .i64 44100, .int .i64 1, .int .i64 wd, .slice (some ⟨w.heap.size + 1 + 1, 0, none⟩) 1 1] 24)).heap.size = w.heap.size + 1 := by simp
    have hh := heap_alloc_new (w.alloc (.cells #[.int .i64 44100, .int .i64 1, .int .i64 wd, .slice (some ⟨w.heap.size + 1 + 1, 0, none⟩) 1 1] 24)) (.cells #[.int .i64 1, .int .i64 (-1)] 3)
    rw [e] at hh
    exact hh
  have hb2 : wf.heap[w.heap.size + 1 + 1]? = some (.cells #[.slice (some ⟨w.heap.size + 1, 0, none⟩) 2 2] 95 (0, 0)) := by
    rw [← hwf]
    have e : ((w.alloc (.cells #[.int .i64 44100, .int .i64 1, .int .i64 wd, .slice (some ⟨w.heap.size + 1 + 1, 0, none⟩) 1 1] 24)).alloc (.cells #[.int .i64 1, .int .i64 (-1)] 3)).heap.size = w.heap.size + 1 + 1 := by simp
    have hh := heap_alloc_new ((w.alloc (.cells #[.int .i64 44100, .int .i64 1, .int .i64 wd, .slice (some ⟨w.heap.size + 1 + 1, 0, none⟩) 1 1] 24)).alloc (.cells #[.int .i64 1, .int .i64 (-1)] 3)) (.cells #[.slice (some ⟨w.heap.size + 1, 0, none⟩) 2 2] 95)
    rw [e] at hh
    exact hh
  have hbel : Below w.heap.size w wf := by
    rw [← hwf]
    exact ((h w _).alloc (by simp) _).alloc (by simp <;> omega) _
  have hi : IntsAt wf (some ⟨w.heap.size + 1, 0, none⟩) [1, -1] := by
    refine ⟨by decide, by decide, fun _ => ⟨w.heap.size + 1, 0, rfl, fun j hj => ?_⟩⟩
    have hj2 : j = 0 ∨ j = 1 := by simp at hj; omega
    rcases hj2 with rfl | rfl
    · rw [cell_of_row _ _ _ _ _ _ hb1]; rfl
    · rw [cell_of_row _ _ _ _ _ _ hb1]; rfl
  have hr : RowsAt wf (some ⟨w.heap.size + 1 + 1, 0, none⟩) (two wd).pl := by
    refine ⟨by simp [two], fun _ => ⟨w.heap.size + 1 + 1, 0, rfl, fun i hi' => ?_⟩⟩
    have e : i = 0 := by simp [two] at hi'; omega
    subst e
    exact ⟨some ⟨w.heap.size + 1, 0, none⟩, 2, by rw [cell_of_row _ _ _ _ _ _ hb2]; rfl, Nat.le_refl 2, fun e => (by cases e), hi⟩
  refine bodyPost_ret (v := pcmV (two wd) (some ⟨w.heap.size + 1 + 1, 0, none⟩) 1) ?_ rfl ⟨_, _, rfl, hr, hbel⟩
  rw [res_one rfl]
  have hld := run_loadVar_row (P := Tryz.prog) wf w.heap.size 24 24 _ (0, 0) _ hb0 Tryz.underlying24 rfl infPcm
  simp [asAddr, Result.andThen, hld, two]

theorem two16 : checkN (two 16) = 0 := by decide +kernel
theorem two8 : checkN (two 8) = 0 := by decide +kernel
theorem pak16 : pakN (two 16) false false = ⟨#[1, 0, 255, 255]⟩ := by
  unfold pakN
  rw [if_pos two16]
  decide +kernel
theorem pak8 : pakN (two 8) false true = ⟨#[129, 127]⟩ := by
  unfold pakN
  rw [if_pos two8]
  decide +kernel
theorem fit32 : fitsN 3 (two 32) = 4 := by decide +kernel
theorem un12 : uE ⟨#[0, 16]⟩ 8000 1 12 false false = 2 := by
  have hs : (⟨#[0, 16]⟩ : ByteArray).size = 2 := rfl
  have hb : sampB (numM ⟨#[0, 16]⟩ 12 false false 0) 12 = false := by decide +kernel
  exact (uE_two ⟨#[0, 16]⟩ 8000 1 12 false false (by decide +kernel) 1 (by decide +kernel) (by decide) (by decide +kernel) (by decide) 0 (by decide) hb).1
theorem len2 : lenP (two 16) = 2 := rfl

end Go.Proofs.YtaepgjheknkojaaGreat

namespace Go.Proofs.YtaepgjheknkojaaGreat
open Go.ChangeShapes Go.WideShapes Go.ChangeAt Go.RowKit Go.Deep
set_option linter.unusedSimpArgs false
set_option linter.unusedVariables false

theorem acells3 : Tryz.prog.cellsOf 3 = 1 := by kernel_rfl
theorem acells4 : Tryz.prog.cellsOf 4 = 1 := by kernel_rfl
theorem acellsI : Tryz.prog.cellsOf 95 = 1 := by kernel_rfl
theorem acellsR : Tryz.prog.cellsOf 22 = 1 := by kernel_rfl
theorem acellsP : Tryz.prog.cellsOf 24 = 4 := by kernel_rfl
theorem abytesI : Tryz.prog.bytesOf 95 = 24 := by kernel_rfl
theorem abytes3 : Tryz.prog.bytesOf 3 = 8 := by kernel_rfl

theorem weights_all {H : Type} (P : Program) (e : TypeId) : ∀ (l : List (DataW H)) (d : DataW H), d ∈ l → ∀ n ∈ d.weights P e, n ∈ DataW.weightsAll P e l
  | [], d, h, n, hn => by cases h
  | x :: r, d, h, n, hn => by
    have e1 : DataW.weightsAll P e (x :: r) = x.weights P e ++ DataW.weightsAll P e r := rfl
    rw [e1]
    rcases List.mem_cons.1 h with h | h
    · subst h
      exact List.mem_append.2 (.inl hn)
    · exact List.mem_append.2 (.inr (weights_all P e r d h n hn))

section
variable {H : Type} {enc : TypeId × Value → H} {w : World} {base : Nat} {held : Bool}

theorem at_spot {a : Addr} {v : Value} (h : w.cell? (a.add 0) = some v) : ∃ b off, a = ⟨b, off, none⟩ := by
  obtain ⟨b, off, spot⟩ := a
  cases spot with
  | none => exact ⟨b, off, rfl⟩
  | some x =>
    exfalso
    unfold Addr.add World.cell? at h
    split at h <;> simp at h

/-- A list of lists of numbers, opened. -/
theorem open_planes {fuel : Nat} {cs : List Value} {x : DataW H × List MemPlace} (h : DataW.trod enc Tryz.prog w base (fun _ => true) held fuel 22 cs = some x) (hw : ∀ n ∈ x.1.weights Tryz.prog 22, n ≤ reachBytes) :
    ∃ (ao : Option Addr) (cap : Nat) (xs : List (List Int)), cs = [.slice ao xs.length cap] ∧ RowsAt w ao xs := by
  rcases open_int_rows Tryz.underlying22 Tryz.underlying95 Tryz.underlying3 acellsI acells3 h with ⟨rfl, rfl⟩ | ⟨a, len, cap, A, L, C, Z, rfl, _, hl, hm, hx, hrow⟩
  · exact ⟨none, 0, [], rfl, ⟨by simp, fun h => by simp at h⟩⟩
  · have hlen : ((List.range len).map fun r => (Z r).take (L r)).length = len := by simp
    have hget : ∀ i, i < len → ((List.range len).map fun r => (Z r).take (L r)).getD i [] = (Z i).take (L i) := fun i hi => by simp [List.getD_eq_getElem?_getD, hi]
    rw [hx] at hw
    simp only [DataW.weights, Tryz.underlying22] at hw
    have hcap : cap * 24 ≤ reachBytes := by
      have := hw _ (List.mem_cons_self)
      rw [abytesI] at this
      simp only [List.length_map, List.length_range] at this
      have e : len + (cap - len) = cap := by omega
      rwa [e] at this
    simp only [reachBytes] at hcap
    refine ⟨some a, cap, (List.range len).map fun r => (Z r).take (L r), by rw [hlen], ⟨by rw [hlen]; omega, fun h0 => ?_⟩⟩
    rw [hlen] at h0
    obtain ⟨b, off, rfl⟩ := at_spot (hrow 0 (by omega)).1
    refine ⟨b, off, rfl, fun i hi => ?_⟩
    rw [hlen] at hi
    rw [hget i hi]
    obtain ⟨h1, h2, h3, h4, h5, h6, h7⟩ := hrow i (by omega)
    have hL : ((Z i).take (L i)).length = L i := by rw [List.length_take]; omega
    rw [hL]
    rw [add_plain] at h1
    have hC : C i * 8 ≤ reachBytes := by
      cases hA : A i with
      | none =>
        rw [h6 hA]
        exact Nat.zero_le _
      | some a' =>
        have hmem : intRow (H := H) .i64 (A i) (L i) (Z i) ∈ (List.range len).map fun r => intRow (H := H) .i64 (A r) (L r) (Z r) := List.mem_map.2 ⟨i, List.mem_range.2 hi, rfl⟩
        have hwt : C i * 8 ∈ (intRow (H := H) .i64 (A i) (L i) (Z i)).weights Tryz.prog 95 := by
          rw [hA]
          simp only [intRow, DataW.weights, Tryz.underlying95]
          rw [abytes3]
          have e : (lits (H := H) .i64 ((Z i).take (L i))).length + (lits (H := H) .i64 ((Z i).drop (L i))).length = C i := by
            simp only [lits, List.length_map, List.length_take, List.length_drop]
            omega
          rw [e]
          exact List.mem_cons_self
        exact hw _ (List.mem_cons.2 (.inr (List.mem_append.2 (.inl (weights_all _ _ _ _ hmem _ hwt)))))
    simp only [reachBytes] at hC
    refine ⟨A i, C i, h1, h2, h6, ⟨by rw [hL]; omega, fun n hn => bounds_i64 (h5 n (List.mem_of_mem_take hn)), fun h0' => ?_⟩⟩
    rw [hL] at h0'
    cases hA : A i with
    | none =>
      have := h6 hA
      omega
    | some a' =>
      obtain ⟨_, h8⟩ := h7 a' hA
      obtain ⟨b', off', rfl⟩ := at_spot (h8 0 (by omega))
      refine ⟨b', off', rfl, fun j hj => ?_⟩
      rw [hL] at hj
      have h9 := h8 j (by omega)
      rw [add_plain] at h9
      rw [h9]
      congr 2
      rw [List.getD_eq_getElem?_getD, List.getD_eq_getElem?_getD, List.getElem?_take, if_pos hj]

set_option maxRecDepth 20000 in
/-- A PCM's four cells, opened. -/
theorem open_pcm_cells {fuel : Nat} {cs : List Value} {x : DataW H × List MemPlace} (h : DataW.trod enc Tryz.prog w base (fun _ => true) held fuel 24 cs = some x) (hw : ∀ n ∈ x.1.weights Tryz.prog 24, n ≤ reachBytes) :
    ∃ (p : Pcm) (ao : Option Addr) (cap : Nat), cs = [.int .i64 p.rate, .int .i64 p.ch, .int .i64 p.wd, .slice ao p.pl.length cap] ∧ RowsAt w ao p.pl ∧ Fair p := by
  obtain ⟨y0, y1, y2, y3, m, rfl, hl, h0, h1, h2, h3⟩ := Joins.trod_struct4 Tryz.underlying24 h
  rw [acellsP] at hl
  obtain ⟨z0, e0, f0, q0⟩ := DataW.trod_int Tryz.underlying3 h0
  obtain ⟨z1, e1, f1, q1⟩ := DataW.trod_int Tryz.underlying3 h1
  obtain ⟨z2, e2, f2, q2⟩ := DataW.trod_int Tryz.underlying3 h2
  have hw3 : ∀ n ∈ y3.1.weights Tryz.prog 22, n ≤ reachBytes := fun n hn => by
    apply hw
    simp only [DataW.weights, Tryz.underlying24, List.map_cons, List.map_nil, DataW.weightsEach, List.toList_toArray]
    simp only [List.mem_append]
    exact .inr (.inr (.inr (.inl hn)))
  obtain ⟨ao, cap, xs, hcs, hr⟩ := open_planes h3 hw3
  match cs, hl with
  | [c0, c1, c2, c3], _ =>
    simp [acells3] at e0 e1 e2
    simp [acellsR] at hcs
    subst e0 e1 e2 hcs
    exact ⟨⟨z0, z1, z2, xs⟩, ao, cap, rfl, hr, ⟨(bounds_i64 q0).1, (bounds_i64 q0).2, (bounds_i64 q1).1, (bounds_i64 q1).2, (bounds_i64 q2).1, (bounds_i64 q2).2⟩⟩

set_option maxRecDepth 20000 in
/-- A PCM as an argument. -/
theorem open_pcm {r : Reach} {v : Value} {d : DataW H} {q : List MemPlace} (hv : Value.okWide Tryz.prog w r base 24 v) (h : DataW.Trod enc Tryz.prog w base (fun _ => true) held 24 v d q) (hw : ∀ n ∈ d.weights Tryz.prog 24, n ≤ reachBytes) :
    ∃ (p : Pcm) (ao : Option Addr) (cap : Nat), v = pcmV p ao cap ∧ RowsAt w ao p.pl ∧ Fair p := by
  obtain ⟨cs, rfl, hs⟩ := okWide_struct Tryz.underlying24 hv
  obtain ⟨fuel, hf⟩ := h
  obtain ⟨p, ao, cap, hc, hr, hfa⟩ := open_pcm_cells hf hw
  refine ⟨p, ao, cap, ?_, hr, hfa⟩
  have : cs.toList = (pcmC p ao cap).toList := hc
  rw [Array.toList_inj.1 this]

set_option maxRecDepth 20000 in
/-- A layout as an argument. -/
theorem open_layout {r : Reach} {v : Value} {d : DataW H} {q : List MemPlace} (hv : Value.okWide Tryz.prog w r base 59 v) (h : DataW.Trod enc Tryz.prog w base (fun _ => true) held 59 v d q) :
    ∃ big uns : Bool, v = .agg #[.bool big, .bool uns] ∧ d = .agg [.lit (.bool big), .lit (.bool uns)] ∧ q = [] := by
  obtain ⟨cs, rfl, hs⟩ := okWide_struct Tryz.underlying59 hv
  obtain ⟨fuel, hf⟩ := h
  obtain ⟨y0, y1, m, hx, hl, h0, h1⟩ := trod_struct2 Tryz.underlying59 hf
  obtain ⟨b0, e0, f0⟩ := DataW.trod_bool Tryz.underlying4 h0
  obtain ⟨b1, e1, f1⟩ := DataW.trod_bool Tryz.underlying4 h1
  have hl2 : cs.toList.length = 2 := by
    rw [Array.length_toList, hs]
    kernel_rfl
  subst f0 f1
  refine ⟨b0, b1, ?_, congrArg Prod.fst hx, by have := congrArg Prod.snd hx; simpa using this⟩
  obtain ⟨l⟩ := cs
  match l, hl2 with
  | [c0, c1], _ =>
    simp [acells4, Value.cells] at e0 e1
    rw [e0, e1]
end

end Go.Proofs.YtaepgjheknkojaaGreat

namespace Go.Proofs.YtaepgjheknkojaaGreat
open Go.RowKit
set_option linter.unusedSimpArgs false
set_option linter.unusedVariables false
open Go.ChangeShapes Go.WideShapes Go.ChangeAt Go.RowKit Go.Deep
section
variable {H : Type} {enc : TypeId × Value → H} {w : World} {base base2 : Nat} {held : Bool}
set_option maxRecDepth 20000 in
theorem open_pcm0 {r : Reach} {v : Value} {d : DataW H} {q : List MemPlace} (hv : Value.okWide Tryz.prog w r base2 24 v) (h : DataW.Trod enc Tryz.prog w base (fun _ => true) held 24 v d q) (hw : ∀ n ∈ d.weights Tryz.prog 24, n ≤ reachBytes) :
    ∃ (p : Pcm) (ao : Option Addr) (cap : Nat), v = pcmV p ao cap ∧ RowsAt w ao p.pl ∧ Fair p := by
  obtain ⟨cs, rfl, hs⟩ := okWide_struct Tryz.underlying24 hv
  obtain ⟨fuel, hf⟩ := h
  obtain ⟨p, ao, cap, hc, hr, hfa⟩ := open_pcm_cells hf hw
  refine ⟨p, ao, cap, ?_, hr, hfa⟩
  have : cs.toList = (pcmC p ao cap).toList := hc
  rw [Array.toList_inj.1 this]

set_option maxRecDepth 20000 in
theorem open_layout0 {r : Reach} {v : Value} {d : DataW H} {q : List MemPlace} (hv : Value.okWide Tryz.prog w r base2 59 v) (h : DataW.Trod enc Tryz.prog w base (fun _ => true) held 59 v d q) :
    ∃ big uns : Bool, v = .agg #[.bool big, .bool uns] ∧ d = .agg [.lit (.bool big), .lit (.bool uns)] ∧ q = [] := by
  obtain ⟨cs, rfl, hs⟩ := okWide_struct Tryz.underlying59 hv
  obtain ⟨fuel, hf⟩ := h
  obtain ⟨y0, y1, m, hx, hl, h0, h1⟩ := trod_struct2 Tryz.underlying59 hf
  obtain ⟨b0, e0, f0⟩ := DataW.trod_bool Tryz.underlying4 h0
  obtain ⟨b1, e1, f1⟩ := DataW.trod_bool Tryz.underlying4 h1
  have hl2 : cs.toList.length = 2 := by
    rw [Array.length_toList, hs]
    kernel_rfl
  subst f0 f1
  refine ⟨b0, b1, ?_, congrArg Prod.fst hx, by have := congrArg Prod.snd hx; simpa using this⟩
  obtain ⟨l⟩ := cs
  match l, hl2 with
  | [c0, c1], _ =>
    simp [acells4, Value.cells] at e0 e1
    rw [e0, e1]
end

end Go.Proofs.YtaepgjheknkojaaGreat

namespace Go.Proofs.YtaepgjheknkojaaGreat
open Go.RowKit
set_option linter.unusedSimpArgs false
set_option linter.unusedVariables false

theorem make_rows (C : Nat) (h : C ≤ 8) (w : World) :
    (Instr.makeSlice 22 (.int .i64 (C : Int)) (.int .i64 (C : Int))).run Tryz.prog w = .ok (.slice (some ⟨w.heap.size, 0, none⟩) C C) (w.alloc (.cells (madeCells #[noS] C) 95)) :=
  run_make_row' 22 95 noS 24 Tryz.underlying22 infoI rfl .i64 .i64 C (by omega) (by omega) w

theorem getD_rep {α : Type} (n : Nat) (x d : α) (k : Nat) (h : k < n) : (List.replicate n x).getD k d = x := by
  rw [List.getD_eq_getElem?_getD, List.getElem?_replicate, if_pos h]
  rfl
theorem Up.new (w : World) (big uns : Bool) (rate ch wd : Int) (C : Nat) (hC : C ≤ 8) :
    Up w big uns rate ch wd C (List.replicate C noS) (List.replicate C []) ((((w.alloc (.cells #[.bool big, .bool uns] 59)).alloc (.cells zeroP 24)).alloc (.cells (madeCells #[noS] C) 95)).alloc (.cells #[.int .i64 rate, .int .i64 ch, .int .i64 wd, .slice (some ⟨w.heap.size + 2, 0, none⟩) C C] 24)) := by
  have hu := Un.new w big uns
  have h2 := Un.new0 w big uns
  generalize (w.alloc (.cells #[.bool big, .bool uns] 59)).alloc (.cells zeroP 24) = w1 at *
  have hm : (w1.alloc (.cells (madeCells #[noS] C) 95)).ownsRow (w.heap.size + 2) 95 1 (.slice (some ⟨w1.heap.size, 0, none⟩) C C) C (madeCells #[noS] C).toList := World.ownsRow_lit w1 _ C (by omega) (by simp only [maxLen]; omega) (by rw [size_madeCells]; omega)
  rw [h2, toList_madeCells_one] at hm
  have hB : Below w1.heap.size w1 (w1.alloc (.cells (madeCells #[noS] C) 95)) := (Below.refl _ _).alloc (Nat.le_refl _) _
  have h3 : (w1.alloc (.cells (madeCells #[noS] C) 95)).heap.size = w.heap.size + 3 := by simp [h2]
  generalize w1.alloc (.cells (madeCells #[noS] C) 95) = w2 at *
  have hB2 : Below w2.heap.size w2 (w2.alloc (.cells #[.int .i64 rate, .int .i64 ch, .int .i64 wd, .slice (some ⟨w.heap.size + 2, 0, none⟩) C C] 24)) := (Below.refl _ _).alloc (Nat.le_refl _) _
  refine ⟨?_, ?_, ?_, ⟨?_, fun i hi => ?_, fun i j hi hj hij => ?_, fun i hi => ?_⟩, List.length_replicate, fun k hk => ?_, by simp [h3], ?_⟩
  · rw [hB2.block _ (by omega), hB.block _ (by omega)]
    exact hu.lay
  · rw [hB2.block _ (by omega), hB.block _ (by omega)]
    exact hu.res
  · rw [← h3]
    exact heap_alloc_new _ _
  · rw [List.length_replicate]
    exact owns_below hm hB2
  · rw [List.length_replicate] at hi
    rw [getD_rep _ _ _ _ hi, getD_rep _ _ _ _ hi]
    exact World.ownsRow_nil _ _ _ _
  · rw [List.length_replicate] at hi
    rw [getD_rep _ _ _ _ hi]
    exact .inl rfl
  · rw [List.length_replicate] at hi
    rw [getD_rep _ _ _ _ hi]
    exact .inl rfl
  · rw [List.length_replicate] at hk
    rw [getD_rep _ _ _ _ hk]
    exact fun q => (by cases q)
  · exact (hu.below.trans (hB.mono hu.below.size)).trans (hB2.mono (by omega))

theorem uhead_parts {rate ch wd : Int} (h : uheadB rate ch wd = true) : 1 ≤ rate ∧ rate ≤ 655350 ∧ 1 ≤ ch ∧ ch ≤ 8 ∧ 4 ≤ wd ∧ wd ≤ 32 := of_decide_eq_true h

set_option maxRecDepth 20000 in
set_option maxHeartbeats 6400000 in
theorem runpack_two (s : ByteArray) (rate ch wd : Int) (big uns : Bool) (w : World) (hs : s.size ≤ 1000000000000000000) (hh : uheadB rate ch wd = true) (hm : s.size % (nby wd * ch.toNat) ≠ 0) :
    Calls Tryz.prog 21 #[.string s, .int .i64 rate, .int .i64 ch, .int .i64 wd, .agg #[.bool big, .bool uns]] w fun e w' => Gives w (unpP s rate ch wd big uns) (unpE s rate ch wd big uns) e w' := by
  have HN : Hid (unpE s rate ch wd big uns = 2) := by
    show _ = _
    unfold unpE
    rw [hh, if_pos rfl, if_neg hm]
  have HP : Hid (unpP s rate ch wd big uns = noP) := by
    show _ = _
    unfold unpP
    rw [HN.out]
    rfl
  have HU : Hid (Un w big uns ((w.alloc (.cells #[.bool big, .bool uns] 59)).alloc (.cells zeroP 24))) := Un.new w big uns
  obtain ⟨r1, r2, c1, c2, w1, w2⟩ := uhead_parts hh
  obtain ⟨n1, n2, n3, n4⟩ := nby_range wd w1 w2
  obtain ⟨C, rfl⟩ : ∃ C : Nat, ch = (C : Int) := ⟨ch.toNat, by omega⟩
  have hw : (wd + 7) / 8 = (nby wd : Int) := n4.symm
  rw [Int.toNat_natCast] at hm
  generalize hnb : nby wd = nb at *
  have hmul : (nb : Int) * (C : Int) = ((nb * C : Nat) : Int) := by simp
  have hp1 : 1 ≤ nb * C := Nat.mul_le_mul n1 (by omega : 1 ≤ C)
  have hp2 : nb * C ≤ 4 * 8 := Nat.mul_le_mul n2 (by omega : C ≤ 8)
  generalize nb * C = M at *
  clear hh n4 hnb
  have hb : ((s.size : Int) % (M : Int) == 0) = false := by
    rw [beq_eq_false_iff_ne]
    omega
  have hb2 : s.size % M = 0 ↔ False := by simp [hm]
  go_enter Tryz.func21, Tryz.ntmps21
  go_wp2
  generalize hwf : World.alloc _ _ = wf
  have hu : Un w big uns wf := by
    rw [← hwf]
    exact HU.out
  refine bodyPost_ret (v := .tuple #[.agg zeroP, .int .i64 2]) ?_ rfl ⟨none, 0, by rw [HP.out, HN.out]; rfl, by rw [HP.out]; exact rows_none _ _, by rw [HP.out]; exact fresh_none _ _ _, hu.below⟩
  rw [results_two rfl]
  have hld := run_loadVar_row (P := Tryz.prog) wf (w.heap.size + 1) 24 24 zeroP (0, 0) _ hu.res Tryz.underlying24 rfl infoP
  simp [asAddr, Result.andThen, hld]

set_option maxRecDepth 20000 in
set_option maxHeartbeats 6400000 in
theorem runpack_five (s : ByteArray) (rate ch wd : Int) (big uns : Bool) (w : World) (hs : s.size ≤ 1000000000000000000) (hh : uheadB rate ch wd = true) (hm : s.size % (nby wd * ch.toNat) = 0) (h5 : 1048576 < s.size / (nby wd * ch.toNat)) :
    Calls Tryz.prog 21 #[.string s, .int .i64 rate, .int .i64 ch, .int .i64 wd, .agg #[.bool big, .bool uns]] w fun e w' => Gives w (unpP s rate ch wd big uns) (unpE s rate ch wd big uns) e w' := by
  have HN : Hid (unpE s rate ch wd big uns = 5) := by
    show _ = _
    unfold unpE
    rw [hh, if_pos rfl, if_pos hm, if_pos h5]
  have HP : Hid (unpP s rate ch wd big uns = noP) := by
    show _ = _
    unfold unpP
    rw [HN.out]
    rfl
  have HU : Hid (Un w big uns ((w.alloc (.cells #[.bool big, .bool uns] 59)).alloc (.cells zeroP 24))) := Un.new w big uns
  obtain ⟨r1, r2, c1, c2, w1, w2⟩ := uhead_parts hh
  obtain ⟨n1, n2, n3, n4⟩ := nby_range wd w1 w2
  obtain ⟨C, rfl⟩ : ∃ C : Nat, ch = (C : Int) := ⟨ch.toNat, by omega⟩
  have hw : (wd + 7) / 8 = (nby wd : Int) := n4.symm
  rw [Int.toNat_natCast] at hm h5
  generalize hnb : nby wd = nb at *
  have hmul : (nb : Int) * (C : Int) = ((nb * C : Nat) : Int) := by simp
  have hp1 : 1 ≤ nb * C := Nat.mul_le_mul n1 (by omega : 1 ≤ C)
  have hp2 : nb * C ≤ 4 * 8 := Nat.mul_le_mul n2 (by omega : C ≤ 8)
  generalize nb * C = M at *
  clear hh n4 hnb
  have hb : ((s.size : Int) % (M : Int) == 0) = true := by
    rw [beq_iff_eq]
    omega
  have hb2 : s.size % M = 0 ↔ True := by simp [hm]
  have hqd : (s.size : Int) / (M : Int) = ((s.size / M : Nat) : Int) := by simp
  have hqb : s.size / M ≤ s.size := Nat.div_le_self _ _
  generalize s.size / M = Q at *
  go_enter Tryz.func21, Tryz.ntmps21
  go_wp2
  generalize hwf : World.alloc _ _ = wf
  have hu : Un w big uns wf := by
    rw [← hwf]
    exact HU.out
  refine bodyPost_ret (v := .tuple #[.agg zeroP, .int .i64 5]) ?_ rfl ⟨none, 0, by rw [HP.out, HN.out]; rfl, by rw [HP.out]; exact rows_none _ _, by rw [HP.out]; exact fresh_none _ _ _, hu.below⟩
  rw [results_two rfl]
  have hld := run_loadVar_row (P := Tryz.prog) wf (w.heap.size + 1) 24 24 zeroP (0, 0) _ hu.res Tryz.underlying24 rfl infoP
  simp [asAddr, Result.andThen, hld]

end Go.Proofs.YtaepgjheknkojaaGreat
