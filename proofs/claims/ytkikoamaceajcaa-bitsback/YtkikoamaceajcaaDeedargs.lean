/- Own text: a list of deeds that came in as an argument, opened: the cells that it leads to. -/
import Derived.Test.YtkikoamaceajcaaReads
import Derived.ProofKit
import Derived.OpenShut
import Derived.Deep.Slices
import Derived.Lib.SmallJoins
namespace Go.Proofs.Ytkikoamaceajcaa
open Go.ChangeShapes Go.WideShapes Go.ChangeAt Go.RowKit Go.Joins Go.Deep
set_option linter.unusedSimpArgs false
set_option linter.unusedVariables false

theorem cells32 : Try.prog.cellsOf 32 = 4 := by kernel_rfl
theorem cells3 : Try.prog.cellsOf 3 = 1 := by kernel_rfl
theorem cells30 : Try.prog.cellsOf 30 = 1 := by kernel_rfl

/-- One deed's four cells. -/
theorem open_deed {H : Type} {enc : TypeId × Value → H} {w : World} {base : Nat} {spare : Nat → Bool} {held : Bool} {a : Addr} {n : Nat} {cs : List Value} {x : DataW H × List MemPlace}
    (hc : w.cells? base a 4 = some cs) (ht : DataW.trod enc Try.prog w base spare held n 32 cs = some x) :
    ∃ k0 w0 n0 u0 : Int, w.cell? (a.add 0) = some (.int .i64 k0) ∧ w.cell? (a.add 1) = some (.int .i64 w0) ∧ w.cell? (a.add 2) = some (.int .i64 n0) ∧ w.cell? (a.add 3) = some (.int .u64 u0) ∧
      (Lit.int .i64 w0).wf = true ∧ (Lit.int .i64 n0).wf = true ∧ (Lit.int .u64 u0).wf = true := by
  obtain ⟨_, hlen, hcell⟩ := World.cells?_some hc
  obtain ⟨y0, y1, y2, y3, m, _, hl, h0, h1, h2, h3⟩ := trod_struct4 Try.underlying32 ht
  obtain ⟨k0, e0, _, _⟩ := DataW.trod_int Try.underlying3 h0
  obtain ⟨w0, e1, _, q1⟩ := DataW.trod_int Try.underlying3 h1
  obtain ⟨n0, e2, _, q2⟩ := DataW.trod_int Try.underlying3 h2
  obtain ⟨u0, e3, _, q3⟩ := DataW.trod_int Try.underlying30 h3
  match cs, hlen with
  | [c0, c1, c2, c3], _ =>
    simp [cells3, cells30] at e0 e1 e2 e3
    subst e0 e1 e2 e3
    exact ⟨k0, w0, n0, u0, hcell 0 (by omega), hcell 1 (by omega), hcell 2 (by omega), hcell 3 (by omega), q1, q2, q3⟩

theorem open_deeds {H : Type} {enc : TypeId × Value → H} {w : World} {held : Bool} {ao : Option Addr} {len cap : Nat} {d : DataW H} {p : List MemPlace}
    (h : DataW.Trod enc Try.prog w 0 (fun _ => true) held 22 (.slice ao len cap) d p) : len ≤ maxLen ∧ ∃ (b off : Nat) (K W N U : Nat → Int), Deeds w ao len b off K W N U := by
  obtain ⟨fuel, hf⟩ := h
  rcases open_slice Try.underlying22 hf with ⟨hcs, _⟩ | ⟨a, len', cap', m, n, D, Pl, hcs, _, hl, hm, hmm, _, hx⟩
  · simp [Value.cells] at hcs
    obtain ⟨rfl, rfl, rfl⟩ := hcs
    exact ⟨by simp, 0, 0, fun _ => 0, fun _ => 0, fun _ => 0, fun _ => 0, ⟨fun h => by omega, fun i hi => by omega, fun i hi => by omega, fun i hi => by omega, fun i hi => by omega, fun i hi => by omega, fun i hi => by omega, fun i hi => by omega⟩⟩
  · simp [Value.cells] at hcs
    obtain ⟨rfl, rfl, rfl⟩ := hcs
    simp only [if_true] at hmm
    subst hmm
    rw [cells32] at hx
    have hall : ∀ i, i < len → ∃ q : Int × Int × Int × Int, w.cell? (a.add (i * 4)) = some (.int .i64 q.1) ∧ w.cell? (a.add (i * 4 + 1)) = some (.int .i64 q.2.1) ∧ w.cell? (a.add (i * 4 + 2)) = some (.int .i64 q.2.2.1) ∧ w.cell? (a.add (i * 4 + 3)) = some (.int .u64 q.2.2.2) ∧
        (Lit.int .i64 q.2.1).wf = true ∧ (Lit.int .i64 q.2.2.1).wf = true ∧ (Lit.int .u64 q.2.2.2).wf = true := by
      intro i hi
      obtain ⟨cs', h1, h2⟩ := hx i (by omega)
      obtain ⟨k0, w0, n0, u0, g0, g1, g2, g3, q1, q2, q3⟩ := open_deed h1 h2
      rw [add_add] at g0 g1 g2 g3
      exact ⟨(k0, w0, n0, u0), g0, g1, g2, g3, q1, q2, q3⟩
    obtain ⟨f, hf'⟩ := choose_lt (α := Int × Int × Int × Int) hall
    refine ⟨by omega, a.block, a.off, fun i => (f i).1, fun i => (f i).2.1, fun i => (f i).2.2.1, fun i => (f i).2.2.2, ?_⟩
    by_cases h0 : 0 < len
    · obtain ⟨b, off, spot⟩ := a
      have hspot : spot = none := by simpa [Addr.add] using World.cell?_spot (hf' 0 h0).1
      subst hspot
      have hb := World.block_lt_of_cell? w _ (hf' 0 h0).1
      refine ⟨fun _ => ⟨rfl, by simpa [Addr.add] using hb⟩, fun i hi => ?_, fun i hi => ?_, fun i hi => ?_, fun i hi => ?_, fun i hi => bounds_i64 (hf' i hi).2.2.2.2.1, fun i hi => bounds_i64 (hf' i hi).2.2.2.2.2.1, fun i hi => bounds_u64 (hf' i hi).2.2.2.2.2.2⟩
      · have := (hf' i hi).1; rwa [Go.WideShapes.add_plain] at this
      · have := (hf' i hi).2.1; rwa [Go.WideShapes.add_plain] at this
      · have := (hf' i hi).2.2.1; rwa [Go.WideShapes.add_plain] at this
      · have := (hf' i hi).2.2.2.1; rwa [Go.WideShapes.add_plain] at this
    · exact ⟨fun h => by omega, fun i hi => by omega, fun i hi => by omega, fun i hi => by omega, fun i hi => by omega, fun i hi => by omega, fun i hi => by omega, fun i hi => by omega⟩
end Go.Proofs.Ytkikoamaceajcaa
