/- Own text: from the rows' list to the two tables' cells. -/
import Derived.Test.YtolmijpecomkcaaDoorDvalue
import Derived.Test.YtolmijpecomkcaaDoorCards
import Derived.Test.YtolmijpecomkcaaDoorTie
import Derived.ProofKit
import Derived.LaidMore
import Derived.OpenShut
import Derived.Stop.Joined
import Derived.Lib.LaidU8
namespace Go.Proofs.YtolmijpecomkcaaDoor.Dg
open Go.ChangeShapes Go.WideShapes Go.ChangeAt Go.RowKit
set_option linter.unusedSimpArgs false
set_option linter.unusedVariables false

theorem own : ownKnob Tryd.prog.godebug = none := by kernel_rfl
theorem gSines : Tryd.prog.globalNamed (Rows.pcmPacksRow.named.headD Rows.pcmPacksRow.func) = some 1 := by kernel_rfl
theorem gTurns : Tryd.prog.globalNamed (Rows.pcmPacksRow.named.getD 1 Rows.pcmPacksRow.func) = some 2 := by kernel_rfl
theorem tSines : (Tryd.prog.globals[1]?).map (·.type) = some 99 := by kernel_rfl
theorem tTurns : (Tryd.prog.globals[2]?).map (·.type) = some 101 := by kernel_rfl
theorem cells3 : Tryd.prog.cellsOf 3 = 1 := by kernel_rfl
theorem cells33 : Tryd.prog.cellsOf 72 = 1 := by kernel_rfl
theorem cells57 : Tryd.prog.cellsOf 100 = 4 := by kernel_rfl
theorem cells58 : Tryd.prog.cellsOf 101 = 16 := by kernel_rfl
theorem cells56 : Tryd.prog.cellsOf 99 = 64 := by kernel_rfl

theorem one_at {l : List Value} {i : Nat} {v : Value} (h : (l.drop i).take 1 = [v]) : l[i]? = some v := by
  have h1 : ((l.drop i).take 1)[0]? = some v := by rw [h]; rfl
  rw [List.getElem?_take, if_pos (by decide), List.getElem?_drop, Nat.add_zero] at h1
  exact h1

section
variable {H : Type} {enc : TypeId × Value → H} {w : World} {base : Nat} {sp : Nat → Bool} {held : Bool} {fuel : Nat} {cs : List Value} {p : List MemPlace}

/-- Cells that read as these numbers are they. -/
theorem sines_cells (h : DataW.trod enc Tryd.prog w base sp held fuel 99 cs = some (.agg (kL.map fun (n : Nat) => .lit (.int .u32 (n : Int))), p)) : cs = kL.map fun (n : Nat) => Value.int .u32 (n : Int) := by
  have hlen : cs.length = 64 := by
    obtain ⟨xs, m1, _, _, hlen, _, _⟩ := DataW.trod_array Tryd.underlying99 h
    rw [hlen, cells56]
  have hk : kL.length = 64 := by decide
  apply List.ext_getElem?
  intro i
  by_cases hi : i < 64
  · obtain ⟨f1, d1, q1, e1, t1⟩ := Lib.array_elem Tryd.underlying99 h i hi
    rw [List.getElem?_map, List.getElem?_eq_getElem (by omega)] at e1
    simp only [Option.map_some, Option.some.injEq] at e1
    subst e1
    rw [cells33, Nat.mul_one] at t1
    obtain ⟨z, e2, e3, _⟩ := DataW.trod_int Tryd.underlying72 t1
    have e4 := congrArg Prod.fst e3
    simp only [DataW.lit.injEq, Lit.int.injEq, true_and] at e4
    rw [one_at e2, ← e4, List.getElem?_map, List.getElem?_eq_getElem (by omega)]
    rfl
  · rw [List.getElem?_eq_none (by omega), List.getElem?_eq_none (by rw [List.length_map]; omega)]

theorem four_cells {a : List Nat} (ha : a.length = 4) (h : DataW.trod enc Tryd.prog w base sp held fuel 100 cs = some (.agg (a.map fun (n : Nat) => .lit (.int .i64 (n : Int))), p)) : cs = a.map fun (n : Nat) => Value.int .i64 (n : Int) := by
  have hlen : cs.length = 4 := by
    obtain ⟨xs, m1, _, _, hlen, _, _⟩ := DataW.trod_array Tryd.underlying100 h
    rw [hlen, cells57]
  apply List.ext_getElem?
  intro i
  by_cases hi : i < 4
  · obtain ⟨f1, d1, q1, e1, t1⟩ := Lib.array_elem Tryd.underlying100 h i hi
    rw [List.getElem?_map, List.getElem?_eq_getElem (by omega)] at e1
    simp only [Option.map_some, Option.some.injEq] at e1
    subst e1
    rw [cells3, Nat.mul_one] at t1
    obtain ⟨z, e2, e3, _⟩ := DataW.trod_int Tryd.underlying3 t1
    have e4 := congrArg Prod.fst e3
    simp only [DataW.lit.injEq, Lit.int.injEq, true_and] at e4
    rw [one_at e2, ← e4, List.getElem?_map, List.getElem?_eq_getElem (by omega)]
    rfl
  · rw [List.getElem?_eq_none (by omega), List.getElem?_eq_none (by rw [List.length_map]; omega)]

set_option maxRecDepth 20000 in
theorem turns_cells (h : DataW.trod enc Tryd.prog w base sp held fuel 101 cs = some (.agg [.agg ([7, 12, 17, 22].map fun (n : Nat) => .lit (.int .i64 (n : Int))), .agg ([5, 9, 14, 20].map fun (n : Nat) => .lit (.int .i64 (n : Int))), .agg ([4, 11, 16, 23].map fun (n : Nat) => .lit (.int .i64 (n : Int))), .agg ([6, 10, 15, 21].map fun (n : Nat) => .lit (.int .i64 (n : Int)))], p)) :
    cs = rL.map fun (n : Nat) => Value.int .i64 (n : Int) := by
  have hlen : cs.length = 16 := by
    obtain ⟨xs, m1, _, _, hlen, _, _⟩ := DataW.trod_array Tryd.underlying101 h
    rw [hlen, cells58]
  obtain ⟨k0, d0, r0, e0, t0⟩ := Lib.array_elem Tryd.underlying101 h 0 (by decide)
  obtain ⟨k1, d1, r1, e1, t1⟩ := Lib.array_elem Tryd.underlying101 h 1 (by decide)
  obtain ⟨k2, d2, r2, e2, t2⟩ := Lib.array_elem Tryd.underlying101 h 2 (by decide)
  obtain ⟨k3, d3, r3, e3, t3⟩ := Lib.array_elem Tryd.underlying101 h 3 (by decide)
  simp only [List.getElem?_cons_zero, List.getElem?_cons_succ, Option.some.injEq] at e0 e1 e2 e3
  subst e0 e1 e2 e3
  rw [cells57] at t0 t1 t2 t3
  have a0 := four_cells rfl t0
  have a1 := four_cells rfl t1
  have a2 := four_cells rfl t2
  have a3 := four_cells rfl t3
  have hsplit : cs = (cs.drop (0 * 4)).take 4 ++ ((cs.drop (1 * 4)).take 4 ++ ((cs.drop (2 * 4)).take 4 ++ (cs.drop (3 * 4)).take 4)) := by
    match cs, hlen with
    | [x0, x1, x2, x3, x4, x5, x6, x7, x8, x9, x10, x11, x12, x13, x14, x15], _ => rfl
  rw [hsplit, a0, a1, a2, a3]
  rfl
end

theorem block_of_var {W : World} {s : String} {g : Nat} {cs : Array Value} (hg : Tryd.prog.globalNamed s = some g) (hv : W.var? Tryd.prog s = some cs) : ∃ t fz, W.heap[g]? = some (.cells cs t fz) := by
  simp only [World.var?, hg, Option.bind_some] at hv
  split at hv
  · rename_i c t fz he
    simp only [Option.some.injEq] at hv
    subst hv
    exact ⟨t, fz, he⟩
  · cases hv

/-- WHAT THE ROW's LIST GIVES: the tables' cells. -/
theorem tabs_of_laid {W : World} (h : laidMetH Tryd.prog Rows.pcmPacksRow.laid W) : TabsAt W := by
  rw [MakeChecks.laidMetH_plain _ _ _ (by kernel_rfl)] at h
  obtain ⟨ps, ⟨g0, t0, cs0, f0, p0, q0, hg0, ht0, hv0, hd0, hrest, _⟩, _, _⟩ := h
  obtain ⟨g1, t1, cs1, f1, p1, q1, hg1, ht1, hv1, hd1, _, _⟩ := hrest
  have hg0' : Tryd.prog.globalNamed (Rows.pcmPacksRow.named.getD 1 Rows.pcmPacksRow.func) = some g0 := hg0
  have hg1' : Tryd.prog.globalNamed (Rows.pcmPacksRow.named.headD Rows.pcmPacksRow.func) = some g1 := hg1
  obtain rfl := Option.some.inj (gTurns.symm.trans hg0')
  obtain rfl := Option.some.inj (gSines.symm.trans hg1')
  obtain rfl := Option.some.inj (tTurns.symm.trans ht0)
  obtain rfl := Option.some.inj (tSines.symm.trans ht1)
  obtain ⟨u0, z0, b0⟩ := block_of_var hg0 hv0
  obtain ⟨u1, z1, b1⟩ := block_of_var hg1 hv1
  have k0 := turns_cells hd0
  have k1 := sines_cells hd1
  refine ⟨⟨u1, z1, ?_⟩, ⟨u0, z0, ?_⟩⟩
  · rw [b1, ← k1, Array.toArray_toList]
  · rw [b0, ← k0, Array.toArray_toList]

end Go.Proofs.YtolmijpecomkcaaDoor.Dg
