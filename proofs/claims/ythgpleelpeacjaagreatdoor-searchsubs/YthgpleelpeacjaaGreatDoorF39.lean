/- Own text. -/
import Derived.LaidMore
import Derived.Stop.Joined
import Derived.Lib.LaidTab
import Derived.Lib.LaidU8
import Derived.Test.YthgpleelpeacjaaGreatDoorF20
import Derived.Test.YthgpleelpeacjaaGreatDoorCards
import Derived.Test.YthgpleelpeacjaaGreatDoorTie
set_option linter.unusedSimpArgs false
set_option linter.unusedVariables false
set_option maxRecDepth 20000
set_option maxHeartbeats 12800000
namespace Go.Proofs.YthgpleelpeacjaaGreatDoor
open Go.ChangeShapes Go.WideShapes Go.ChangeAt Go.RowKit
theorem g_b64 : Tryz.prog.globalNamed (Rows.searchLessRow.laid.map (·.1))[1] = some 4 := by kernel_rfl
theorem t_b64 : (Tryz.prog.globals[4]?).map (·.type) = some 237 := by kernel_rfl
theorem g_siz : Tryz.prog.globalNamed (Rows.searchLessRow.laid.map (·.1))[2] = some 0 := by kernel_rfl
theorem t_siz : (Tryz.prog.globals[0]?).map (·.type) = some 183 := by kernel_rfl
theorem g_rat : Tryz.prog.globalNamed (Rows.searchLessRow.laid.map (·.1))[3] = some 1 := by kernel_rfl
theorem t_rat : (Tryz.prog.globals[1]?).map (·.type) = some 183 := by kernel_rfl
theorem g_wid : Tryz.prog.globalNamed (Rows.searchLessRow.laid.map (·.1))[4] = some 2 := by kernel_rfl
theorem t_wid : (Tryz.prog.globals[2]?).map (·.type) = some 184 := by kernel_rfl
theorem lc3 : Tryz.prog.cellsOf 3 = 1 := by kernel_rfl
theorem lc5 : Tryz.prog.cellsOf 5 = 1 := by kernel_rfl
theorem lcS : Tryz.prog.cellsOf 183 = 16 := by kernel_rfl
theorem lcW : Tryz.prog.cellsOf 184 = 8 := by kernel_rfl
theorem lcB : Tryz.prog.cellsOf 237 = 64 := by kernel_rfl
theorem block_of_var {W : World} {s : String} {g : Nat} {cs : Array Value} (hg : Tryz.prog.globalNamed s = some g) (hv : W.var? Tryz.prog s = some cs) : ∃ t fz, W.heap[g]? = some (.cells cs t fz) := by
 simp only [World.var?, hg, Option.bind_some] at hv
 split at hv
 ·rename_i c t fz he
  simp only [Option.some.injEq] at hv
  subst hv
  exact ⟨t, fz, he⟩
 ·cases hv
theorem tab_of {W : World} {g : Nat} {cs : Array Value} {t : TypeId} {fz : _} {T : List Int} (hb : W.heap[g]? = some (.cells cs t fz)) (k : cs.toList = T.map fun z => Value.int .i64 z) : IntTab g T W := by
 intro j hj
 rw [cell_row hb, ← Array.getElem?_toList, k, List.getElem?_map, List.getElem?_eq_getElem hj, List.getD_eq_getElem?_getD, List.getElem?_eq_getElem hj]
 rfl
def Lay12 (w : World) : Prop := Tz w ∧ Lay w
theorem lay12_of {W : World} (h : laidMetH Tryz.prog Rows.searchLessRow.laid W) : Lay12 W := by
 rw [MakeChecks.laidMetH_plain _ _ _ (by kernel_rfl)] at h
 obtain ⟨ps, ⟨g0, t0, cs0, f0, p0, q0, hg0, ht0, hv0, hd0, hr0, _⟩, _, _⟩ := h
 obtain ⟨g1, t1, cs1, f1, p1, q1, hg1, ht1, hv1, hd1, hr1, _⟩ := hr0
 obtain ⟨g2, t2, cs2, f2, p2, q2, hg2, ht2, hv2, hd2, hr2, _⟩ := hr1
 obtain ⟨g3, t3, cs3, f3, p3, q3, hg3, ht3, hv3, hd3, hr3, _⟩ := hr2
 obtain ⟨g4, t4, cs4, f4, p4, q4, hg4, ht4, hv4, hd4, _, _⟩ := hr3
 obtain rfl := Option.some.inj (g_b64.symm.trans hg1)
 obtain rfl := Option.some.inj (t_b64.symm.trans ht1)
 obtain rfl := Option.some.inj (g_siz.symm.trans hg2)
 obtain rfl := Option.some.inj (t_siz.symm.trans ht2)
 obtain rfl := Option.some.inj (g_rat.symm.trans hg3)
 obtain rfl := Option.some.inj (t_rat.symm.trans ht3)
 obtain rfl := Option.some.inj (g_wid.symm.trans hg4)
 obtain rfl := Option.some.inj (t_wid.symm.trans ht4)
 obtain ⟨u1, z1, b1⟩ := block_of_var hg1 hv1
 obtain ⟨u2, z2, b2⟩ := block_of_var hg2 hv2
 obtain ⟨u3, z3, b3⟩ := block_of_var hg3 hv3
 obtain ⟨u4, z4, b4⟩ := block_of_var hg4 hv4
 have hd1' : DataW.trod _ Tryz.prog W 0 _ _ f1 237 cs1.toList = some (Go.Lib.tabData .u8 (Go.Lib.deBruijn64tab.map fun (n : Nat) => (n : Int)), p1) := hd1
 have hd2' : DataW.trod _ Tryz.prog W 0 _ _ f2 183 cs2.toList = some (Go.Lib.tabData .i64 sizT, p2) := hd2
 have hd3' : DataW.trod _ Tryz.prog W 0 _ _ f3 183 cs3.toList = some (Go.Lib.tabData .i64 ratT, p3) := hd3
 have hd4' : DataW.trod _ Tryz.prog W 0 _ _ f4 184 cs4.toList = some (Go.Lib.tabData .i64 widT, p4) := hd4
 refine ⟨?_, tab_of b2 (Go.Lib.cells_of_tab Tryz.underlying183 Tryz.underlying3 lc3 lcS hd2'), tab_of b3 (Go.Lib.cells_of_tab Tryz.underlying183 Tryz.underlying3 lc3 lcS hd3'), tab_of b4 (Go.Lib.cells_of_tab Tryz.underlying184 Tryz.underlying3 lc3 lcW hd4'), trivial⟩
 have k1 := Go.Lib.cells_of_tab Tryz.underlying237 Tryz.underlying5 lc5 lcB hd1'
 intro j hj
 have hj : j < 64 := by rw [tab_len] at hj; exact hj
 rw [cell_row b1, ← Array.getElem?_toList, k1, List.getElem?_map, List.getElem?_map]
 have hl : Go.Lib.deBruijn64tab.length = 64 := by decide
 rw [List.getElem?_eq_getElem (by omega), List.getD_eq_getElem?_getD, List.getElem?_eq_getElem (by omega)]
 rfl
theorem lay12_ofS {W : World} (h : laidMetH Tryz.prog Rows.searchSubsRow.laid W) : Lay12 W := lay12_of h
end Go.Proofs.YthgpleelpeacjaaGreatDoor
