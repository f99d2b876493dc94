/- Own text. -/
import Derived.LaidMore
import Derived.Stop.Joined
import Derived.Lib.LaidTab
import Derived.Lib.LaidU8
import Derived.Test.YtfpfabmbipmipaaGreatDoorB29
import Derived.Test.YtfpfabmbipmipaaGreatDoorCards
import Derived.Test.YtfpfabmbipmipaaGreatDoorTie
set_option linter.unusedSimpArgs false
set_option linter.unusedVariables false
set_option maxRecDepth 20000
set_option maxHeartbeats 12800000
namespace Go.Proofs.YtfpfabmbipmipaaGreatDoor
open Go.ChangeShapes Go.WideShapes Go.ChangeAt Go.RowKit
theorem gRul : Tryz.prog.globalNamed (Rows.frameBackRow.laid.map (·.1))[0] = some 3 := by kernel_rfl
theorem gSiz : Tryz.prog.globalNamed (Rows.frameBackRow.laid.map (·.1))[1] = some 0 := by kernel_rfl
theorem gRat : Tryz.prog.globalNamed (Rows.frameBackRow.laid.map (·.1))[2] = some 1 := by kernel_rfl
theorem gWid : Tryz.prog.globalNamed (Rows.frameBackRow.laid.map (·.1))[3] = some 2 := by kernel_rfl
theorem tSiz : (Tryz.prog.globals[0]?).map (·.type) = some 171 := by kernel_rfl
theorem tRat : (Tryz.prog.globals[1]?).map (·.type) = some 171 := by kernel_rfl
theorem tWid : (Tryz.prog.globals[2]?).map (·.type) = some 172 := by kernel_rfl
theorem tRul : (Tryz.prog.globals[3]?).map (·.type) = some 225 := by kernel_rfl
theorem lc3 : Tryz.prog.cellsOf 3 = 1 := by kernel_rfl
theorem lc4 : Tryz.prog.cellsOf 4 = 1 := by kernel_rfl
theorem lc193 : Tryz.prog.cellsOf 193 = 1 := by kernel_rfl
theorem lc195 : Tryz.prog.cellsOf 195 = 5 := by kernel_rfl
theorem lc225 : Tryz.prog.cellsOf 225 = 20 := by kernel_rfl
theorem lc171 : Tryz.prog.cellsOf 171 = 16 := by kernel_rfl
theorem lc172 : Tryz.prog.cellsOf 172 = 8 := by kernel_rfl
theorem block_of_var {W : World} {s : String} {g : Nat} {cs : Array Value} (hg : Tryz.prog.globalNamed s = some g) (hv : W.var? Tryz.prog s = some cs) : ∃ t fz, W.heap[g]? = some (.cells cs t fz) := by
 simp only [World.var?, hg, Option.bind_some] at hv
 split at hv
 ·rename_i c t fz he
  simp only [Option.some.injEq] at hv
  subst hv
  exact ⟨t, fz, he⟩
 ·cases hv
theorem tab_of {W : World} {g : Nat} {cs : Array Value} {t : TypeId} {fz : _} {T : List Int} (hb : W.heap[g]? = some (.cells cs t fz)) (k : cs.toList = T.map fun z => Value.int .i64 z) : IntTab g T W := by
 intro j hj
 rw [cell_row hb, <- Array.getElem?_toList, k, List.getElem?_map, List.getElem?_eq_getElem hj, List.getD_eq_getElem?_getD, List.getElem?_eq_getElem hj]
 rfl
section
variable {H : Type} {enc : TypeId × Value -> H} {w : World} {base : Nat} {sp : Nat -> Bool} {held : Bool} {fuel : Nat} {cs : List Value} {p : List MemPlace}
theorem rule_cells {a b c e : Int} {d : Bool} (h : DataW.trod enc Tryz.prog w base sp held fuel 195 cs = some (.agg [.lit (.int .i64 a), .lit (.int .i64 b), .lit (.int .u32 c), .lit (.bool d), .lit (.int .u32 e)], p)) :
  cs = [.int .i64 a, .int .i64 b, .int .u32 c, .bool d, .int .u32 e] := by
 obtain ⟨xs, n, rfl, hx, hl, hxl, hall⟩ := DataW.trod_struct Tryz.underlying195 h
 rw [lc195] at hl
 have hxs := congrArg Prod.fst hx
 simp only [DataW.agg.injEq] at hxs
 have h0 : DataW.trod enc Tryz.prog w base sp held n 3 ((cs.drop 0).take (Tryz.prog.cellsOf 3)) = xs[0]? := hall 0 _ rfl
 have h1 : DataW.trod enc Tryz.prog w base sp held n 3 ((cs.drop 1).take (Tryz.prog.cellsOf 3)) = xs[1]? := hall 1 _ rfl
 have h2 : DataW.trod enc Tryz.prog w base sp held n 193 ((cs.drop 2).take (Tryz.prog.cellsOf 193)) = xs[2]? := hall 2 _ rfl
 have h3 : DataW.trod enc Tryz.prog w base sp held n 4 ((cs.drop 3).take (Tryz.prog.cellsOf 4)) = xs[3]? := hall 3 _ rfl
 have h4 : DataW.trod enc Tryz.prog w base sp held n 193 ((cs.drop 4).take (Tryz.prog.cellsOf 193)) = xs[4]? := hall 4 _ rfl
 match cs, hl, xs, hxl, hxs with
 | [c0, c1, c2, c3, c4], _, [x0, x1, x2, x3, x4], _, hxs =>
  simp only [lc3, lc4, lc193, List.drop_zero, List.drop_succ_cons, List.take_succ_cons, List.take_zero, List.getElem?_cons_zero, List.getElem?_cons_succ] at h0 h1 h2 h3 h4
  simp only [List.map_cons, List.map_nil, List.cons.injEq, and_true] at hxs
  obtain ⟨z0, e0, f0, _⟩ := DataW.trod_int Tryz.underlying3 h0
  obtain ⟨z1, e1, f1, _⟩ := DataW.trod_int Tryz.underlying3 h1
  obtain ⟨z2, e2, f2, _⟩ := DataW.trod_int Tryz.underlying193 h2
  obtain ⟨z3, e3, f3⟩ := DataW.trod_bool Tryz.underlying4 h3
  obtain ⟨z4, e4, f4, _⟩ := DataW.trod_int Tryz.underlying193 h4
  subst f0 f1 f2 f3 f4
  simp only [DataW.lit.injEq, Lit.int.injEq, Lit.bool.injEq, true_and] at hxs
  obtain ⟨g0, g1, g2, g3, g4⟩ := hxs
  subst g0 g1 g2 g3 g4
  simp only [List.cons.injEq, and_true] at e0 e1 e2 e3 e4
  rw [e0, e1, e2, e3, e4]
end
theorem lay_of_laid {W : World} (h : laidMetH Tryz.prog Rows.frameBackRow.laid W) : Lay W := by
 rw [MakeChecks.laidMetH_plain _ _ _ (by kernel_rfl)] at h
 obtain ⟨ps, ⟨g0, t0, cs0, f0, p0, q0, hg0, ht0, hv0, hd0, hr0, _⟩, _, _⟩ := h
 obtain ⟨g1, t1, cs1, f1, p1, q1, hg1, ht1, hv1, hd1, hr1, _⟩ := hr0
 obtain ⟨g2, t2, cs2, f2, p2, q2, hg2, ht2, hv2, hd2, hr2, _⟩ := hr1
 obtain ⟨g3, t3, cs3, f3, p3, q3, hg3, ht3, hv3, hd3, _, _⟩ := hr2
 obtain rfl := Option.some.inj (gRul.symm.trans hg0)
 obtain rfl := Option.some.inj (tRul.symm.trans ht0)
 obtain rfl := Option.some.inj (gSiz.symm.trans hg1)
 obtain rfl := Option.some.inj (tSiz.symm.trans ht1)
 obtain rfl := Option.some.inj (gRat.symm.trans hg2)
 obtain rfl := Option.some.inj (tRat.symm.trans ht2)
 obtain rfl := Option.some.inj (gWid.symm.trans hg3)
 obtain rfl := Option.some.inj (tWid.symm.trans ht3)
 obtain ⟨u1, z1, b1⟩ := block_of_var hg1 hv1
 obtain ⟨u2, z2, b2⟩ := block_of_var hg2 hv2
 obtain ⟨u3, z3, b3⟩ := block_of_var hg3 hv3
 have hd1' : DataW.trod _ Tryz.prog W 0 _ _ f1 171 cs1.toList = some (Go.Lib.tabData .i64 sizT, p1) := hd1
 have hd2' : DataW.trod _ Tryz.prog W 0 _ _ f2 171 cs2.toList = some (Go.Lib.tabData .i64 ratT, p2) := hd2
 have hd3' : DataW.trod _ Tryz.prog W 0 _ _ f3 172 cs3.toList = some (Go.Lib.tabData .i64 widT, p3) := hd3
 refine ⟨tab_of b1 (Go.Lib.cells_of_tab Tryz.underlying171 Tryz.underlying3 lc3 lc171 hd1'), tab_of b2 (Go.Lib.cells_of_tab Tryz.underlying171 Tryz.underlying3 lc3 lc171 hd2'), tab_of b3 (Go.Lib.cells_of_tab Tryz.underlying172 Tryz.underlying3 lc3 lc172 hd3'), ?_⟩
 obtain ⟨t, fz, hb⟩ := block_of_var hg0 hv0
 have hlen : cs0.toList.length = 20 := by
  obtain ⟨xs, m1, _, _, hlen, _, _⟩ := DataW.trod_array Tryz.underlying225 hd0
  rw [hlen, lc225]
 have key : cs0.toList = S3.rulesA.toList := by
  obtain ⟨k0, d0, r0, e0, t0⟩ := Lib.array_elem Tryz.underlying225 hd0 0 (by decide)
  obtain ⟨k1, d1, r1, e1, t1⟩ := Lib.array_elem Tryz.underlying225 hd0 1 (by decide)
  obtain ⟨k2, d2, r2, e2, t2⟩ := Lib.array_elem Tryz.underlying225 hd0 2 (by decide)
  obtain ⟨k3, d3, r3, e3, t3⟩ := Lib.array_elem Tryz.underlying225 hd0 3 (by decide)
  simp only [List.getElem?_cons_zero, List.getElem?_cons_succ, Option.some.injEq] at e0 e1 e2 e3
  subst e0 e1 e2 e3
  rw [lc195] at t0 t1 t2 t3
  have a0 := rule_cells t0
  have a1 := rule_cells t1
  have a2 := rule_cells t2
  have a3 := rule_cells t3
  generalize cs0.toList = l at *
  have hsplit : l = (l.drop (0 * 5)).take 5 ++ ((l.drop (1 * 5)).take 5 ++ ((l.drop (2 * 5)).take 5 ++ (l.drop (3 * 5)).take 5)) := by
   match l, hlen with
   | [x0, x1, x2, x3, x4, x5, x6, x7, x8, x9, x10, x11, x12, x13, x14, x15, x16, x17, x18, x19], _ => rfl
  rw [hsplit, a0, a1, a2, a3]
  rfl
 exact ⟨t, fz, by rw [hb]; congr 2; exact Array.toList_inj.1 key⟩
end Go.Proofs.YtfpfabmbipmipaaGreatDoor
