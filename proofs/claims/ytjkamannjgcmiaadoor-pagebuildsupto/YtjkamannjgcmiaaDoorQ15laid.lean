/- Own text: from the row's list to the rules' cells. -/
import Derived.Test.YtjkamannjgcmiaaDoorG24x
import Derived.Test.YtjkamannjgcmiaaDoorRows
import Derived.Test.YtjkamannjgcmiaaDoorCards
import Derived.Test.YtjkamannjgcmiaaDoorTie
import Derived.ProofKit
import Derived.LaidMore
import Derived.OpenShut
import Derived.Stop.Joined
import Derived.Lib.LaidTab
import Derived.Lib.LaidU8
namespace Go.Proofs.YtjkamannjgcmiaaDoor
open Go.ChangeShapes Go.WideShapes Go.ChangeAt Go.RowKit
set_option linter.unusedSimpArgs false
set_option maxRecDepth 20000
set_option linter.unusedVariables false

theorem gRul : Tryd.prog.globalNamed (Rows.pageParsesRow.laid.map (·.1))[0] = some 1 := by kernel_rfl
theorem tRul : (Tryd.prog.globals[1]?).map (·.type) = some 128 := by kernel_rfl
theorem lc3 : Tryd.prog.cellsOf 3 = 1 := by kernel_rfl
theorem lc4 : Tryd.prog.cellsOf 4 = 1 := by kernel_rfl
theorem lc32 : Tryd.prog.cellsOf 119 = 1 := by kernel_rfl
theorem lcR : Tryd.prog.cellsOf 121 = 5 := by kernel_rfl
theorem lcT : Tryd.prog.cellsOf 128 = 20 := by kernel_rfl
theorem block_of_var {W : World} {s : String} {g : Nat} {cs : Array Value} (hg : Tryd.prog.globalNamed s = some g) (hv : W.var? Tryd.prog s = some cs) : ∃ t fz, W.heap[g]? = some (.cells cs t fz) := by
  simp only [World.var?, hg, Option.bind_some] at hv
  split at hv
  · rename_i c t fz he
    simp only [Option.some.injEq] at hv
    subst hv
    exact ⟨t, fz, he⟩
  · cases hv
section
variable {H : Type} {enc : TypeId × Value → H} {w : World} {base : Nat} {sp : Nat → Bool} {held : Bool} {fuel : Nat} {cs : List Value} {p : List MemPlace}
/-- A rule that reads so holds these cells. -/
theorem rule_cells {a b c e : Int} {d : Bool} (h : DataW.trod enc Tryd.prog w base sp held fuel 121 cs = some (.agg [.lit (.int .i64 a), .lit (.int .i64 b), .lit (.int .u32 c), .lit (.bool d), .lit (.int .u32 e)], p)) :
    cs = [.int .i64 a, .int .i64 b, .int .u32 c, .bool d, .int .u32 e] := by
  obtain ⟨xs, n, rfl, hx, hl, hxl, hall⟩ := DataW.trod_struct Tryd.underlying121 h
  rw [lcR] at hl
  have hxs := congrArg Prod.fst hx
  simp only [DataW.agg.injEq] at hxs
  have h0 : DataW.trod enc Tryd.prog w base sp held n 3 ((cs.drop 0).take (Tryd.prog.cellsOf 3)) = xs[0]? := hall 0 _ rfl
  have h1 : DataW.trod enc Tryd.prog w base sp held n 3 ((cs.drop 1).take (Tryd.prog.cellsOf 3)) = xs[1]? := hall 1 _ rfl
  have h2 : DataW.trod enc Tryd.prog w base sp held n 119 ((cs.drop 2).take (Tryd.prog.cellsOf 119)) = xs[2]? := hall 2 _ rfl
  have h3 : DataW.trod enc Tryd.prog w base sp held n 4 ((cs.drop 3).take (Tryd.prog.cellsOf 4)) = xs[3]? := hall 3 _ rfl
  have h4 : DataW.trod enc Tryd.prog w base sp held n 119 ((cs.drop 4).take (Tryd.prog.cellsOf 119)) = xs[4]? := hall 4 _ rfl
  match cs, hl, xs, hxl, hxs with
  | [c0, c1, c2, c3, c4], _, [x0, x1, x2, x3, x4], _, hxs =>
    simp only [lc3, lc4, lc32, List.drop_zero, List.drop_succ_cons, List.take_succ_cons, List.take_zero, List.getElem?_cons_zero, List.getElem?_cons_succ] at h0 h1 h2 h3 h4
    simp only [List.map_cons, List.map_nil, List.cons.injEq, and_true] at hxs
    obtain ⟨z0, e0, f0, _⟩ := DataW.trod_int Tryd.underlying3 h0
    obtain ⟨z1, e1, f1, _⟩ := DataW.trod_int Tryd.underlying3 h1
    obtain ⟨z2, e2, f2, _⟩ := DataW.trod_int Tryd.underlying119 h2
    obtain ⟨z3, e3, f3⟩ := DataW.trod_bool Tryd.underlying4 h3
    obtain ⟨z4, e4, f4, _⟩ := DataW.trod_int Tryd.underlying119 h4
    subst f0 f1 f2 f3 f4
    simp only [DataW.lit.injEq, Lit.int.injEq, Lit.bool.injEq, true_and] at hxs
    obtain ⟨g0, g1, g2, g3, g4⟩ := hxs
    subst g0 g1 g2 g3 g4
    simp only [List.cons.injEq, and_true] at e0 e1 e2 e3 e4
    rw [e0, e1, e2, e3, e4]
end
/-- What the row's list gives: the rules' cells. -/
theorem rules_of_laid {W : World} (h : laidMetH Tryd.prog Rows.pageParsesRow.laid W) : S3.RulesAt W := by
  rw [MakeChecks.laidMetH_plain _ _ _ (by kernel_rfl)] at h
  obtain ⟨ps, ⟨g0, t0, cs0, f0, p0, q0, hg0, ht0, hv0, hd0, _, _⟩, _, _⟩ := h
  obtain rfl := Option.some.inj (gRul.symm.trans hg0)
  obtain rfl := Option.some.inj (tRul.symm.trans ht0)
  obtain ⟨t, fz, hb⟩ := block_of_var hg0 hv0
  have hlen : cs0.toList.length = 20 := by
    obtain ⟨xs, m1, _, _, hlen, _, _⟩ := DataW.trod_array Tryd.underlying128 hd0
    rw [hlen, lcT]
  have key : cs0.toList = S3.rulesA.toList := by
    obtain ⟨k0, d0, r0, e0, t0⟩ := Lib.array_elem Tryd.underlying128 hd0 0 (by decide)
    obtain ⟨k1, d1, r1, e1, t1⟩ := Lib.array_elem Tryd.underlying128 hd0 1 (by decide)
    obtain ⟨k2, d2, r2, e2, t2⟩ := Lib.array_elem Tryd.underlying128 hd0 2 (by decide)
    obtain ⟨k3, d3, r3, e3, t3⟩ := Lib.array_elem Tryd.underlying128 hd0 3 (by decide)
    simp only [List.getElem?_cons_zero, List.getElem?_cons_succ, Option.some.injEq] at e0 e1 e2 e3
    subst e0 e1 e2 e3
    rw [lcR] at t0 t1 t2 t3
    have a0 := rule_cells t0
    have a1 := rule_cells t1
    have a2 := rule_cells t2
    have a3 := rule_cells t3
    generalize cs0.toList = l at *
    have hsplit : l = (l.drop (0 * 5)).take 5 ++ ((l.drop (1 * 5)).take 5 ++ ((l.drop (2 * 5)).take 5 ++ (l.drop (3 * 5)).take 5)) := by
      match l, hlen with
      | [x0, x1, x2, x3, x4, x5, x6, x7, x8, x9, x10, x11, x12, x13, x14, x15, x16, x17, x18, x19], _ => rfl
    rw [hsplit, a0, a1, a2, a3]
    rfl
  exact ⟨t, fz, by rw [hb]; congr 2; exact Array.toList_inj.1 key⟩
theorem rules_of_laidL {W : World} (h : laidMetH Tryd.prog Rows.pageLacesRow.laid W) : S3.RulesAt W := rules_of_laid h
theorem rules_of_laidB {W : World} (h : laidMetH Tryd.prog Rows.pageBuildsUptoRow.laid W) : S3.RulesAt W := rules_of_laid h
theorem rules_of_laidK {W : World} (h : laidMetH Tryd.prog Rows.pageBackUptoRow.laid W) : S3.RulesAt W := rules_of_laid h
theorem rules_of_laidS {W : World} (h : laidMetH Tryd.prog Rows.pageSpoiltUptoRow.laid W) : S3.RulesAt W := rules_of_laid h

end Go.Proofs.YtjkamannjgcmiaaDoor
