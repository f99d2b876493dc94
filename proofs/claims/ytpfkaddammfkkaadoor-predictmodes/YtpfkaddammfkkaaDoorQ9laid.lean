/- Own text: from the row's list to the table's cells. -/
import Derived.Test.YtpfkaddammfkkaaDoorQ9was
import Derived.Test.YtpfkaddammfkkaaDoorRows
import Derived.Test.YtpfkaddammfkkaaDoorCards
import Derived.Test.YtpfkaddammfkkaaDoorTie
import Derived.ProofKit
import Derived.LaidMore
import Derived.OpenShut
import Derived.Stop.Joined
import Derived.Lib.LaidTab
namespace Go.Proofs.YtpfkaddammfkkaaDoor
open Go.ChangeShapes Go.WideShapes Go.ChangeAt Go.RowKit
set_option linter.unusedSimpArgs false
set_option linter.unusedVariables false

theorem gTab : Tryd.prog.globalNamed (Rows.predictFixedRow.named.getD 1 Rows.predictFixedRow.func) = some 1 := by kernel_rfl
theorem tTab : (Tryd.prog.globals[1]?).map (·.type) = some 69 := by kernel_rfl
theorem cellsU8 : Tryd.prog.cellsOf 5 = 1 := by kernel_rfl
theorem cellsTab : Tryd.prog.cellsOf 69 = 64 := by kernel_rfl
theorem block_of_var {W : World} {s : String} {g : Nat} {cs : Array Value} (hg : Tryd.prog.globalNamed s = some g) (hv : W.var? Tryd.prog s = some cs) : ∃ t fz, W.heap[g]? = some (.cells cs t fz) := by
  simp only [World.var?, hg, Option.bind_some] at hv
  split at hv
  · rename_i c t fz he
    simp only [Option.some.injEq] at hv
    subst hv
    exact ⟨t, fz, he⟩
  · cases hv
/-- What the row's list gives: the table's cells. -/
theorem tz_of_laid {W : World} (h : laidMetH Tryd.prog Rows.predictFixedRow.laid W) : Tz W := by
  rw [MakeChecks.laidMetH_plain _ _ _ (by kernel_rfl)] at h
  obtain ⟨ps, ⟨g0, t0, cs0, f0, p0, q0, hg0, ht0, hv0, hd0, hrest, _⟩, _, _⟩ := h
  obtain ⟨g1, t1, cs1, f1, p1, q1, hg1, ht1, hv1, hd1, _, _⟩ := hrest
  have hg1' : Tryd.prog.globalNamed (Rows.predictFixedRow.named.getD 1 Rows.predictFixedRow.func) = some g1 := hg1
  obtain rfl := Option.some.inj (gTab.symm.trans hg1')
  obtain rfl := Option.some.inj (tTab.symm.trans ht1)
  obtain ⟨u1, z1, b1⟩ := block_of_var hg1 hv1
  have hd1' : DataW.trod _ Tryd.prog W 0 _ _ f1 69 cs1.toList = some (Go.Lib.tabData .u8 (Go.Lib.deBruijn64tab.map fun (n : Nat) => (n : Int)), p1) := hd1
  have k1 := Go.Lib.cells_of_tab Tryd.underlying69 Tryd.underlying5 cellsU8 cellsTab hd1'
  intro j hj
  have hj : j < 64 := by rw [tab_len] at hj; exact hj
  rw [cell_row b1, ← Array.getElem?_toList, k1, List.getElem?_map, List.getElem?_map]
  have hl : Go.Lib.deBruijn64tab.length = 64 := by decide
  rw [List.getElem?_eq_getElem (by omega), List.getD_eq_getElem?_getD, List.getElem?_eq_getElem (by omega)]
  rfl

end Go.Proofs.YtpfkaddammfkkaaDoor
