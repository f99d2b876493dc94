/- Own text: the walk of the document's 'one': the chunk with which a text begins. -/
import Derived.Test.YtaepgjheknkojaaG7x
import Derived.Test.YtaepgjheknkojaaG6x
import Derived.Deep.RegionHeld3
namespace Go.Proofs.Ytaepgjheknkojaa
open Go.RowKit
set_option linter.unusedSimpArgs false
set_option linter.unusedVariables false

abbrev zeroK : Array Value := #[.string ⟨#[]⟩, .string ⟨#[]⟩, .int .i64 0]
abbrev chkC (c : Chk) : Array Value := #[.string c.id, .string c.body, .int .i64 c.pad]
abbrev chkV (c : Chk) : Value := .agg (chkC c)
theorem res_three {fn : Func} {p t u : Tmp} {ty : TypeId} (h : fn.results = #[.cell p ty, .tmp t, .tmp u]) (tmps : Array Value) (P : Program) (w : World) :
    (results fn tmps).run P w = ((asAddr (tmps.getD p undef)).run P w).andThen fun a w₁ => ((loadVar ty a).run P w₁).andThen fun x w₂ => .ok (.tuple #[x, tmps.getD t undef, tmps.getD u undef]) w₂ := by
  simp only [results, h]
  simp [Sem.run_bind, Result.andThen]
theorem infoK : (Try.prog.info? 66).map (·.size) = some 3 := by kernel_rfl
theorem ext_run (s : ByteArray) (a b : Nat) (h1 : a ≤ b) (h2 : b ≤ s.size) (w : World) : (Instr.slice 9 (.string s) (some (.int .i64 (a : Int))) (some (.int .i64 (b : Int))) none).run Try.prog w = .ok (.string (s.extract a b)) w := slice_run s a b h1 h2 w

/-- The answer's box with zeros. -/
structure Jk (w0 w : World) : Prop where
  res : w.heap[w0.heap.size]? = some (.cells zeroK 66 (0, 0))
  below : Below w0.heap.size w0 w
theorem Jk.new (w : World) : Jk w (w.alloc (.cells zeroK 66)) := ⟨heap_alloc_new _ _, (Below.refl _ _).alloc (Nat.le_refl _) _⟩
theorem Jk.next {w0 w w1 : World} (h : Jk w0 w) (hB : Below w.heap.size w w1) : Jk w0 w1 := ⟨by rw [hB.block _ (lt_of_block h.res)]; exact h.res, h.below.trans (hB.mono h.below.size)⟩
theorem Jk.c {w0 w : World} (h : Jk w0 w) (j : Nat) (v : Value) (hv : zeroK[j]? = some v) : w.cell? ⟨w0.heap.size, j, none⟩ = some v := by rw [cell_of_row _ _ _ _ _ _ h.res]; exact hv
theorem Jk.z {w0 w : World} (h : Jk w0 w) (j : Nat) : w.frozen? ⟨w0.heap.size, j, none⟩ = false := by
  have := h.res
  simp [World.frozen?, this]
/-- The chunk's box at Q, beside the answer's. -/
structure Kc (w0 : World) (Q : Nat) (c0 c1 c2 : Value) (w : World) : Prop where
  jk : Jk w0 w
  bq : w.heap[Q]? = some (.cells #[c0, c1, c2] 66 (0, 0))
  lo : w0.heap.size < Q
theorem Kc.new {w0 w : World} (h : Jk w0 w) (c0 c1 c2 : Value) : Kc w0 w.heap.size c0 c1 c2 (w.alloc (.cells #[c0, c1, c2] 66)).drew := ⟨h.next (((Below.refl _ _).alloc (Nat.le_refl _) _).drew), heap_alloc_new _ _, lt_of_block h.res⟩
theorem Kc.set {w0 w : World} {Q : Nat} {c0 c1 c2 : Value} (h : Kc w0 Q c0 c1 c2 w) (v : Value) : Kc w0 Q c0 c1 v (w.setCell ⟨Q, 2, none⟩ v) := by
  have hl := h.lo
  refine ⟨⟨?_, h.jk.below.setCell (by show w0.heap.size ≤ Q; omega) _⟩, ?_, hl⟩
  · rw [Below.heap_setCell _ _ _ _ (by show w0.heap.size ≠ Q; omega)]
    exact h.jk.res
  · rw [block_set _ _ _ _ _ _ h.bq]
    rfl
theorem Kc.c {w0 w : World} {Q : Nat} {c0 c1 c2 : Value} (h : Kc w0 Q c0 c1 c2 w) (j : Nat) (v : Value) (hv : (#[c0, c1, c2] : Array Value)[j]? = some v) : w.cell? ⟨Q, j, none⟩ = some v := by rw [cell_of_row _ _ _ _ _ _ h.bq]; exact hv
theorem Kc.z {w0 w : World} {Q : Nat} {c0 c1 c2 : Value} (h : Kc w0 Q c0 c1 c2 w) (j : Nat) : w.frozen? ⟨Q, j, none⟩ = false := by
  have := h.bq
  simp [World.frozen?, this]
theorem byte_getD (s : ByteArray) (m : Nat) (h : m < s.size) : ((bytesOf s).getD m 0) = (s[m]'h).toNat := by
  rw [List.getD_eq_getElem?_getD, List.getElem?_eq_getElem (by rw [bytesOf_length]; exact h), Option.getD_some, bytesOf_get s m h]

end Go.Proofs.Ytaepgjheknkojaa
