/- Own text: the document's page while its laces are gathered. -/
import Derived.Test.YtjkamannjgcmiaaDoorG7x
import Derived.Test.YtjkamannjgcmiaaDoorG8x
import Derived.Test.YtjkamannjgcmiaaDoorG9x
namespace Go.Proofs.YtjkamannjgcmiaaDoor
open Go.RowKit
set_option linter.unusedSimpArgs false
set_option linter.unusedVariables false

theorem results_four {fn : Func} {p t u v : Tmp} {ty : TypeId} (h : fn.results = #[.cell p ty, .tmp t, .tmp u, .tmp v]) (tmps : Array Value) (P : Program) (w : World) :
    (results fn tmps).run P w = ((asAddr (tmps.getD p undef)).run P w).andThen fun a w₁ => ((loadVar ty a).run P w₁).andThen fun x w₂ => .ok (.tuple #[x, tmps.getD t undef, tmps.getD u undef, tmps.getD v undef]) w₂ := by
  simp only [results, h]
  simp [Sem.run_bind, Result.andThen]
theorem one_new (w : World) (u : Value) (t : TypeId) : ∀ j x, [u][j]? = some x → (w.alloc (.cells #[u] t)).cell? ((⟨w.heap.size, 0, none⟩ : Addr).add j) = some x := by
  intro j x hj
  rw [Addr.add_mid, Nat.zero_add, cell_of_row _ _ _ _ _ _ (heap_alloc_new w _)]
  simpa using hj
theorem info3 : (Tryd.prog.info? 3).map (fun i => (i.zero, i.size, i.bytes)) = some (some (.int .i64 0), 1, 8) := by kernel_rfl
/-- The document's page while its laces are gathered. -/
structure LQ (w0 wx : World) (g : Nat) (fl se sq gr : Int) (v : Value) (xs : List Int) : Prop where
  res : Box wx w0.heap.size zeroP 49
  pg : Box wx g #[.int .i64 fl, .int .i64 se, .int .i64 sq, .int .i64 gr, v] 49
  own : wx.ownsRow (g + 1) 3 1 v xs.length (intsC xs)
  lt : w0.heap.size < g
  bl : Below w0.heap.size w0 wx
section
variable {w0 wx w' : World} {g : Nat} {fl se sq gr : Int} {v v' : Value} {xs : List Int} {x : Int}
theorem LQ.glt (h : LQ w0 wx g fl se sq gr v xs) : g + 1 ≤ wx.heap.size := h.pg.lt
theorem LQ.low (h : LQ w0 wx g fl se sq gr v xs) (hb : Below wx.heap.size wx w') : LQ w0 w' g fl se sq gr v xs :=
  ⟨h.res.keep hb, h.pg.keep hb, owns_below h.own hb, h.lt, h.bl.trans (hb.mono h.bl.size)⟩
theorem LQ.push (h : LQ w0 wx g fl se sq gr v xs) (ho : w'.ownsRow (g + 1) 3 1 v' (xs.length + 1) (intsC xs ++ [.int .i64 x])) (hg : wx.grownBy w' v.ownBlock) :
    Box w' g #[.int .i64 fl, .int .i64 se, .int .i64 sq, .int .i64 gr, v] 49 ∧ LQ w0 (w'.setCell ⟨g, 4, none⟩ v') g fl se sq gr v' (xs ++ [x]) ∧ Below w0.heap.size w0 w' := by
  have hne : ∀ k, k ≤ g → some k ≠ v.ownBlock := fun k hk e => by have := (h.own.lt k e.symm).1; omega
  have hbx : Box w' g #[.int .i64 fl, .int .i64 se, .int .i64 sq, .int .i64 gr, v] 49 := ⟨by rw [hg.block _ h.pg.lt (hne _ (Nat.le_refl _))]; exact h.pg.h⟩
  have hrs : Box w' w0.heap.size zeroP 49 := ⟨by rw [hg.block _ h.res.lt (hne _ (Nat.le_of_lt h.lt))]; exact h.res.h⟩
  have hlow : Below w0.heap.size w0 w' := grown_to hg h.bl h.bl.size (fun k e => by have := (h.own.lt k e).1; have := h.lt; omega)
  refine ⟨hbx, ⟨⟨?_⟩, ⟨?_⟩, ?_, h.lt, hlow.setCell (Nat.le_of_lt h.lt) _⟩, hlow⟩
  · rw [Below.heap_setCell _ _ _ _ (by have := h.lt; show w0.heap.size ≠ g; omega)]
    exact hrs.h
  · rw [Joins.block_setCell hbx.h]
    rfl
  · rw [List.length_append, intsC_append]
    exact ownsRow_setCell_below ho (Nat.lt_succ_self g) _
end
/-- The document's page, read: what it answers. -/
def OneE (B : Nat) (s : ByteArray) (e : Ending) (w' : World) : Prop :=
  (oneOk (bytesOf s) → ∃ ao c, e = .returned (.tuple #[pgV (pgN (bytesOf s)) ao c, .string (s.extract (27 + u8 (bytesOf s) 26) (endN (bytesOf s))), .int .i64 (endN (bytesOf s) : Int), .bool true]) ∧ PgAt w' (pgN (bytesOf s)) ao c ∧ ∀ b, blockOf ao = some b → B ≤ b) ∧
  (¬ oneOk (bytesOf s) → e = .returned (.tuple #[.agg zeroP, .string ⟨#[]⟩, .int .i64 0, .bool false]))
theorem le4 (s : ByteArray) (a : Nat) (h : a + 4 ≤ s.size) (w : World) : Calls Tryd.prog 41 #[.string (s.extract a (a + 4))] w fun e w' => e = .returned (.int .i64 (leN (seg (bytesOf s) a (a + 4)) : Int)) ∧ Below w.heap.size w w' := by
  have h1 := S2.reffromLe_spec (s.extract a (a + 4)) (by rw [ext_len s _ _ (by omega) h]; omega) w
  have hl : (seg (bytesOf s) a (a + 4)).length = 4 := by rw [seg_length _ _ _ (by rw [bytesOf_length]; exact h)]; omega
  have h2 := le_lt (seg (bytesOf s) a (a + 4)) (fun b hb => bytesOf_lt s b (seg_mem hb))
  rw [hl] at h2
  have h4 : (256 : Nat) ^ 4 = 4294967296 := by decide
  have h3 : S2.fromBe (bytesOf (s.extract a (a + 4))).reverse = (leN (seg (bytesOf s) a (a + 4)) : Int) := by
    rw [bytesOf_ext, S2.fromBe_of _ (by rw [List.length_reverse]; omega) (by show leN _ < _; omega)]
    rfl
  rw [h3] at h1
  exact h1
theorem le8 (s : ByteArray) (h : 14 ≤ s.size) (w : World) : Calls Tryd.prog 41 #[.string (s.extract 6 14)] w fun e w' => e = .returned (.int .i64 (grN (bytesOf s))) ∧ Below w.heap.size w w' := by
  have h1 := S2.reffromLe_spec (s.extract 6 14) (by rw [ext_len s _ _ (by omega) h]; omega) w
  rw [bytesOf_ext] at h1
  exact h1

end Go.Proofs.YtjkamannjgcmiaaDoor
