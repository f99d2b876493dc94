/- Own text: the walk of the program's 'text': the four numbers' bytes. -/
import Derived.Test.YtolmijpecomkcaaDoorWordsOf
import Derived.Deep.RegionHeld
namespace Go.Proofs.YtolmijpecomkcaaDoor.Dg
open Go.RowKit
set_option linter.unusedSimpArgs false
set_option linter.unusedVariables false

/-- What stays through the region. -/
structure Txt (w0 : World) (q : Reg4) (w : World) : Prop where
  came : w.heap[w0.heap.size]? = some (.cells (regV q) 84 (0, 0))
  below : Below w0.heap.size w0 w
theorem Txt.next {w0 w w' : World} {q : Reg4} (h : Txt w0 q w) (hB : Below w.heap.size w w') : Txt w0 q w' :=
  ⟨by rw [hB.block _ (lt_of_block h.came)]; exact h.came, h.below.trans (hB.mono h.below.size)⟩

set_option maxRecDepth 20000 in
set_option maxHeartbeats 4000000 in
theorem text_spec (q : Reg4) (w : World) :
    Calls Tryd.prog 57 #[.agg (regV q)] w fun e w' => e = .returned (.string (textOf (outQ q))) ∧ Below w.heap.size w w' := by
  have hout : textOf (outQ q) = textOf (lowL q.a.toNat 4) ++ textOf (lowL q.b.toNat 4) ++ textOf (lowL q.c.toNat 4) ++ textOf (lowL q.d.toNat 4) := by
    unfold outQ
    rw [textOf_append, textOf_append, textOf_append]
  rw [hout]
  clear hout
  have KW : ∀ (x : BitVec 32), Hid (∀ wx, Hid (Txt w q wx) → Calls Tryd.prog 67 #[.int .u32 (x.toNat : Int)] wx fun e w' => e = .returned (.string (textOf (lowL x.toNat 4))) ∧ Hid (Txt w q w')) := fun x wx hx =>
    (word_spec x.toNat x.isLt wx).mono fun e w' h => ⟨h.1, hx.out.next h.2⟩
  have KA := KW q.a
  have KB := KW q.b
  have KC := KW q.c
  have KD := KW q.d
  clear KW
  have sa : (textOf (lowL q.a.toNat 4)).size = 4 := by rw [textOf_size, lowL_length]
  have sb : (textOf (lowL q.b.toNat 4)).size = 4 := by rw [textOf_size, lowL_length]
  have sc : (textOf (lowL q.c.toNat 4)).size = 4 := by rw [textOf_size, lowL_length]
  have sd : (textOf (lowL q.d.toNat 4)).size = 4 := by rw [textOf_size, lowL_length]
  have HC : Hid (∀ wx, Hid (Txt w q wx) → Hid (Txt w q wx) ∧ wx.cell? ⟨w.heap.size, 0, none⟩ = some (.int .u32 (q.a.toNat : Int)) ∧ wx.cell? ⟨w.heap.size, 1, none⟩ = some (.int .u32 (q.b.toNat : Int)) ∧ wx.cell? ⟨w.heap.size, 2, none⟩ = some (.int .u32 (q.c.toNat : Int)) ∧ wx.cell? ⟨w.heap.size, 3, none⟩ = some (.int .u32 (q.d.toNat : Int))) := fun wx hx =>
    ⟨hx, by rw [cell_of_row _ _ _ _ _ _ hx.out.came]; rfl, by rw [cell_of_row _ _ _ _ _ _ hx.out.came]; rfl, by rw [cell_of_row _ _ _ _ _ _ hx.out.came]; rfl, by rw [cell_of_row _ _ _ _ _ _ hx.out.came]; rfl⟩
  have HD : Hid (Txt w q (w.alloc (.cells (regV q) 84)).drew) := ⟨heap_alloc_new _ _, ((Below.refl w.heap.size w).alloc (Nat.le_refl _) _).drew⟩
  generalize textOf (lowL q.a.toNat 4) = ta at *
  generalize textOf (lowL q.b.toNat 4) = tb at *
  generalize textOf (lowL q.c.toNat 4) = tc at *
  generalize textOf (lowL q.d.toNat 4) = td at *
  go_enter Tryd.func57, Tryd.ntmps57
  go_wp2_with fail
  generalize hwa : w.alloc (.cells #[.int .u32 (q.a.toNat : Int), .int .u32 (q.b.toNat : Int), .int .u32 (q.c.toNat : Int), .int .u32 (q.d.toNat : Int)] 84) = wa
  have HD2 : Hid (Txt w q wa.drew) := by
    rw [← hwa]
    exact HD.out
  clear hwa HD
  generalize hna : q.a.toNat = na at KA HC
  generalize hnb : q.b.toNat = nb at KB HC
  generalize hnc : q.c.toNat = nc at KC HC
  generalize hnd : q.d.toNat = nd at KD HC
  clear hna hnb hnc hnd
  go_region_held (fun wx => Hid (Txt w q wx) ∧ wx.cell? ⟨w.heap.size, 0, none⟩ = some (.int .u32 (na : Int)) ∧ wx.cell? ⟨w.heap.size, 1, none⟩ = some (.int .u32 (nb : Int)) ∧ wx.cell? ⟨w.heap.size, 2, none⟩ = some (.int .u32 (nc : Int)) ∧ wx.cell? ⟨w.heap.size, 3, none⟩ = some (.int .u32 (nd : Int))) (exact HC.out _ (by assumption))
    (first | (go_at_call_of 67 (Value.int .u32 (na : Int)); refine (KA.out _ ?_).mono ?_; (first | assumption | exact (by assumption : _ ∧ _).1); rintro e w4 ⟨rfl, h4⟩) | (go_at_call_of 67 (Value.int .u32 (nb : Int)); refine (KB.out _ ?_).mono ?_; (first | assumption | exact (by assumption : _ ∧ _).1); rintro e w4 ⟨rfl, h4⟩) | (go_at_call_of 67 (Value.int .u32 (nc : Int)); refine (KC.out _ ?_).mono ?_; (first | assumption | exact (by assumption : _ ∧ _).1); rintro e w4 ⟨rfl, h4⟩) | (go_at_call_of 67 (Value.int .u32 (nd : Int)); refine (KD.out _ ?_).mono ?_; (first | assumption | exact (by assumption : _ ∧ _).1); rintro e w4 ⟨rfl, h4⟩))
  go_wp2
  go_ret
  refine ⟨rfl, ?_⟩
  apply Txt.below (q := q)
  apply Hid.out
  assumption

end Go.Proofs.YtolmijpecomkcaaDoor.Dg
