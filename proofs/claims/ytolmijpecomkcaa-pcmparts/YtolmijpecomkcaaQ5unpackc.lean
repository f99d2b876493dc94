/- Own text: the walk of what Unpack's closure does. -/
import Derived.Test.YtolmijpecomkcaaQ5number
import Derived.Test.YtolmijpecomkcaaQ5pack
import Derived.Test.YtolmijpecomkcaaQ5blank
namespace Go.Proofs.Ytolmijpecomkcaa
open Go.RowKit
set_option linter.unusedSimpArgs false
set_option linter.unusedVariables false

/-- The boxes of Unpack: what is left of the text, the width, the layout, the answer; and the cell's ways. -/
structure Uc (w0 : World) (C : Nat) (wd : Int) (big uns : Bool) (r : ByteArray) (w : World) : Prop where
  sb : w.heap[w0.heap.size]? = some (.cells #[.string r] 9 (0, 0))
  wb : w.heap[w0.heap.size + 1]? = some (.cells #[.int .i64 wd] 3 (0, 0))
  res : w.heap[w0.heap.size + 3]? = some (.cells #[.int .i64 0, .int .i64 0, .int .i64 0, .slice none 0 0] 24 (0, 0))
  cb : w.heap[C]? = some (.cells (cellC wd big uns) 60 (0, 0))
  lt : w0.heap.size + 3 < C
  below : Below w0.heap.size w0 w
section
variable {w0 w w' : World} {C : Nat} {wd : Int} {big uns : Bool} {r : ByteArray}
theorem Uc.next (h : Uc w0 C wd big uns r w) (hB : Below w.heap.size w w') : Uc w0 C wd big uns r w' :=
  ⟨by rw [hB.block _ (lt_of_block h.sb)]; exact h.sb, by rw [hB.block _ (lt_of_block h.wb)]; exact h.wb, by rw [hB.block _ (lt_of_block h.res)]; exact h.res, by rw [hB.block _ (lt_of_block h.cb)]; exact h.cb, h.lt, h.below.trans (hB.mono h.below.size)⟩
theorem heap_set_other (w : World) (a : Addr) (v : Value) (k : Nat) (h : k ≠ a.block) : (w.setCell a v).heap[k]? = w.heap[k]? := by
  simp only [World.setCell, Array.getElem?_modify]
  rw [if_neg (fun e => h e.symm)]
theorem Uc.set (h : Uc w0 C wd big uns r w) (a : Addr) (v : Value) (ha : C < a.block) : Uc w0 C wd big uns r (w.setCell a v) := by
  have hl := h.lt
  exact ⟨by rw [heap_set_other _ _ _ _ (by omega)]; exact h.sb, by rw [heap_set_other _ _ _ _ (by omega)]; exact h.wb, by rw [heap_set_other _ _ _ _ (by omega)]; exact h.res, by rw [heap_set_other _ _ _ _ (by omega)]; exact h.cb, h.lt, h.below.setCell (by omega) _⟩
theorem Uc.text (h : Uc w0 C wd big uns r w) (r' : ByteArray) : Uc w0 C wd big uns r' (w.setCell ⟨w0.heap.size, 0, none⟩ (.string r')) := by
  have hl := h.lt
  refine ⟨?_, by rw [heap_set_other _ _ _ _ (by simp)]; exact h.wb, by rw [heap_set_other _ _ _ _ (by simp)]; exact h.res, by rw [heap_set_other _ _ _ _ (by simp; omega)]; exact h.cb, h.lt, h.below.setCell (Nat.le_refl _) _⟩
  have hs := h.sb
  simp [World.setCell, Array.getElem?_modify, hs]
theorem Uc.s0 (h : Uc w0 C wd big uns r w) : w.cell? ⟨w0.heap.size, 0, none⟩ = some (.string r) := by rw [cell_of_row _ _ _ _ _ _ h.sb]; rfl
theorem Uc.wc (h : Uc w0 C wd big uns r w) : w.cell? ⟨w0.heap.size + 1, 0, none⟩ = some (.int .i64 wd) := by rw [cell_of_row _ _ _ _ _ _ h.wb]; rfl
theorem Uc.c0 (h : Uc w0 C wd big uns r w) : w.cell? ⟨C, 0, none⟩ = some (.int .i64 wd) := by rw [cell_of_row _ _ _ _ _ _ h.cb]; rfl
theorem Uc.c1 (h : Uc w0 C wd big uns r w) : w.cell? ⟨C, 1, none⟩ = some (.int .i64 (nby wd : Int)) := by rw [cell_of_row _ _ _ _ _ _ h.cb]; rfl
theorem Uc.c2 (h : Uc w0 C wd big uns r w) : w.cell? ⟨C, 2, none⟩ = some (.bool big) := by rw [cell_of_row _ _ _ _ _ _ h.cb]; rfl
theorem Uc.c3 (h : Uc w0 C wd big uns r w) : w.cell? ⟨C, 3, none⟩ = some (.bool uns) := by rw [cell_of_row _ _ _ _ _ _ h.cb]; rfl
theorem Uc.fz (h : Uc w0 C wd big uns r w) : w.frozen? ⟨w0.heap.size, 0, none⟩ = false := by have hs := h.sb; simp [World.frozen?, hs]
end
theorem sl_low (r : ByteArray) (k : Nat) (h : k ≤ r.size) (w : World) : (Instr.slice 9 (.string r) none (some (.int .i64 (k : Int))) none).run Try.prog w = .ok (.string (r.extract 0 k)) w := by
  have := run_slice_string_to_if (P := Try.prog) w 9 r .i64 (k : Int) Try.underlying9
  rw [if_pos (by omega)] at this
  simpa using this
theorem sl_high (r : ByteArray) (k : Nat) (h : k ≤ r.size) (w : World) : (Instr.slice 9 (.string r) (some (.int .i64 (k : Int))) none none).run Try.prog w = .ok (.string (r.extract k r.size)) w := by
  have := run_slice_string_from_if (P := Try.prog) w 9 r .i64 (k : Int) Try.underlying9
  rw [if_pos (by omega)] at this
  simpa using this

set_option maxRecDepth 20000 in
set_option maxHeartbeats 3200000 in
theorem unpackC_spec (w0 w : World) (C : Nat) (wd : Int) (big uns : Bool) (r : ByteArray) (b o : Nat) (old : Int) (h4 : 4 ≤ wd) (h32 : wd ≤ 32) (hr : nby wd ≤ r.size) (hU : Uc w0 C wd big uns r w) (hb : C < b) (hc : w.cell? ⟨b, o, none⟩ = some (.int .i64 old)) (hf : w.frozen? ⟨b, o, none⟩ = false) :
    Calls Try.prog 34 #[.pointer (some ⟨b, o, none⟩), .pointer (some ⟨C, 0, none⟩), .pointer (some ⟨w0.heap.size, 0, none⟩), .pointer (some ⟨w0.heap.size + 1, 0, none⟩)] w fun e w' => e = .returned (.bool (sampB (decM wd uns (rawN (r.extract 0 (nby wd)) big)) wd)) ∧ ∃ w1 q, Below w.heap.size w w1 ∧ w' = ((w1.setCell ⟨b, o, none⟩ (.int .i64 (decM wd uns (rawN (r.extract 0 (nby wd)) big)))).setCell ⟨w0.heap.size, 0, none⟩ (.string (r.extract (nby wd) r.size))).drewN q := by
  have hbl : b < w.heap.size := lt_cell hc
  have hlC := hU.lt
  have hl := sl_low r (nby wd) hr
  have hh := sl_high r (nby wd) hr
  have KN : Hid (∀ wx, Below w.heap.size w wx → Calls Try.prog 35 #[.agg #[.int .i64 wd, .int .i64 (nby wd : Int), .bool big, .bool uns], .string (r.extract 0 (nby wd))] wx fun e w' => e = .returned (.int .i64 (decM wd uns (rawN (r.extract 0 (nby wd)) big))) ∧ Hid (Below w.heap.size w w')) := fun wx hx =>
    (number_spec wd big uns _ h4 h32 (by rw [ByteArray.size_extract]; omega) wx).mono fun e w' h => ⟨h.1, hx.trans (h.2.mono hx.size)⟩
  generalize decM wd uns (rawN (r.extract 0 (nby wd)) big) = x at *
  have ks := isSample_spec x wd h4 h32
  generalize sampB x wd = sb at *
  generalize hrl : r.extract 0 (nby wd) = rl at *
  generalize hrh : r.extract (nby wd) r.size = rh at *
  clear hrl hrh
  have HU : Hid (Uc w0 C wd big uns r w) := hU
  have HS : Hid (∀ wx, Hid (Below w.heap.size w wx) → wx.cell? ⟨C, 0, none⟩ = some (.int .i64 wd) ∧ wx.cell? ⟨C, 1, none⟩ = some (.int .i64 (nby wd : Int)) ∧ wx.cell? ⟨C, 2, none⟩ = some (.bool big) ∧ wx.cell? ⟨C, 3, none⟩ = some (.bool uns) ∧ wx.cell? ⟨w0.heap.size, 0, none⟩ = some (.string r)) := fun wx hx =>
    have h := HU.out.next hx.out
    ⟨h.c0, h.c1, h.c2, h.c3, h.s0⟩
  have HS2 : Hid (∀ wx v, Hid (Below w.heap.size w wx) → (wx.setCell ⟨b, o, none⟩ v).cell? ⟨C, 0, none⟩ = some (.int .i64 wd) ∧ (wx.setCell ⟨b, o, none⟩ v).cell? ⟨C, 1, none⟩ = some (.int .i64 (nby wd : Int)) ∧ (wx.setCell ⟨b, o, none⟩ v).cell? ⟨C, 2, none⟩ = some (.bool big) ∧ (wx.setCell ⟨b, o, none⟩ v).cell? ⟨C, 3, none⟩ = some (.bool uns) ∧ (wx.setCell ⟨b, o, none⟩ v).cell? ⟨w0.heap.size, 0, none⟩ = some (.string r)) := fun wx v hx =>
    have h := (HU.out.next hx.out).set ⟨b, o, none⟩ v hb
    ⟨h.c0, h.c1, h.c2, h.c3, h.s0⟩
  have HV : Hid (∀ wx, Hid (Below w.heap.size w wx) → wx.cell? ⟨b, o, none⟩ = some (.int .i64 old) ∧ wx.frozen? ⟨b, o, none⟩ = false) := fun wx hx => by
    have hblk := hx.out.block b hbl
    refine ⟨by rw [← hc]; exact World.cell?_of_block (w := w) hblk, ?_⟩
    rw [← hf]
    simp only [World.frozen?, hblk]
  have HD : Hid (Below w.heap.size w w.drew) := (Below.refl _ _).drew
  clear hU hc hf
  go_enter Try.func34, Try.ntmps34
  go_wp2_with fail
  go_region_held3 (fun wx => wx.cell? ⟨C, 0, none⟩ = some (.int .i64 wd) ∧ wx.cell? ⟨C, 1, none⟩ = some (.int .i64 (nby wd : Int)) ∧ wx.cell? ⟨C, 2, none⟩ = some (.bool big) ∧ wx.cell? ⟨C, 3, none⟩ = some (.bool uns) ∧ wx.cell? ⟨w0.heap.size, 0, none⟩ = some (.string r)) (first | exact HS.out _ (by assumption) | exact HS2.out _ _ (by assumption))
    (first
      | (go_at_call 35; refine (KN.out _ (Hid.out (by assumption))).mono ?_; rintro e w5 ⟨rfl, h5⟩; have g1 := (HV.out w5 h5).1; have g2 := (HV.out w5 h5).2))
  rename_i hHd
  clear hHd
  have HU6 : Hid (Uc w0 C wd big uns r (w5.setCell ⟨b, o, none⟩ (.int .i64 x))) := (HU.out.next h5.out).set ⟨b, o, none⟩ _ hb
  have g3 : (w5.setCell ⟨b, o, none⟩ (.int .i64 x)).cell? ⟨b, o, none⟩ = some (.int .i64 x) := World.cell?_setCell_same _ _ _ g1
  generalize hw6 : w5.setCell ⟨b, o, none⟩ (.int .i64 x) = w6 at *
  have HW6 : Hid (w5.setCell ⟨b, o, none⟩ (.int .i64 x) = w6) := hw6
  clear hw6 g1 g2 HS HS2 HV HD KN
  have f0 := HU6.out.s0
  have f1 := HU6.out.c1
  have f2 := HU6.out.fz
  have HU7 : Hid (Uc w0 C wd big uns rh (w6.setCell ⟨w0.heap.size, 0, none⟩ (.string rh))) := HU6.out.text rh
  have g7 : (w6.setCell ⟨w0.heap.size, 0, none⟩ (.string rh)).cell? ⟨b, o, none⟩ = some (.int .i64 x) := by
    rw [World.cell?_setCell_other _ _ _ _ (by intro e; injection e with e1 e2; omega)]
    exact g3
  have v7 := HU7.out.wc
  clear g3
  go_wp2_with fail
  clear f0 f1 f2
  generalize hw7 : w6.setCell ⟨w0.heap.size, 0, none⟩ (.string rh) = w7 at *
  have HW7 : Hid (w6.setCell ⟨w0.heap.size, 0, none⟩ (.string rh) = w7) := hw7
  clear hw7
  go_quiet ((go_at_call 28; exact Calls.quiet_of_same (ks _)))
  go_wp2_with fail
  go_ret
  exact ⟨rfl, w5, _, h5.out, by rw [HW6.out, HW7.out]⟩

end Go.Proofs.Ytolmijpecomkcaa
