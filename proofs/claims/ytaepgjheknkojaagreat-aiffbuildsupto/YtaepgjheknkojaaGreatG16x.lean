/- Own text: the walk of what Pack's closure does. the walk of the program's blank. the walk of what Unpack's closure does. what Pack's closure does, sample by sample. -/
import Derived.Test.YtaepgjheknkojaaGreatQ5text
import Derived.Test.YtaepgjheknkojaaGreatG14x
import Derived.Test.YtaepgjheknkojaaGreatQ5shelf
import Derived.Deep.RegionHeld3
import Derived.Test.YtaepgjheknkojaaGreatG11x
import Derived.Test.YtaepgjheknkojaaGreatQ5number
namespace Go.Proofs.YtaepgjheknkojaaGreat
open Go.RowKit
set_option linter.unusedSimpArgs false
set_option linter.unusedVariables false

theorem res_one {fn : Func} {p : Tmp} {ty : TypeId} (h : fn.results = #[.cell p ty]) (tmps : Array Value) (P : Program) (w : World) :
    (results fn tmps).run P w = ((asAddr (tmps.getD p undef)).run P w).andThen fun a w₁ => (loadVar ty a).run P w₁ := by
  simp only [results, h]
  simp [Sem.run_bind, Result.andThen]
theorem infCell : (Tryz.prog.info? 104).map (·.size) = some 4 := by kernel_rfl

set_option maxRecDepth 20000 in
set_option maxHeartbeats 1600000 in
theorem cellOf_spec (wd : Int) (big uns : Bool) (h4 : 4 ≤ wd) (h32 : wd ≤ 32) (w : World) :
    Calls Tryz.prog 57 #[.int .i64 wd, .agg #[.bool big, .bool uns]] w fun e w' => e = .returned (.agg (cellC wd big uns)) ∧ Below w.heap.size w w' := by
  have hq : (wd + 7) / 8 = (nby wd : Int) := by have := nby_range wd h4 h32; omega
  go_enter Tryz.func57, Tryz.ntmps57
  go_wp2_with fail
  generalize hwf : World.alloc (World.alloc w _) _ = wf
  have hrow : wf.heap[w.heap.size + 1]? = some (.cells (cellC wd big uns) 104 (0, 0)) := by
    rw [← hwf, ← show (w.alloc (.cells #[.bool big, .bool uns] 59)).heap.size = w.heap.size + 1 from by simp]
    exact heap_alloc_new _ _
  have hbel : Below w.heap.size w wf := by
    rw [← hwf]
    exact ((Below.refl _ _).alloc (Nat.le_refl _) _).alloc (by simp) _
  refine bodyPost_ret (v := .agg (cellC wd big uns)) ?_ rfl ⟨rfl, hbel⟩
  rw [res_one rfl]
  have hld := run_loadVar_row (P := Tryz.prog) wf (w.heap.size + 1) 104 104 (cellC wd big uns) (0, 0) _ hrow Tryz.underlying104 rfl infCell
  simp [asAddr, Result.andThen, hld]

/-- What Pack's closure keeps: the cell's ways, and a builder that holds these bytes. -/
structure Pw (w0 : World) (C S : Nat) (wd : Int) (big uns : Bool) (l : List Nat) (w : World) : Prop where
  cell : w.heap[C]? = some (.cells (cellC wd big uns) 104 (0, 0))
  bld : Lib.BuilderAt 109 5 S S (.pointer (some ⟨S, 0, none⟩)) (Lib.strCells (textOf l)) w
  lo : w0.heap.size ≤ C
  lt : C < S
  below : Below w0.heap.size w0 w
section
variable {w0 w w' : World} {C S : Nat} {wd : Int} {big uns : Bool} {l m : List Nat}
theorem builder_below {T e : TypeId} {B b : Nat} {p : Value} {bs : List Value} (h : Lib.BuilderAt T e B b p bs w) (hB : Below w.heap.size w w') : Lib.BuilderAt T e B b p bs w' := by
  obtain ⟨h1, v, h2, h3, h4⟩ := h
  refine ⟨h1, v, ?_, ?_, h4⟩
  · rw [hB.block _ (lt_of_block h2)]
    exact h2
  · exact h3.kept (row := none) ⟨hB.os, hB.tape, hB.output, hB.size, fun k hk _ => hB.block k hk⟩ (by cases hv : v.ownBlock <;> simp)
theorem Pw.next (h : Pw w0 C S wd big uns l w) (hB : Below w.heap.size w w') : Pw w0 C S wd big uns l w' :=
  ⟨by rw [hB.block _ (lt_of_block h.cell)]; exact h.cell, builder_below h.bld hB, h.lo, h.lt, h.below.trans (hB.mono h.below.size)⟩
theorem Pw.c0 (h : Pw w0 C S wd big uns l w) : w.cell? ⟨C, 0, none⟩ = some (.int .i64 wd) := by rw [cell_of_row _ _ _ _ _ _ h.cell]; rfl
theorem Pw.c1 (h : Pw w0 C S wd big uns l w) : w.cell? ⟨C, 1, none⟩ = some (.int .i64 (nby wd : Int)) := by rw [cell_of_row _ _ _ _ _ _ h.cell]; rfl
theorem Pw.c2 (h : Pw w0 C S wd big uns l w) : w.cell? ⟨C, 2, none⟩ = some (.bool big) := by rw [cell_of_row _ _ _ _ _ _ h.cell]; rfl
theorem Pw.c3 (h : Pw w0 C S wd big uns l w) : w.cell? ⟨C, 3, none⟩ = some (.bool uns) := by rw [cell_of_row _ _ _ _ _ _ h.cell]; rfl
theorem strCells_app (a b : List Nat) : Lib.strCells (textOf (a ++ b)) = Lib.strCells (textOf a) ++ Lib.strCells (textOf b) := by
  unfold Lib.strCells textOf
  simp
theorem strCells_len (a : List Nat) : (Lib.strCells (textOf a)).length = a.length := by
  unfold Lib.strCells textOf
  simp
theorem Pw.write (h : Pw w0 C S wd big uns l w) (hl : l.length + m.length ≤ 140737488355328) :
    Calls Tryz.prog 62 #[.pointer (some ⟨S, 0, none⟩), .string (textOf m)] w fun e w' => e = .returned (.tuple #[.int .i64 (m.length : Int), .nilIface]) ∧ Pw w0 C S wd big uns (l ++ m) w' := by
  have hlt := h.bld.lt
  refine (write_spec S S _ (textOf m) w (Or.inr h.bld) (by rw [strCells_len, textOf_size]; exact hl) (Nat.le_of_lt hlt)).mono ?_
  rintro e w' ⟨rfl, h1, h2⟩
  refine ⟨by rw [textOf_size], ?_, ?_, h.lo, h.lt, ?_⟩
  · rw [h2.block _ h.lt]
    exact h.cell
  · rw [strCells_app]
    exact h1
  · exact h.below.trans (h2.mono (by have := h.lo; have := h.lt; omega))
end

set_option maxRecDepth 20000 in
set_option maxHeartbeats 3200000 in
theorem packC_spec (w0 w : World) (C S : Nat) (wd : Int) (big uns : Bool) (l : List Nat) (n : Int) (b o : Nat) (h4 : 4 ≤ wd) (h32 : wd ≤ 32) (hs : sampB n wd = true) (hl : l.length ≤ 100000000000000)
    (hP : Pw w0 C S wd big uns l w) (hb : b < w0.heap.size) (hc : w0.cell? ⟨b, o, none⟩ = some (.int .i64 n)) :
    Calls Tryz.prog 61 #[.pointer (some ⟨b, o, none⟩), .pointer (some ⟨S, 0, none⟩), .pointer (some ⟨C, 0, none⟩)] w fun e w' => e = .returned (.bool true) ∧ Pw w0 C S wd big uns (l ++ codeL big wd uns n) w' := by
  have hlen := codeL_length big wd uns n
  have hnb : nby wd ≤ 4 := (nby_range wd h4 h32).2.1
  generalize hm : codeL big wd uns n = m at *
  have HC : Hid (∀ l' wx, Hid (Pw w0 C S wd big uns l' wx) → wx.cell? ⟨C, 0, none⟩ = some (.int .i64 wd) ∧ wx.cell? ⟨C, 1, none⟩ = some (.int .i64 (nby wd : Int)) ∧ wx.cell? ⟨C, 2, none⟩ = some (.bool big) ∧ wx.cell? ⟨C, 3, none⟩ = some (.bool uns) ∧ wx.cell? ⟨b, o, none⟩ = some (.int .i64 n)) := fun l' wx h =>
    ⟨h.out.c0, h.out.c1, h.out.c2, h.out.c3, by rw [h.out.below.cell (p := ⟨b, o, none⟩) hb]; exact hc⟩
  have KT : Hid (∀ wx, Hid (Pw w0 C S wd big uns l wx) → Calls Tryz.prog 63 #[.agg #[.int .i64 wd, .int .i64 (nby wd : Int), .bool big, .bool uns], .int .i64 n] wx fun e w' => e = .returned (.string (textOf m)) ∧ Hid (Pw w0 C S wd big uns l w')) := fun wx h =>
    (text_spec wd n big uns h4 h32 hs wx).mono fun e w' h1 => ⟨by rw [h1.1, hm], h.out.next h1.2⟩
  have KW : Hid (∀ wx, Hid (Pw w0 C S wd big uns l wx) → Calls Tryz.prog 62 #[.pointer (some ⟨S, 0, none⟩), .string (textOf m)] wx fun e w' => e = .returned (.tuple #[.int .i64 (m.length : Int), .nilIface]) ∧ Hid (Pw w0 C S wd big uns (l ++ m) w')) := fun wx h => (h.out.write (by omega)).mono fun e w' h1 => ⟨h1.1, h1.2⟩
  have HD : Hid (Pw w0 C S wd big uns l w.drew) := hP.next ⟨rfl, rfl, rfl, Nat.le_refl _, fun _ _ => rfl⟩
  have HP : Hid (Pw w0 C S wd big uns l w) := hP
  clear hP hc hs hm
  go_enter Tryz.func61, Tryz.ntmps61
  go_wp2_with fail
  go_region_held3 (fun wx => wx.cell? ⟨C, 0, none⟩ = some (.int .i64 wd) ∧ wx.cell? ⟨C, 1, none⟩ = some (.int .i64 (nby wd : Int)) ∧ wx.cell? ⟨C, 2, none⟩ = some (.bool big) ∧ wx.cell? ⟨C, 3, none⟩ = some (.bool uns) ∧ wx.cell? ⟨b, o, none⟩ = some (.int .i64 n)) (first | exact HC.out l _ (by assumption) | exact HC.out (l ++ m) _ (by assumption))
    (first
      | (go_at_call 63; refine (KT.out _ (by assumption)).mono ?_; rintro e w5 ⟨rfl, h5⟩)
      | (go_at_call 62; refine (KW.out _ (by assumption)).mono ?_; rintro e w6 ⟨rfl, h6⟩))
  go_wp2_with fail
  go_ret
  exact ⟨rfl, (by assumption : Hid (Pw w0 C S wd big uns (l ++ m) _)).out⟩

end Go.Proofs.YtaepgjheknkojaaGreat

namespace Go.Proofs.YtaepgjheknkojaaGreat
open Go.RowKit
set_option linter.unusedSimpArgs false
set_option linter.unusedVariables false

/-- A list of lists that a call made: its own blocks, one behind the other. -/
structure Mat (B c n : Nat) (f : Nat → Nat → Int) (w : World) : Prop where
  outer : w.rowIs B 95 c (fun k => .slice (some ⟨B + 1 + k, 0, none⟩) n n)
  inner : ∀ k, k < c → w.rowIs (B + 1 + k) 3 n (fun i => .int .i64 (f k i))
theorem infInts : (Tryz.prog.info? 95).map (fun i => (i.zero, i.size, i.bytes)) = some (some (.slice none 0 0), 1, 24) := by kernel_rfl
theorem infInt : (Tryz.prog.info? 3).map (fun i => (i.zero, i.size, i.bytes)) = some (some (.int .i64 0), 1, 8) := by kernel_rfl
theorem made_rows (n : Nat) (h : n ≤ 1048576) (w : World) :
    (Instr.makeSlice 22 (.int .i64 (n : Int)) (.int .i64 (n : Int))).run Tryz.prog w = .ok (.slice (some ⟨w.heap.size, 0, none⟩) n n) (w.alloc (.cells (madeCells #[.slice none 0 0] n) 95)) :=
  run_make_row' 22 95 (.slice none 0 0) 24 Tryz.underlying22 infInts rfl .i64 .i64 n (by omega) (by omega) w
theorem made_ints (n : Nat) (h : n ≤ 1048576) (w : World) :
    (Instr.makeSlice 95 (.int .i64 (n : Int)) (.int .i64 (n : Int))).run Tryz.prog w = .ok (.slice (some ⟨w.heap.size, 0, none⟩) n n) (w.alloc (.cells (madeCells #[.int .i64 0] n) 3)) :=
  run_make_row' 95 3 (.int .i64 0) 8 Tryz.underlying95 infInt rfl .i64 .i64 n (by omega) (by omega) w

structure Bk (w0 : World) (c n i : Nat) (w : World) : Prop where
  outer : w.rowIs w0.heap.size 95 c (fun k => if k < i then .slice (some ⟨w0.heap.size + 1 + k, 0, none⟩) n n else .slice none 0 0)
  inner : ∀ k, k < i → w.rowIs (w0.heap.size + 1 + k) 3 n (fun _ => .int .i64 0)
  size : w.heap.size = w0.heap.size + 1 + i
  below : Below w0.heap.size w0 w

set_option maxRecDepth 20000 in
set_option maxHeartbeats 1600000 in
theorem blank_spec (c n : Nat) (hc : c ≤ 8) (hn : n ≤ 1048576) (w : World) :
    Calls Tryz.prog 102 #[.int .i64 (c : Int), .int .i64 (n : Int)] w fun e w' => e = .returned (.slice (some ⟨w.heap.size, 0, none⟩) c c) ∧ Mat w.heap.size c n (fun _ _ => 0) w' ∧ w'.heap.size = w.heap.size + 1 + c ∧ Below w.heap.size w w' := by
  have hm1 := made_rows c (by omega) w
  have HB : Hid (Bk w c n 0 (w.alloc (.cells (madeCells #[.slice none 0 0] c) 95))) := by
    refine ⟨?_, fun k hk => absurd hk (Nat.not_lt_zero _), by simp, (Below.refl _ _).alloc (Nat.le_refl _) _⟩
    exact (World.rowIs_made w (.slice none 0 0) c 95).congr fun i hi => by rw [if_neg (Nat.not_lt_zero _)]
  have HM : Hid (∀ wx : World, (Instr.makeSlice 95 (.int .i64 (n : Int)) (.int .i64 (n : Int))).run Tryz.prog wx = .ok (.slice (some ⟨wx.heap.size, 0, none⟩) n n) (wx.alloc (.cells (madeCells #[.int .i64 0] n) 3))) := made_ints n hn
  go_enter Tryz.func102, Tryz.ntmps102
  go_wp2_with fail
  generalize hwa : w.alloc _ = wa
  have HA : Hid (Bk w c n 0 wa) := by
    rw [← hwa]
    exact HB.out
  clear hwa HB hm1
  go_loopw [6, 11] (fun s6 s11 wr => ∃ i : Nat, i ≤ c ∧ s11 = .int .i64 (i : Int) ∧ Bk w c n i wr) (fun _ t _ => c - (intOf t).toNat)
  case atStart => exact ⟨0, Nat.zero_le _, rfl, HA.out⟩
  case round =>
    clear HA
    obtain ⟨i, hi, rfl, hb⟩ := hrel
    have HB : Hid (Bk w c n i wr) := hb
    clear hb
    by_cases hlt : i < c
    · have hmk := HM.out wr
      have hsz := HB.out.size
      have ho : (wr.alloc (.cells (madeCells #[.int .i64 0] n) 3)).rowIs w.heap.size 95 c (fun k => if k < i then .slice (some ⟨w.heap.size + 1 + k, 0, none⟩) n n else .slice none 0 0) := HB.out.outer.alloc _
      have g1 := ho.cell hlt
      have g2 := ho.frozen i
      rw [if_neg (Nat.lt_irrefl _)] at g1
      have HN : Hid (Bk w c n (i + 1) ((wr.alloc (.cells (madeCells #[.int .i64 0] n) 3)).setCell ⟨w.heap.size, i, none⟩ (.slice (some ⟨wr.heap.size, 0, none⟩) n n))) := by
        refine ⟨?_, fun k hk => ?_, by rw [World.size_setCell]; simp; omega, ?_⟩
        · refine (ho.set i _).congr fun k hk => ?_
          by_cases e : k = i
          · rw [if_pos e, if_pos (by omega), hsz, e]
          · rw [if_neg e]
            by_cases h : k < i
            · rw [if_pos h, if_pos (by omega)]
            · rw [if_neg h, if_neg (by omega)]
        · refine World.rowIs.setOther ?_ (show w.heap.size + 1 + k ≠ w.heap.size by omega) _
          by_cases e : k = i
          · rw [e, ← hsz]
            exact World.rowIs_made wr (.int .i64 0) n 3
          · exact (HB.out.inner k (by omega)).alloc _
        · exact (HB.out.below.alloc (by omega) _).setCell (Nat.le_refl _) _
      clear ho
      go_wp2_with fail
      generalize hwn : World.setCell _ _ _ = wn
      have HN2 : Hid (Bk w c n (i + 1) wn) := by
        rw [← hwn]
        have h := HN.out
        rw [hsz] at h
        exact h
      clear hwn HN g1 g2 hmk
      go_roundw
      case rel => exact ⟨i + 1, by omega, by go_num, HN2.out⟩
      case measure => simp [intOf]; omega
    · have hic : i = c := by omega
      subst hic
      go_wp2_with fail
      go_ret
      exact ⟨rfl, ⟨HB.out.outer.congr fun k hk => by rw [if_pos hk], HB.out.inner⟩, HB.out.size, HB.out.below⟩

end Go.Proofs.YtaepgjheknkojaaGreat

namespace Go.Proofs.YtaepgjheknkojaaGreat
open Go.RowKit
set_option linter.unusedSimpArgs false
set_option linter.unusedVariables false

/-- The boxes of Unpack: what is left of the text, the width, the layout, the answer; and the cell's ways. -/
structure Uc (w0 : World) (C : Nat) (wd : Int) (big uns : Bool) (r : ByteArray) (w : World) : Prop where
  sb : w.heap[w0.heap.size]? = some (.cells #[.string r] 9 (0, 0))
  wb : w.heap[w0.heap.size + 1]? = some (.cells #[.int .i64 wd] 3 (0, 0))
  res : w.heap[w0.heap.size + 3]? = some (.cells #[.int .i64 0, .int .i64 0, .int .i64 0, .slice none 0 0] 24 (0, 0))
  cb : w.heap[C]? = some (.cells (cellC wd big uns) 104 (0, 0))
  lt : w0.heap.size + 3 < C
  below : Below w0.heap.size w0 w
section
variable {w0 w w' : World} {C : Nat} {wd : Int} {big uns : Bool} {r : ByteArray}
theorem Uc.next (h : Uc w0 C wd big uns r w) (hB : Below w.heap.size w w') : Uc w0 C wd big uns r w' :=
  ⟨by rw [hB.block _ (lt_of_block h.sb)]; exact h.sb, by rw [hB.block _ (lt_of_block h.wb)]; exact h.wb, by rw [hB.block _ (lt_of_block h.res)]; exact h.res, by rw [hB.block _ (lt_of_block h.cb)]; exact h.cb, h.lt, h.below.trans (hB.mono h.below.size)⟩
theorem heap_set_other (w : World) (a : Addr) (v : Value) (k : Nat) (h : k ≠ a.block) : (w.setCell a v).heap[k]? = w.heap[k]? := by
  simp only [World.setCell, Array.getElem?_modify]
  rw [if_neg (fun e => h e.symm)]
theorem Uc.set (h : Uc w0 C wd big uns r w) (a : Addr) (v : Value) (ha : C < a.block) : Uc w0 C wd big uns r (w.setCell a v) := by
  have hl := h.lt
  exact ⟨by rw [heap_set_other _ _ _ _ (by omega)]; exact h.sb, by rw [heap_set_other _ _ _ _ (by omega)]; exact h.wb, by rw [heap_set_other _ _ _ _ (by omega)]; exact h.res, by rw [heap_set_other _ _ _ _ (by omega)]; exact h.cb, h.lt, h.below.setCell (by omega) _⟩
theorem Uc.text (h : Uc w0 C wd big uns r w) (r' : ByteArray) : Uc w0 C wd big uns r' (w.setCell ⟨w0.heap.size, 0, none⟩ (.string r')) := by
  have hl := h.lt
  refine ⟨?_, by rw [heap_set_other _ _ _ _ (by simp)]; exact h.wb, by rw [heap_set_other _ _ _ _ (by simp)]; exact h.res, by rw [heap_set_other _ _ _ _ (by simp; omega)]; exact h.cb, h.lt, h.below.setCell (Nat.le_refl _) _⟩
  have hs := h.sb
  simp [World.setCell, Array.getElem?_modify, hs]
theorem Uc.s0 (h : Uc w0 C wd big uns r w) : w.cell? ⟨w0.heap.size, 0, none⟩ = some (.string r) := by rw [cell_of_row _ _ _ _ _ _ h.sb]; rfl
theorem Uc.wc (h : Uc w0 C wd big uns r w) : w.cell? ⟨w0.heap.size + 1, 0, none⟩ = some (.int .i64 wd) := by rw [cell_of_row _ _ _ _ _ _ h.wb]; rfl
theorem Uc.c0 (h : Uc w0 C wd big uns r w) : w.cell? ⟨C, 0, none⟩ = some (.int .i64 wd) := by rw [cell_of_row _ _ _ _ _ _ h.cb]; rfl
theorem Uc.c1 (h : Uc w0 C wd big uns r w) : w.cell? ⟨C, 1, none⟩ = some (.int .i64 (nby wd : Int)) := by rw [cell_of_row _ _ _ _ _ _ h.cb]; rfl
theorem Uc.c2 (h : Uc w0 C wd big uns r w) : w.cell? ⟨C, 2, none⟩ = some (.bool big) := by rw [cell_of_row _ _ _ _ _ _ h.cb]; rfl
theorem Uc.c3 (h : Uc w0 C wd big uns r w) : w.cell? ⟨C, 3, none⟩ = some (.bool uns) := by rw [cell_of_row _ _ _ _ _ _ h.cb]; rfl
theorem Uc.fz (h : Uc w0 C wd big uns r w) : w.frozen? ⟨w0.heap.size, 0, none⟩ = false := by have hs := h.sb; simp [World.frozen?, hs]
end
theorem sl_low (r : ByteArray) (k : Nat) (h : k ≤ r.size) (w : World) : (Instr.slice 9 (.string r) none (some (.int .i64 (k : Int))) none).run Tryz.prog w = .ok (.string (r.extract 0 k)) w := by
  have := run_slice_string_to_if (P := Tryz.prog) w 9 r .i64 (k : Int) Tryz.underlying9
  rw [if_pos (by omega)] at this
  simpa using this
theorem sl_high (r : ByteArray) (k : Nat) (h : k ≤ r.size) (w : World) : (Instr.slice 9 (.string r) (some (.int .i64 (k : Int))) none none).run Tryz.prog w = .ok (.string (r.extract k r.size)) w := by
  have := run_slice_string_from_if (P := Tryz.prog) w 9 r .i64 (k : Int) Tryz.underlying9
  rw [if_pos (by omega)] at this
  simpa using this

set_option maxRecDepth 20000 in
set_option maxHeartbeats 3200000 in
theorem unpackC_spec (w0 w : World) (C : Nat) (wd : Int) (big uns : Bool) (r : ByteArray) (b o : Nat) (old : Int) (h4 : 4 ≤ wd) (h32 : wd ≤ 32) (hr : nby wd ≤ r.size) (hU : Uc w0 C wd big uns r w) (hb : C < b) (hc : w.cell? ⟨b, o, none⟩ = some (.int .i64 old)) (hf : w.frozen? ⟨b, o, none⟩ = false) :
    Calls Tryz.prog 103 #[.pointer (some ⟨b, o, none⟩), .pointer (some ⟨C, 0, none⟩), .pointer (some ⟨w0.heap.size, 0, none⟩), .pointer (some ⟨w0.heap.size + 1, 0, none⟩)] w fun e w' => e = .returned (.bool (sampB (decM wd uns (rawN (r.extract 0 (nby wd)) big)) wd)) ∧ ∃ w1 q, Below w.heap.size w w1 ∧ w' = ((w1.setCell ⟨b, o, none⟩ (.int .i64 (decM wd uns (rawN (r.extract 0 (nby wd)) big)))).setCell ⟨w0.heap.size, 0, none⟩ (.string (r.extract (nby wd) r.size))).drewN q := by
  have hbl : b < w.heap.size := lt_cell hc
  have hlC := hU.lt
  have hl := sl_low r (nby wd) hr
  have hh := sl_high r (nby wd) hr
  have KN : Hid (∀ wx, Below w.heap.size w wx → Calls Tryz.prog 104 #[.agg #[.int .i64 wd, .int .i64 (nby wd : Int), .bool big, .bool uns], .string (r.extract 0 (nby wd))] wx fun e w' => e = .returned (.int .i64 (decM wd uns (rawN (r.extract 0 (nby wd)) big))) ∧ Hid (Below w.heap.size w w')) := fun wx hx =>
    (number_spec wd big uns _ h4 h32 (by rw [ByteArray.size_extract]; omega) wx).mono fun e w' h => ⟨h.1, hx.trans (h.2.mono hx.size)⟩
  generalize decM wd uns (rawN (r.extract 0 (nby wd)) big) = x at *
  have ks := isSample_spec x wd h4 h32
  generalize sampB x wd = sb at *
  generalize hrl : r.extract 0 (nby wd) = rl at *
  generalize hrh : r.extract (nby wd) r.size = rh at *
  clear hrl hrh
  have HU : Hid (Uc w0 C wd big uns r w) := hU
  have HS : Hid (∀ wx, Hid (Below w.heap.size w wx) → wx.cell? ⟨C, 0, none⟩ = some (.int .i64 wd) ∧ wx.cell? ⟨C, 1, none⟩ = some (.int .i64 (nby wd : Int)) ∧ wx.cell? ⟨C, 2, none⟩ = some (.bool big) ∧ wx.cell? ⟨C, 3, none⟩ = some (.bool uns) ∧ wx.cell? ⟨w0.heap.size, 0, none⟩ = some (.string r)) := fun wx hx =>
    have h := HU.out.next hx.out
    ⟨h.c0, h.c1, h.c2, h.c3, h.s0⟩
  have HS2 : Hid (∀ wx v, Hid (Below w.heap.size w wx) → (wx.setCell ⟨b, o, none⟩ v).cell? ⟨C, 0, none⟩ = some (.int .i64 wd) ∧ (wx.setCell ⟨b, o, none⟩ v).cell? ⟨C, 1, none⟩ = some (.int .i64 (nby wd : Int)) ∧ (wx.setCell ⟨b, o, none⟩ v).cell? ⟨C, 2, none⟩ = some (.bool big) ∧ (wx.setCell ⟨b, o, none⟩ v).cell? ⟨C, 3, none⟩ = some (.bool uns) ∧ (wx.setCell ⟨b, o, none⟩ v).cell? ⟨w0.heap.size, 0, none⟩ = some (.string r)) := fun wx v hx =>
    have h := (HU.out.next hx.out).set ⟨b, o, none⟩ v hb
    ⟨h.c0, h.c1, h.c2, h.c3, h.s0⟩
  have HV : Hid (∀ wx, Hid (Below w.heap.size w wx) → wx.cell? ⟨b, o, none⟩ = some (.int .i64 old) ∧ wx.frozen? ⟨b, o, none⟩ = false) := fun wx hx => by
    have hblk := hx.out.block b hbl
    refine ⟨by rw [← hc]; exact World.cell?_of_block (w := w) hblk, ?_⟩
    rw [← hf]
    simp only [World.frozen?, hblk]
  have HD : Hid (Below w.heap.size w w.drew) := (Below.refl _ _).drew
  clear hU hc hf
  go_enter Tryz.func103, Tryz.ntmps103
  go_wp2_with fail
  go_region_held3 (fun wx => wx.cell? ⟨C, 0, none⟩ = some (.int .i64 wd) ∧ wx.cell? ⟨C, 1, none⟩ = some (.int .i64 (nby wd : Int)) ∧ wx.cell? ⟨C, 2, none⟩ = some (.bool big) ∧ wx.cell? ⟨C, 3, none⟩ = some (.bool uns) ∧ wx.cell? ⟨w0.heap.size, 0, none⟩ = some (.string r)) (first | exact HS.out _ (by assumption) | exact HS2.out _ _ (by assumption))
    (first
      | (go_at_call 104; refine (KN.out _ (Hid.out (by assumption))).mono ?_; rintro e w5 ⟨rfl, h5⟩; have g1 := (HV.out w5 h5).1; have g2 := (HV.out w5 h5).2))
  rename_i hHd
  clear hHd
  have HU6 : Hid (Uc w0 C wd big uns r (w5.setCell ⟨b, o, none⟩ (.int .i64 x))) := (HU.out.next h5.out).set ⟨b, o, none⟩ _ hb
  have g3 : (w5.setCell ⟨b, o, none⟩ (.int .i64 x)).cell? ⟨b, o, none⟩ = some (.int .i64 x) := World.cell?_setCell_same _ _ _ g1
  generalize hw6 : w5.setCell ⟨b, o, none⟩ (.int .i64 x) = w6 at *
  have HW6 : Hid (w5.setCell ⟨b, o, none⟩ (.int .i64 x) = w6) := hw6
  clear hw6 g1 g2 HS HS2 HV HD KN
  have f0 := HU6.out.s0
  have f1 := HU6.out.c1
  have f2 := HU6.out.fz
  have HU7 : Hid (Uc w0 C wd big uns rh (w6.setCell ⟨w0.heap.size, 0, none⟩ (.string rh))) := HU6.out.text rh
  have g7 : (w6.setCell ⟨w0.heap.size, 0, none⟩ (.string rh)).cell? ⟨b, o, none⟩ = some (.int .i64 x) := by
    rw [World.cell?_setCell_other _ _ _ _ (by intro e; injection e with e1 e2; omega)]
    exact g3
  have v7 := HU7.out.wc
  clear g3
  go_wp2_with fail
  clear f0 f1 f2
  generalize hw7 : w6.setCell ⟨w0.heap.size, 0, none⟩ (.string rh) = w7 at *
  have HW7 : Hid (w6.setCell ⟨w0.heap.size, 0, none⟩ (.string rh) = w7) := hw7
  clear hw7
  go_quiet ((go_at_call 84; exact Calls.quiet_of_same (ks _)))
  go_wp2_with fail
  go_ret
  exact ⟨rfl, w5, _, h5.out, by rw [HW6.out, HW7.out]⟩

end Go.Proofs.YtaepgjheknkojaaGreat

namespace Go.Proofs.YtaepgjheknkojaaGreat
open Go.RowKit
set_option linter.unusedSimpArgs false
set_option linter.unusedVariables false

/-- Planes that are all as long: where they lie. -/
theorem planes_of (xs : List (List Int)) (n b off : Nat) (w : World) (hr : RowsAt w (some ⟨b, off, none⟩) xs) (h2 : ∀ k, k < xs.length → (xs.getD k []).length = n) :
    ∃ (ra : Nat → Option Addr) (rc : Nat → Nat), ∀ k, k < xs.length → (∀ wx, Below w.heap.size w wx → wx.cell? ⟨b, off + k, none⟩ = some (.slice (ra k) n (rc k))) ∧ IntsAt w (ra k) (xs.getD k []) := by
  have hrow : ∀ k, k < xs.length → ∃ a c, (∀ wx, Below w.heap.size w wx → wx.cell? ⟨b, off + k, none⟩ = some (.slice a n c)) ∧ IntsAt w a (xs.getD k []) := fun k hk => by
    obtain ⟨b1, off1, a, c, e, _, hcell, hints⟩ := hr.at k hk
    have e' : b = b1 ∧ off = off1 := by
      injection e with e
      injection e with e1 e2
      exact ⟨e1, e2⟩
    obtain ⟨rfl, rfl⟩ := e'
    rw [h2 k hk] at hcell
    exact ⟨a, c, hcell, hints⟩
  let ra : Nat → Option Addr := fun k => if h : k < xs.length then Classical.choose (hrow k h) else none
  have hra : ∀ k (h : k < xs.length), ∃ c, (∀ wx, Below w.heap.size w wx → wx.cell? ⟨b, off + k, none⟩ = some (.slice (ra k) n c)) ∧ IntsAt w (ra k) (xs.getD k []) := fun k h => by
    have e : ra k = Classical.choose (hrow k h) := dif_pos h
    rw [e]
    exact Classical.choose_spec (hrow k h)
  let rc : Nat → Nat := fun k => if h : k < xs.length then Classical.choose (hra k h) else 0
  refine ⟨ra, rc, fun k h => ?_⟩
  have e : rc k = Classical.choose (hra k h) := dif_pos h
  rw [e]
  exact Classical.choose_spec (hra k h)

def packT (p : Pcm) (big uns : Bool) (c : Nat) : Nat → List Nat
  | 0 => []
  | t + 1 => packT p big uns c t ++ codeL big p.wd uns ((p.pl.getD (t % c) []).getD (t / c) 0)
theorem packT_frame (p : Pcm) (big uns : Bool) (i : Nat) (h0 : packT p big uns p.ch.toNat (i * p.ch.toNat) = packL p big uns i) : ∀ k, k ≤ p.ch.toNat → packT p big uns p.ch.toNat (i * p.ch.toNat + k) = packL p big uns i ++ frameL p big uns i k
  | 0, _ => by rw [Nat.add_zero, h0]; show _ = _ ++ []; rw [List.append_nil]
  | k + 1, hk => by
    rw [← Nat.add_assoc, packT, packT_frame p big uns i h0 k (by omega), frameL_succ, List.append_assoc]
    have e1 : (i * p.ch.toNat + k) % p.ch.toNat = k := by rw [Nat.mul_comm, Nat.mul_add_mod, Nat.mod_eq_of_lt (by omega)]
    have e2 : (i * p.ch.toNat + k) / p.ch.toNat = i := by rw [Nat.mul_comm, Nat.mul_add_div (by omega), Nat.div_eq_of_lt (by omega), Nat.add_zero]
    rw [e1, e2]
theorem packT_full (p : Pcm) (big uns : Bool) : ∀ i, packT p big uns p.ch.toNat (i * p.ch.toNat) = packL p big uns i
  | 0 => by rw [Nat.zero_mul]; rfl
  | i + 1 => by rw [Nat.succ_mul, packT_frame p big uns i (packT_full p big uns i) _ (Nat.le_refl _), packL_succ]
theorem packT_length (p : Pcm) (big uns : Bool) (c : Nat) : ∀ t, (packT p big uns c t).length = t * nby p.wd
  | 0 => by rw [Nat.zero_mul]; rfl
  | t + 1 => by rw [packT, List.length_append, packT_length p big uns c t, codeL_length, Nat.succ_mul]

/-- Pack's answer. -/
def pakN (p : Pcm) (big uns : Bool) : ByteArray := if checkN p = 0 then textOf (packL p big uns (lenP p)) else ⟨#[]⟩

theorem ok_parts (p : Pcm) (hc : checkN p = 0) : (mayB p.rate p.ch p.wd && evenB p) = true ∧ lenP p ≤ 1048576 ∧ (∀ k, k < p.pl.length → (p.pl.getD k []).length = lenP p) ∧ (p.pl.length = p.ch.toNat) ∧ (∀ i k, i < lenP p → k < p.pl.length → sampB ((p.pl.getD k []).getD i 0) p.wd = true) := by
  have hh : (mayB p.rate p.ch p.wd && evenB p) = true := by
    cases h : (mayB p.rate p.ch p.wd && evenB p) with
    | true => rfl
    | false => rw [check_uneven p h] at hc; exact absurd hc (by decide)
  have hsm : ∀ i k, i < lenP p → k < p.pl.length → sampB ((p.pl.getD k []).getD i 0) p.wd = true := fun i k hi hk => by
    cases h : sampB ((p.pl.getD k []).getD i 0) p.wd with
    | true => rfl
    | false => rw [check_bad p hh i k hi hk h] at hc; exact absurd hc (by decide)
  have hl : lenP p ≤ 1048576 := by
    rw [check_samples p hh hsm] at hc
    by_cases h : 1048576 < lenP p
    · rw [if_pos h] at hc; exact absurd hc (by decide)
    · omega
  have hh2 := hh
  rw [Bool.and_eq_true] at hh2
  obtain ⟨h1, h2⟩ := row_len p hh2.2
  exact ⟨hh, hl, h2, by omega, hsm⟩

set_option maxHeartbeats 1600000 in
theorem packTurn (p : Pcm) (b off : Nat) (big uns : Bool) (w : World) (hr : RowsAt w (some ⟨b, off, none⟩) p.pl) (hc : checkN p = 0) (C S : Nat) :
    ∃ ra rc, Turn b off (lenP p) p.pl.length ra rc 61 #[.pointer (some ⟨S, 0, none⟩), .pointer (some ⟨C, 0, none⟩)] (fun t wx => t ≤ lenP p * p.pl.length ∧ Pw w C S p.wd big uns (packT p big uns p.pl.length t) wx) (fun wx => False) := by
  obtain ⟨hh, hl, h2, hch, hsm⟩ := ok_parts p hc
  have hm := check_head_ok p hc
  have hnb := nby_range p.wd (by omega) (by omega)
  obtain ⟨ra, rc, hrc⟩ := planes_of p.pl (lenP p) b off w hr h2
  refine ⟨ra, rc, fun t wx hI k hk => (hrc k hk).1 wx hI.2.below, fun h0 k hk => ?_, fun i k wx hi hk hI b' o' he => ?_⟩
  · obtain ⟨b', o', e, _⟩ := (hrc k hk).2.lies (by rw [h2 k hk]; exact h0)
    exact ⟨b', o', e⟩
  · obtain ⟨b2, o2, e, hcell, _, _⟩ := (hrc k hk).2.at i (by rw [h2 k hk]; exact hi)
    rw [he] at e
    have e' : b' = b2 ∧ o' = o2 := by
      injection e with e
      injection e with e1 e2
      exact ⟨e1, e2⟩
    obtain ⟨rfl, rfl⟩ := e'
    have hcw := hcell w (Below.refl _ _)
    have hlt : i * p.pl.length + k < lenP p * p.pl.length := by
      have : i * p.pl.length + k < (i + 1) * p.pl.length := by rw [Nat.succ_mul]; omega
      exact Nat.lt_of_lt_of_le this (Nat.mul_le_mul_right _ hi)
    have hbig : lenP p * p.pl.length ≤ 1048576 * 8 := Nat.mul_le_mul hl (by omega)
    have e1 : (i * p.pl.length + k) % p.pl.length = k := by rw [Nat.mul_comm, Nat.mul_add_mod, Nat.mod_eq_of_lt hk]
    have e2 : (i * p.pl.length + k) / p.pl.length = i := by rw [Nat.mul_comm, Nat.mul_add_div (by omega), Nat.div_eq_of_lt hk, Nat.add_zero]
    refine (packC_spec w wx C S p.wd big uns _ _ b' (o' + i) (by omega) (by omega) (hsm i k hi hk) ?_ hI.2 (lt_cell hcw) hcw).mono ?_
    · rw [packT_length]
      exact Nat.le_trans (Nat.mul_le_mul (Nat.le_trans (Nat.le_of_lt hlt) hbig) hnb.2.1) (by decide)
    · rintro e w' ⟨rfl, h⟩
      refine Or.inl ⟨rfl, hlt, ?_⟩
      show Pw w C S p.wd big uns (packT p big uns p.pl.length (i * p.pl.length + k) ++ codeL big p.wd uns ((p.pl.getD ((i * p.pl.length + k) % p.pl.length) []).getD ((i * p.pl.length + k) / p.pl.length) 0)) w'
      rw [e1, e2]
      exact h

/-- What Pack keeps ahead of its closure: the samples, the cell's ways, a builder that was not written. -/
structure Pg (w0 : World) (C S : Nat) (wd : Int) (big uns : Bool) (w : World) : Prop where
  cell : w.heap[C]? = some (.cells (cellC wd big uns) 104 (0, 0))
  bld : w.heap[S]? = some (.cells #[.pointer none, .slice none 0 0] 109 (0, 0))
  lo : w0.heap.size ≤ C
  lt : C < S
  below : Below w0.heap.size w0 w
section
variable {w0 w w' : World} {C S : Nat} {wd : Int} {big uns : Bool}
theorem Pg.next (h : Pg w0 C S wd big uns w) (hB : Below w.heap.size w w') : Pg w0 C S wd big uns w' :=
  ⟨by rw [hB.block _ (lt_of_block h.cell)]; exact h.cell, by rw [hB.block _ (lt_of_block h.bld)]; exact h.bld, h.lo, h.lt, h.below.trans (hB.mono h.below.size)⟩
theorem Pg.c1 (h : Pg w0 C S wd big uns w) : w.cell? ⟨C, 1, none⟩ = some (.int .i64 (nby wd : Int)) := by rw [cell_of_row _ _ _ _ _ _ h.cell]; rfl
theorem Pg.grow (h : Pg w0 C S wd big uns w) (n : Nat) (hn : n ≤ 281474976710656) :
    Calls Tryz.prog 58 #[.pointer (some ⟨S, 0, none⟩), .int .i64 (n : Int)] w fun e w' => e = .returned (.tuple #[]) ∧ Pw w0 C S wd big uns [] w' := by
  have hlt := lt_of_block h.bld
  refine (grow_spec S S n w (Nat.le_refl _) h.bld (Nat.le_of_lt hlt) hn).mono ?_
  rintro e w' ⟨rfl, h1, h2⟩
  exact ⟨rfl, by rw [h2.block _ h.lt]; exact h.cell, h1, h.lo, h.lt, h.below.trans (h2.mono (by have := h.lo; have := h.lt; omega))⟩
theorem Pw.string {l : List Nat} (h : Pw w0 C S wd big uns l w) : Calls Tryz.prog 64 #[.pointer (some ⟨S, 0, none⟩)] w fun e w' => e = .returned (.string (textOf l)) ∧ Below w0.heap.size w0 w' := by
  have hlt := h.bld.lt
  refine (string_spec S S (textOf l).data.toList w (Or.inr h.bld) (Nat.le_of_lt hlt)).mono ?_
  rintro e w' ⟨rfl, h2⟩
  exact ⟨rfl, h.below.trans (h2.mono (by have := h.lo; have := h.lt; omega))⟩
end

end Go.Proofs.YtaepgjheknkojaaGreat
