/- Own text: the walk of what Pack's closure does. what fmt says: the walks of le, tagOf, block, hasWidth, isSupported. -/
import Derived.Test.YtfnkdahocehilaaGreatQ5text
import Derived.Test.YtfnkdahocehilaaGreatQ5fits
import Derived.Test.YtfnkdahocehilaaGreatQ5shelf
import Derived.Deep.RegionHeld3
import Derived.Test.YtfnkdahocehilaaGreatG10x
namespace Go.Proofs.YtfnkdahocehilaaGreat
open Go.RowKit
set_option linter.unusedSimpArgs false
set_option linter.unusedVariables false

theorem res_one {fn : Func} {p : Tmp} {ty : TypeId} (h : fn.results = #[.cell p ty]) (tmps : Array Value) (P : Program) (w : World) :
    (results fn tmps).run P w = ((asAddr (tmps.getD p undef)).run P w).andThen fun a w₁ => (loadVar ty a).run P w₁ := by
  simp only [results, h]
  simp [Sem.run_bind, Result.andThen]
theorem infCell : (Tryz.prog.info? 122).map (·.size) = some 4 := by kernel_rfl

set_option maxRecDepth 20000 in
set_option maxHeartbeats 1600000 in
theorem cellOf_spec (wd : Int) (big uns : Bool) (h4 : 4 ≤ wd) (h32 : wd ≤ 32) (w : World) :
    Calls Tryz.prog 68 #[.int .i64 wd, .agg #[.bool big, .bool uns]] w fun e w' => e = .returned (.agg (cellC wd big uns)) ∧ Below w.heap.size w w' := by
  have hq : (wd + 7) / 8 = (nby wd : Int) := by have := nby_range wd h4 h32; omega
  go_enter Tryz.func68, Tryz.ntmps68
  go_wp2_with fail
  generalize hwf : World.alloc (World.alloc w _) _ = wf
  have hrow : wf.heap[w.heap.size + 1]? = some (.cells (cellC wd big uns) 122 (0, 0)) := by
    rw [← hwf, ← show (w.alloc (.cells #[.bool big, .bool uns] 77)).heap.size = w.heap.size + 1 from by simp]
    exact heap_alloc_new _ _
  have hbel : Below w.heap.size w wf := by
    rw [← hwf]
    exact ((Below.refl _ _).alloc (Nat.le_refl _) _).alloc (by simp) _
  refine bodyPost_ret (v := .agg (cellC wd big uns)) ?_ rfl ⟨rfl, hbel⟩
  rw [res_one rfl]
  have hld := run_loadVar_row (P := Tryz.prog) wf (w.heap.size + 1) 122 122 (cellC wd big uns) (0, 0) _ hrow Tryz.underlying122 rfl infCell
  simp [asAddr, Result.andThen, hld]

/-- What Pack's closure keeps: the cell's ways, and a builder that holds these bytes. -/
structure Pw (w0 : World) (C S : Nat) (wd : Int) (big uns : Bool) (l : List Nat) (w : World) : Prop where
  cell : w.heap[C]? = some (.cells (cellC wd big uns) 122 (0, 0))
  bld : Lib.BuilderAt 102 5 S S (.pointer (some ⟨S, 0, none⟩)) (Lib.strCells (textOf l)) w
  lo : w0.heap.size ≤ C
  lt : C < S
  below : Below w0.heap.size w0 w
section
variable {w0 w w' : World} {C S : Nat} {wd : Int} {big uns : Bool} {l m : List Nat}
theorem builder_below {T e : TypeId} {B b : Nat} {p : Value} {bs : List Value} (h : Lib.BuilderAt T e B b p bs w) (hB : Below w.heap.size w w') : Lib.BuilderAt T e B b p bs w' := by
  obtain ⟨h1, v, h2, h3, h4⟩ := h
  refine ⟨h1, v, ?_, ?_, h4⟩
  · rw [hB.block _ (lt_of_block h2)]
    exact h2
  · exact h3.kept (row := none) ⟨hB.os, hB.tape, hB.output, hB.size, fun k hk _ => hB.block k hk⟩ (by cases hv : v.ownBlock <;> simp)
theorem Pw.next (h : Pw w0 C S wd big uns l w) (hB : Below w.heap.size w w') : Pw w0 C S wd big uns l w' :=
  ⟨by rw [hB.block _ (lt_of_block h.cell)]; exact h.cell, builder_below h.bld hB, h.lo, h.lt, h.below.trans (hB.mono h.below.size)⟩
theorem Pw.c0 (h : Pw w0 C S wd big uns l w) : w.cell? ⟨C, 0, none⟩ = some (.int .i64 wd) := by rw [cell_of_row _ _ _ _ _ _ h.cell]; rfl
theorem Pw.c1 (h : Pw w0 C S wd big uns l w) : w.cell? ⟨C, 1, none⟩ = some (.int .i64 (nby wd : Int)) := by rw [cell_of_row _ _ _ _ _ _ h.cell]; rfl
theorem Pw.c2 (h : Pw w0 C S wd big uns l w) : w.cell? ⟨C, 2, none⟩ = some (.bool big) := by rw [cell_of_row _ _ _ _ _ _ h.cell]; rfl
theorem Pw.c3 (h : Pw w0 C S wd big uns l w) : w.cell? ⟨C, 3, none⟩ = some (.bool uns) := by rw [cell_of_row _ _ _ _ _ _ h.cell]; rfl
theorem strCells_app (a b : List Nat) : Lib.strCells (textOf (a ++ b)) = Lib.strCells (textOf a) ++ Lib.strCells (textOf b) := by
  unfold Lib.strCells textOf
  simp
theorem strCells_len (a : List Nat) : (Lib.strCells (textOf a)).length = a.length := by
  unfold Lib.strCells textOf
  simp
theorem Pw.write (h : Pw w0 C S wd big uns l w) (hl : l.length + m.length ≤ 140737488355328) :
    Calls Tryz.prog 53 #[.pointer (some ⟨S, 0, none⟩), .string (textOf m)] w fun e w' => e = .returned (.tuple #[.int .i64 (m.length : Int), .nilIface]) ∧ Pw w0 C S wd big uns (l ++ m) w' := by
  have hlt := h.bld.lt
  refine (write_spec S S _ (textOf m) w (Or.inr h.bld) (by rw [strCells_len, textOf_size]; exact hl) (Nat.le_of_lt hlt)).mono ?_
  rintro e w' ⟨rfl, h1, h2⟩
  refine ⟨by rw [textOf_size], ?_, ?_, h.lo, h.lt, ?_⟩
  · rw [h2.block _ h.lt]
    exact h.cell
  · rw [strCells_app]
    exact h1
  · exact h.below.trans (h2.mono (by have := h.lo; have := h.lt; omega))
end

set_option maxRecDepth 20000 in
set_option maxHeartbeats 3200000 in
theorem packC_spec (w0 w : World) (C S : Nat) (wd : Int) (big uns : Bool) (l : List Nat) (n : Int) (b o : Nat) (h4 : 4 ≤ wd) (h32 : wd ≤ 32) (hs : sampB n wd = true) (hl : l.length ≤ 100000000000000)
    (hP : Pw w0 C S wd big uns l w) (hb : b < w0.heap.size) (hc : w0.cell? ⟨b, o, none⟩ = some (.int .i64 n)) :
    Calls Tryz.prog 71 #[.pointer (some ⟨b, o, none⟩), .pointer (some ⟨S, 0, none⟩), .pointer (some ⟨C, 0, none⟩)] w fun e w' => e = .returned (.bool true) ∧ Pw w0 C S wd big uns (l ++ codeL big wd uns n) w' := by
  have hlen := codeL_length big wd uns n
  have hnb : nby wd ≤ 4 := (nby_range wd h4 h32).2.1
  generalize hm : codeL big wd uns n = m at *
  have HC : Hid (∀ l' wx, Hid (Pw w0 C S wd big uns l' wx) → wx.cell? ⟨C, 0, none⟩ = some (.int .i64 wd) ∧ wx.cell? ⟨C, 1, none⟩ = some (.int .i64 (nby wd : Int)) ∧ wx.cell? ⟨C, 2, none⟩ = some (.bool big) ∧ wx.cell? ⟨C, 3, none⟩ = some (.bool uns) ∧ wx.cell? ⟨b, o, none⟩ = some (.int .i64 n)) := fun l' wx h =>
    ⟨h.out.c0, h.out.c1, h.out.c2, h.out.c3, by rw [h.out.below.cell (p := ⟨b, o, none⟩) hb]; exact hc⟩
  have KT : Hid (∀ wx, Hid (Pw w0 C S wd big uns l wx) → Calls Tryz.prog 72 #[.agg #[.int .i64 wd, .int .i64 (nby wd : Int), .bool big, .bool uns], .int .i64 n] wx fun e w' => e = .returned (.string (textOf m)) ∧ Hid (Pw w0 C S wd big uns l w')) := fun wx h =>
    (text_spec wd n big uns h4 h32 hs wx).mono fun e w' h1 => ⟨by rw [h1.1, hm], h.out.next h1.2⟩
  have KW : Hid (∀ wx, Hid (Pw w0 C S wd big uns l wx) → Calls Tryz.prog 53 #[.pointer (some ⟨S, 0, none⟩), .string (textOf m)] wx fun e w' => e = .returned (.tuple #[.int .i64 (m.length : Int), .nilIface]) ∧ Hid (Pw w0 C S wd big uns (l ++ m) w')) := fun wx h => (h.out.write (by omega)).mono fun e w' h1 => ⟨h1.1, h1.2⟩
  have HD : Hid (Pw w0 C S wd big uns l w.drew) := hP.next ⟨rfl, rfl, rfl, Nat.le_refl _, fun _ _ => rfl⟩
  have HP : Hid (Pw w0 C S wd big uns l w) := hP
  clear hP hc hs hm
  go_enter Tryz.func71, Tryz.ntmps71
  go_wp2_with fail
  go_region_held3 (fun wx => wx.cell? ⟨C, 0, none⟩ = some (.int .i64 wd) ∧ wx.cell? ⟨C, 1, none⟩ = some (.int .i64 (nby wd : Int)) ∧ wx.cell? ⟨C, 2, none⟩ = some (.bool big) ∧ wx.cell? ⟨C, 3, none⟩ = some (.bool uns) ∧ wx.cell? ⟨b, o, none⟩ = some (.int .i64 n)) (first | exact HC.out l _ (by assumption) | exact HC.out (l ++ m) _ (by assumption))
    (first
      | (go_at_call 72; refine (KT.out _ (by assumption)).mono ?_; rintro e w5 ⟨rfl, h5⟩)
      | (go_at_call 53; refine (KW.out _ (by assumption)).mono ?_; rintro e w6 ⟨rfl, h6⟩))
  go_wp2_with fail
  go_ret
  exact ⟨rfl, (by assumption : Hid (Pw w0 C S wd big uns (l ++ m) _)).out⟩

end Go.Proofs.YtfnkdahocehilaaGreat

namespace Go.Proofs.YtfnkdahocehilaaGreat
open Go.RowKit
set_option linter.unusedSimpArgs false
set_option linter.unusedVariables false

/-- What fmt says of the samples. -/
structure Snd where
  rate : Int
  ch : Int
  wd : Int
abbrev sndC (a : Snd) : Array Value := #[.int .i64 a.rate, .int .i64 a.ch, .int .i64 a.wd]
abbrev sndV (a : Snd) : Value := .agg (sndC a)
def noSnd : Snd := ⟨0, 0, 0⟩
def blkN (a : Snd) : Int := a.ch * a.wd / 8
def tagN (n : Nat) : Int := if n = 16 ∨ n = 18 then 1 else if n = 40 then 65534 else 0
def wdOk (wd : Int) : Bool := wd == 8 || (wd == 16 || (wd == 24 || wd == 32))
def supB (a : Snd) : Bool := decide (a.ch ≤ 8) && (decide (a.rate ≤ 655350) && wdOk a.wd)
def guidT : ByteArray := ⟨#[1, 0, 0, 0, 0, 0, 16, 0, 128, 0, 0, 170, 0, 56, 155, 113]⟩
def headT (a : Snd) (n : Nat) : ByteArray := leT (tagN n) 2 ++ leT a.ch 2 ++ leT a.rate 4 ++ leT (a.rate * blkN a) 4 ++ leT (blkN a) 2 ++ leT a.wd 2
def bodyT (a : Snd) (n : Nat) (sp : ByteArray) : ByteArray := if n = 18 then headT a n ++ leT 0 2 else if n = 40 then headT a n ++ (leT 22 2 ++ leT a.wd 2 ++ sp ++ guidT) else headT a n
/-- The numbers of a fmt that may be looked at. -/
structure FairS (a : Snd) : Prop where
  r0 : 0 ≤ a.rate
  r1 : a.rate ≤ 4294967295
  c0 : 0 ≤ a.ch
  c1 : a.ch ≤ 8
  w0 : 0 ≤ a.wd
  w1 : a.wd ≤ 32
theorem FairS.blk {a : Snd} (h : FairS a) : 0 ≤ blkN a ∧ blkN a ≤ 32 := by
  have h1 : 0 ≤ a.ch * a.wd := Int.mul_nonneg h.c0 h.w0
  have h2 : a.ch * a.wd ≤ 8 * 32 := Int.mul_le_mul h.c1 h.w1 h.w0 (by decide)
  unfold blkN
  omega
theorem FairS.mul {a : Snd} (h : FairS a) : 0 ≤ a.ch * a.wd ∧ a.ch * a.wd ≤ 256 := by
  have h1 : 0 ≤ a.ch * a.wd := Int.mul_nonneg h.c0 h.w0
  have h2 : a.ch * a.wd ≤ 8 * 32 := Int.mul_le_mul h.c1 h.w1 h.w0 (by decide)
  omega
theorem FairS.rb {a : Snd} (h : FairS a) : 0 ≤ a.rate * blkN a ∧ a.rate * blkN a ≤ 137438953440 := by
  have hb := h.blk
  have h1 : 0 ≤ a.rate * blkN a := Int.mul_nonneg h.r0 hb.1
  have h2 : a.rate * blkN a ≤ 4294967295 * 32 := Int.mul_le_mul h.r1 hb.2 hb.1 (by decide)
  omega

set_option maxRecDepth 20000 in
set_option maxHeartbeats 3200000 in
theorem rle_spec (n k : Int) (h1 : -9223372036854775808 ≤ n) (h2 : n ≤ 9223372036854775807) (w : World) :
    Calls Tryz.prog 79 #[.int .i64 n, .int .i64 k] w fun e w' => e = .returned (.string (leT n k)) ∧ Below w.heap.size w w' := by
  have kl := le_spec n k h1 h2 w
  generalize leT n k = T at *
  generalize wE n k = E at *
  go_enter Tryz.func79, Tryz.ntmps79
  go_wp2_with fail
  refine kl.mono ?_
  rintro e w2 ⟨rfl, hB⟩
  have HB : Hid (Below w.heap.size w w2) := hB
  clear hB kl
  go_wp2_with fail
  go_ret
  exact ⟨rfl, HB.out⟩

set_option maxRecDepth 20000 in
set_option maxHeartbeats 3200000 in
theorem tagOf_spec (n : Nat) (w : World) :
    Calls Tryz.prog 105 #[.int .i64 (n : Int)] w fun e w' => e = .returned (.int .i64 (tagN n)) ∧ w' = w := by
  by_cases h16 : n = 16
  · subst h16
    go_enter Tryz.func105, Tryz.ntmps105
    go_wp2_with fail
    go_ret
    exact ⟨rfl, rfl⟩
  · by_cases h18 : n = 18
    · subst h18
      go_enter Tryz.func105, Tryz.ntmps105
      go_wp2_with fail
      go_ret
      exact ⟨rfl, rfl⟩
    · by_cases h40 : n = 40
      · subst h40
        go_enter Tryz.func105, Tryz.ntmps105
        go_wp2_with fail
        go_ret
        exact ⟨rfl, rfl⟩
      · have HT : Hid (tagN n = 0) := by
          show _ = _
          unfold tagN
          rw [if_neg (by omega), if_neg h40]
        have b16 : ((n : Int) == 16) = false := by rw [beq_eq_false_iff_ne]; omega
        have b18 : ((n : Int) == 18) = false := by rw [beq_eq_false_iff_ne]; omega
        have b40 : ((n : Int) == 40) = false := by rw [beq_eq_false_iff_ne]; omega
        go_enter Tryz.func105, Tryz.ntmps105
        go_wp2_with fail
        go_ret
        exact ⟨by rw [HT.out]; rfl, rfl⟩

set_option maxRecDepth 20000 in
set_option maxHeartbeats 3200000 in
theorem block_spec (a : Snd) (h : FairS a) (w : World) :
    Calls Tryz.prog 103 #[sndV a] w fun e w' => e = .returned (.int .i64 (blkN a)) ∧ Below w.heap.size w w' := by
  have hm := h.mul
  have HB : Hid (Below w.heap.size w (w.alloc (.cells (sndC a) 73))) := (Below.refl _ _).alloc (Nat.le_refl _) _
  have H1 : Hid (wrap64 (a.ch * a.wd) = a.ch * a.wd) := by
    show _ = _
    generalize a.ch * a.wd = m at *
    simp only [wrap64]
    omega
  have H2 : Hid (wrap64 ((a.ch * a.wd).tdiv 8) = blkN a) := by
    show _ = _
    unfold blkN
    generalize a.ch * a.wd = m at *
    rw [Int.tdiv_eq_ediv_of_nonneg hm.1]
    simp only [wrap64]
    omega
  clear h hm
  go_enter Tryz.func103, Tryz.ntmps103
  go_wp2_with fail
  go_ret
  refine ⟨?_, HB.out⟩
  show Ending.returned (Value.int .i64 (wrap64 ((wrap64 (a.ch * a.wd)).tdiv 8))) = _
  rw [H1.out, H2.out]

set_option maxRecDepth 20000 in
set_option maxHeartbeats 3200000 in
theorem rhasWidth_spec (wd : Int) (w : World) :
    Calls Tryz.prog 120 #[.int .i64 wd] w fun e w' => e = .returned (.bool (wdOk wd)) ∧ w' = w := by
  have HW : Hid (wdOk wd = (wd == 8 || (wd == 16 || (wd == 24 || wd == 32)))) := rfl
  cases h8 : wd == 8
  · cases h16 : wd == 16
    · cases h24 : wd == 24
      · go_enter Tryz.func120, Tryz.ntmps120
        go_wp2_with fail
        go_ret
        exact ⟨by rw [HW.out, h8, h16, h24]; rfl, rfl⟩
      · go_enter Tryz.func120, Tryz.ntmps120
        go_wp2_with fail
        go_ret
        exact ⟨by rw [HW.out, h8, h16, h24]; rfl, rfl⟩
    · go_enter Tryz.func120, Tryz.ntmps120
      go_wp2_with fail
      go_ret
      exact ⟨by rw [HW.out, h8, h16]; rfl, rfl⟩
  · go_enter Tryz.func120, Tryz.ntmps120
    go_wp2_with fail
    go_ret
    exact ⟨by rw [HW.out, h8]; rfl, rfl⟩

set_option maxRecDepth 20000 in
set_option maxHeartbeats 3200000 in
theorem isSupported_spec (a : Snd) (w : World) :
    Calls Tryz.prog 118 #[sndV a] w fun e w' => e = .returned (.bool (supB a)) ∧ Below w.heap.size w w' := by
  have HW : Hid (supB a = (decide (a.ch ≤ 8) && (decide (a.rate ≤ 655350) && wdOk a.wd))) := rfl
  have HB : Hid (Below w.heap.size w (w.alloc (.cells (sndC a) 73))) := (Below.refl _ _).alloc (Nat.le_refl _) _
  have kw := rhasWidth_spec a.wd (w.alloc (.cells (sndC a) 73))
  generalize wdOk a.wd = ok at *
  cases h8 : decide (a.ch ≤ 8)
  · go_enter Tryz.func118, Tryz.ntmps118
    go_wp2_with fail
    go_ret
    exact ⟨by rw [HW.out, h8]; rfl, HB.out⟩
  · cases hr : decide (a.rate ≤ 655350)
    · go_enter Tryz.func118, Tryz.ntmps118
      go_wp2_with fail
      go_ret
      exact ⟨by rw [HW.out, h8, hr]; rfl, HB.out⟩
    · go_enter Tryz.func118, Tryz.ntmps118
      go_wp2_with fail
      refine kw.mono ?_
      rintro e w2 ⟨rfl, rfl⟩
      go_wp2_with fail
      go_ret
      exact ⟨by rw [HW.out, h8, hr]; rfl, HB.out⟩

end Go.Proofs.YtfnkdahocehilaaGreat
