/- Own text. -/
import Derived.Test.YtfpfabmbipmipaaGreatDoorD21
set_option linter.unusedSimpArgs false
set_option linter.unusedVariables false
set_option maxRecDepth 20000
set_option maxHeartbeats 12800000
namespace Go.Proofs.YtfpfabmbipmipaaGreatDoor
open Go.RowKit
theorem FX.cells {w wx : World} {f : Fm} {so : OA} {sk : Nat} {a b c d : Int} {i : Inf} {e : Int} {s : ByteArray} (h : FX w f so sk a b c d i e s wx) : wx.cell? ⟨w.heap.size, 0, none⟩ = some (.bool f.v) /\ wx.cell? ⟨w.heap.size, 1, none⟩ = some (.int .i64 f.num) /\ wx.cell? ⟨w.heap.size, 2, none⟩ = some (.int .i64 f.size) /\ wx.cell? ⟨w.heap.size, 3, none⟩ = some (.int .i64 f.sc) /\ wx.cell? ⟨w.heap.size, 4, none⟩ = some (.int .i64 f.rc) /\ wx.cell? ⟨w.heap.size, 5, none⟩ = some (.int .i64 f.wc) /\ wx.cell? ⟨w.heap.size, 6, none⟩ = some (.int .i64 f.mo) /\ wx.cell? ⟨w.heap.size, 7, none⟩ = some (.slice so f.S.length sk) /\ wx.cell? ⟨w.heap.size + 1, 0, none⟩ = some (.int .i64 a) /\ wx.cell? ⟨w.heap.size + 1, 1, none⟩ = some (.int .i64 b) /\ wx.cell? ⟨w.heap.size + 1, 2, none⟩ = some (.int .i64 c) /\ wx.cell? ⟨w.heap.size + 1, 3, none⟩ = some (.int .i64 d) /\ wx.cell? ⟨w.heap.size + 1, 4, none⟩ = some (.int .i64 i.rate) /\ wx.cell? ⟨w.heap.size + 1, 5, none⟩ = some (.int .i64 i.ch) /\ wx.cell? ⟨w.heap.size + 1, 6, none⟩ = some (.int .i64 i.wd) /\ wx.cell? ⟨w.heap.size + 1, 7, none⟩ = some (.int .i64 e) /\ wx.cell? ⟨w.heap.size + 1, 8, none⟩ = some (.string s) := by
 obtain ⟨z0, z1, z2, z3, z4, z5, z6, z7⟩ := fm_cells h.fb
 obtain ⟨y0, y1, y2, y3, y4, y5, y6, y7, y8⟩ := inf_cells h.ib
 exact ⟨z0, z1, z2, z3, z4, z5, z6, z7, y0, y1, y2, y3, y4, y5, y6, y7, y8⟩
theorem f_may (a b c d : Int) (i : Inf) (e : Int) (s : ByteArray) (bb : Bool) (hbb : bb = true ↔ mayF i) (w : World) : Calls Tryz.prog 82 #[infV a b c d i e s] w fun en w' => en = .returned (.bool bb) /\ Lo w w' := by
 by_cases g0 : i.ch < 1
 focus
  rw [bb_no hbb (fun h => by have := h.1; have := h.2.1; have := h.2.2; omega)]
  clear hbb
 rotate_left
 focus
  skip
  by_cases g1 : 8 < i.ch
  focus
   rw [bb_no hbb (fun h => by have := h.1; have := h.2.1; have := h.2.2; omega)]
   clear hbb
  rotate_left
  focus
   skip
   by_cases g2 : i.wd < 4
   focus
    rw [bb_no hbb (fun h => by have := h.1; have := h.2.1; have := h.2.2; omega)]
    clear hbb
   rotate_left
   focus
    skip
    by_cases g3 : 24 < i.wd
    focus
     rw [bb_no hbb (fun h => by have := h.1; have := h.2.1; have := h.2.2; omega)]
     clear hbb
    rotate_left
    focus
     skip
     by_cases g4 : i.rate < 1
     focus
      rw [bb_no hbb (fun h => by have := h.1; have := h.2.1; have := h.2.2; omega)]
      clear hbb;have hb : decide (1 <= i.rate) = false := decide_eq_false (by omega)
     rotate_left
     focus
      skip
      rw [bb_yes hbb (⟨by omega, by omega, by omega⟩)]
      clear hbb;have hb : decide (1 <= i.rate) = true := decide_eq_true (by omega)
     rotate_left
    rotate_left 2
   rotate_left 3
  rotate_left 4
 rotate_left 5
 all_goals
  have HA : Hid ((w.alloc (.cells (infC a b c d i e s) 26)).heap[w.heap.size]? = some (.cells (infC a b c d i e s) 26 (0, 0)) /\ Lo w (w.alloc (.cells (infC a b c d i e s) 26))) := ⟨heap_alloc_new _ _, aQ⟩;go_enter Tryz.func82, Tryz.ntmps82
  go_upto_region 1 with fail
  generalize World.alloc _ _ = wa at *;obtain ⟨i0, i1, i2, i3, i4, i5, i6, i7, i8⟩ := inf_cells HA.out.1
  go_wp2_with fail
  go_ret;exact ⟨rfl, HA.out.2⟩
theorem f_mode (m ch : Int) (bb : Bool) (hbb : bb = true ↔ (m = 0 ∨ (ch = 2 /\ 1 <= m /\ m <= 3))) (w : World) : Calls Tryz.prog 83 #[.int .i64 m, .int .i64 ch] w fun en w' => en = .returned (.bool bb) /\ w' = w := by
 by_cases g0 : m = 0
 focus
  rw [bb_yes hbb (.inl g0)];clear hbb;have hk : (m == 0) = true := by rw [beq_iff_eq]; exact g0
  clear g0
 rotate_left
 focus
  have hk : (m == 0) = false := by rw [beq_eq_false_iff_ne]; exact g0
  by_cases g1 : ¬ ch = 2
  focus
   rw [bb_no hbb (by omega)]
   clear hbb;have hc : (ch == 2) = false := by rw [beq_eq_false_iff_ne]; exact g1
  rotate_left
  focus
   skip
   by_cases g2 : m < 1
   focus
    rw [bb_no hbb (by omega)]
    clear hbb;have hc : (ch == 2) = true := eQt (by omega)
   rotate_left
   focus
    skip
    by_cases g3 : 3 < m
    focus
     rw [bb_no hbb (by omega)]
     clear hbb;have hc : (ch == 2) = true := eQt (by omega)
     have hb : decide (m <= 3) = false := decide_eq_false (by omega)
    rotate_left
    focus
     skip
     rw [bb_yes hbb (.inr (by omega))]
     clear hbb;have hc : (ch == 2) = true := eQt (by omega)
     have hb : decide (m <= 3) = true := decide_eq_true (by omega)
    rotate_left
   rotate_left 2
  rotate_left 3
 rotate_left 4
 all_goals
  go_enter Tryz.func83, Tryz.ntmps83
  go_wp2_with fail
  go_ret;exact ⟨rfl, rfl⟩
theorem f_maxN (v : Bool) (w : World) : Calls Tryz.prog 84 #[.bool v] w fun en w' => en = .returned (.int .i64 (if v then 68719476735 else 2147483647)) /\ w' = w := by
 cases v
 ·show Calls _ _ _ _ fun en w' => en = .returned (.int .i64 2147483647) /\ w' = w
  go_enter Tryz.func84, Tryz.ntmps84
  go_wp2_with fail
  go_ret;exact ⟨rfl, rfl⟩
 ·show Calls _ _ _ _ fun en w' => en = .returned (.int .i64 68719476735) /\ w' = w
  go_enter Tryz.func84, Tryz.ntmps84
  go_wp2_with fail
  go_ret;exact ⟨rfl, rfl⟩
theorem f_fits (f : Fm) (so : OA) (sk : Nat) (a b c d : Int) (i : Inf) (e : Int) (s : ByteArray) (bb : Bool) (hbb : bb = true ↔ mayF i /\ (1 <= f.size /\ f.size <= 4608) /\ (0 <= f.num /\ f.num <= (if f.v then 68719476735 else 2147483647)) /\ (0 <= f.mo /\ f.mo <= 3 /\ (f.mo = 0 ∨ i.ch = 2))) (w : World) : Calls Tryz.prog 35 #[fmV f so sk, infV a b c d i e s] w fun en w' => en = .returned (.bool bb) /\ Lo w w' := by
 by_cases g0 : ¬ mayF i
 ·rw [bb_no hbb (fun h => g0 h.1)]
  clear hbb;have K1 : Hid (∀ wx, Hid (FX w f so sk a b c d i e s wx) -> Calls Tryz.prog 82 #[infV a b c d i e s] wx fun en w' => en = .returned (.bool false) /\ Hid (FX w f so sk a b c d i e s w')) := fun wx hx => (f_may a b c d i e s false (ff_iff (g0)) wx).mono fun en w' hh => ⟨hh.1, hx.out.next hh.2⟩;have HA : Hid (FX w f so sk a b c d i e s ((w.alloc (.cells (fmC f so sk) 24)).alloc (.cells (infC a b c d i e s) 26))) := FX.new w f so sk a b c d i e s;go_enter Tryz.func35, Tryz.ntmps35
  go_upto_region 1 with fail
  generalize World.alloc _ _ = wa at *;obtain ⟨f0, f1, f2, f3, f4, f5, f6, f7, i0, i1, i2, i3, i4, i5, i6, i7, i8⟩ := HA.out.cells;have HD := kQ HA.out.drew;clear HA f0 f1 f2 f3 f4 f5 f6 f7 i0 i1 i2 i3 i4 i5 i6 i7 i8
  go_wp2_with fail
  refine wp_region_held_drew (S := fun wx => FX w f so sk a b c d i e s wx) (by kernel_rfl) (HD.out) (fun hS => ?_)
  refine uQ 0 (infV a b c d i e s) rfl hS (Or.inl ⟨by rfl, fun w hSw => by obtain ⟨f0, f1, f2, f3, f4, f5, f6, f7, i0, i1, i2, i3, i4, i5, i6, i7, i8⟩ := hSw.cells; go_simp⟩) ?_
  simp only [SL];refine wpAnyH_ready (rs := [1]) (by kernel_rfl) (by simp) ?_
  refine AllReadyH.cons rfl (fun K hK => ?_) AllReadyH.nil;go_simp;refine (K1.out _ hS).mono ?_;rintro en w4 ⟨rfl, h4⟩;refine hK.out _ _ h4.out (fun hSw4 => ?_);clear hK K
  try simp only [SL]
  refine vQ 2 (.bool false) hSw4 ?_;simp only [SL];refine wQ 3 hSw4 ?_;simp only [SL];refine wQ 4 hSw4 ?_;simp only [SL];refine wQ 5 hSw4 ?_;simp only [SL];refine wQ 6 hSw4 ?_;simp only [SL];refine wQ 7 hSw4 ?_;simp only [SL];refine vQ 8 (.bool false) hSw4 ?_;simp only [SL];refine vQ 9 (.bool false) hSw4 ?_;simp only [SL];refine wQ 10 hSw4 ?_;simp only [SL];refine wQ 11 hSw4 ?_;simp only [SL];refine wQ 12 hSw4 ?_;simp only [SL];refine vQ 13 (.bool false) hSw4 ?_;simp only [SL];refine vQ 14 (.bool false) hSw4 ?_;simp only [SL];refine wQ 15 hSw4 ?_;simp only [SL];refine wQ 16 hSw4 ?_;simp only [SL];refine wQ 17 hSw4 ?_;simp only [SL];refine vQ 18 (.bool false) hSw4 ?_;simp only [SL];refine vQ 19 (.bool false) hSw4 ?_;simp only [SL];refine wQ 20 hSw4 ?_;simp only [SL];refine wQ 21 hSw4 ?_;simp only [SL];refine wQ 22 hSw4 ?_;simp only [SL];refine vQ 23 (.bool false) hSw4 ?_;simp only [SL];refine vQ 24 (.bool false) hSw4 ?_;simp only [SL];refine wQ 25 hSw4 ?_;simp only [SL];refine wQ 26 hSw4 ?_;simp only [SL];refine wQ 27 hSw4 ?_;simp only [SL];refine wQ 28 hSw4 ?_;simp only [SL];refine wQ 29 hSw4 ?_;simp only [SL];refine wQ 30 hSw4 ?_;simp only [SL];refine vQ 31 (.bool false) hSw4 ?_;simp only [SL];refine vQ 32 (.bool false) hSw4 ?_;simp only [SL];refine wpAnyH_done (by kernel_rfl) ?_ _
  go_wp2_with fail
  go_ret;exact ⟨rfl, h4.out.below⟩
 focus
  skip
  by_cases g1 : ¬ (f.mo = 0 ∨ (i.ch = 2 /\ 1 <= f.mo /\ f.mo <= 3))
  focus
   rw [bb_no hbb (fun h => g1 (by have := h.2.2.2; omega))]
   clear hbb;have K1 : Hid (∀ wx, Hid (FX w f so sk a b c d i e s wx) -> Calls Tryz.prog 82 #[infV a b c d i e s] wx fun en w' => en = .returned (.bool true) /\ Hid (FX w f so sk a b c d i e s w')) := fun wx hx => (f_may a b c d i e s true (tt_iff (Classical.not_not.1 g0)) wx).mono fun en w' hh => ⟨hh.1, hx.out.next hh.2⟩;have K2 : Hid (∀ wx, Hid (FX w f so sk a b c d i e s wx) -> Calls Tryz.prog 83 #[.int .i64 f.mo, .int .i64 i.ch] wx fun en w' => en = .returned (.bool false) /\ Hid (FX w f so sk a b c d i e s w')) := fun wx hx => ((f_mode f.mo i.ch false (ff_iff (g1)) wx)).mono fun en w' hh => ⟨hh.1, by rw [hh.2]; exact hx⟩
   have HA : Hid (FX w f so sk a b c d i e s ((w.alloc (.cells (fmC f so sk) 24)).alloc (.cells (infC a b c d i e s) 26))) := FX.new w f so sk a b c d i e s;go_enter Tryz.func35, Tryz.ntmps35
   go_upto_region 1 with fail
   generalize World.alloc _ _ = wa at *;obtain ⟨f0, f1, f2, f3, f4, f5, f6, f7, i0, i1, i2, i3, i4, i5, i6, i7, i8⟩ := HA.out.cells
  rotate_left
  focus
   skip
   by_cases g2 : f.size < 1
   focus
    rw [bb_no hbb (fun h => by have := h.2.1; omega)]
    clear hbb;have K1 : Hid (∀ wx, Hid (FX w f so sk a b c d i e s wx) -> Calls Tryz.prog 82 #[infV a b c d i e s] wx fun en w' => en = .returned (.bool true) /\ Hid (FX w f so sk a b c d i e s w')) := fun wx hx => (f_may a b c d i e s true (tt_iff (Classical.not_not.1 g0)) wx).mono fun en w' hh => ⟨hh.1, hx.out.next hh.2⟩;have K2 : Hid (∀ wx, Hid (FX w f so sk a b c d i e s wx) -> Calls Tryz.prog 83 #[.int .i64 f.mo, .int .i64 i.ch] wx fun en w' => en = .returned (.bool true) /\ Hid (FX w f so sk a b c d i e s w')) := fun wx hx => ((f_mode f.mo i.ch true (tt_iff (Classical.not_not.1 g1)) wx)).mono fun en w' hh => ⟨hh.1, by rw [hh.2]; exact hx⟩
    have HA : Hid (FX w f so sk a b c d i e s ((w.alloc (.cells (fmC f so sk) 24)).alloc (.cells (infC a b c d i e s) 26))) := FX.new w f so sk a b c d i e s;go_enter Tryz.func35, Tryz.ntmps35
    go_upto_region 1 with fail
    generalize World.alloc _ _ = wa at *;obtain ⟨f0, f1, f2, f3, f4, f5, f6, f7, i0, i1, i2, i3, i4, i5, i6, i7, i8⟩ := HA.out.cells;have hd1 : decide (1 <= f.size) = false := decide_eq_false (by omega)
   rotate_left
   focus
    skip
    by_cases g3 : 4608 < f.size
    focus
     rw [bb_no hbb (fun h => by have := h.2.1; omega)]
     clear hbb;have K1 : Hid (∀ wx, Hid (FX w f so sk a b c d i e s wx) -> Calls Tryz.prog 82 #[infV a b c d i e s] wx fun en w' => en = .returned (.bool true) /\ Hid (FX w f so sk a b c d i e s w')) := fun wx hx => (f_may a b c d i e s true (tt_iff (Classical.not_not.1 g0)) wx).mono fun en w' hh => ⟨hh.1, hx.out.next hh.2⟩;have K2 : Hid (∀ wx, Hid (FX w f so sk a b c d i e s wx) -> Calls Tryz.prog 83 #[.int .i64 f.mo, .int .i64 i.ch] wx fun en w' => en = .returned (.bool true) /\ Hid (FX w f so sk a b c d i e s w')) := fun wx hx => ((f_mode f.mo i.ch true (tt_iff (Classical.not_not.1 g1)) wx)).mono fun en w' hh => ⟨hh.1, by rw [hh.2]; exact hx⟩
     have HA : Hid (FX w f so sk a b c d i e s ((w.alloc (.cells (fmC f so sk) 24)).alloc (.cells (infC a b c d i e s) 26))) := FX.new w f so sk a b c d i e s;go_enter Tryz.func35, Tryz.ntmps35
     go_upto_region 1 with fail
     generalize World.alloc _ _ = wa at *;obtain ⟨f0, f1, f2, f3, f4, f5, f6, f7, i0, i1, i2, i3, i4, i5, i6, i7, i8⟩ := HA.out.cells;have hd1 : decide (1 <= f.size) = true := decide_eq_true (by omega)
     have hd2 : decide (f.size <= 4608) = false := decide_eq_false (by omega)
    rotate_left
    focus
     skip
     by_cases g4 : f.num < 0
     focus
      rw [bb_no hbb (fun h => by have := h.2.2.1; omega)]
      clear hbb;have K1 : Hid (∀ wx, Hid (FX w f so sk a b c d i e s wx) -> Calls Tryz.prog 82 #[infV a b c d i e s] wx fun en w' => en = .returned (.bool true) /\ Hid (FX w f so sk a b c d i e s w')) := fun wx hx => (f_may a b c d i e s true (tt_iff (Classical.not_not.1 g0)) wx).mono fun en w' hh => ⟨hh.1, hx.out.next hh.2⟩;have K2 : Hid (∀ wx, Hid (FX w f so sk a b c d i e s wx) -> Calls Tryz.prog 83 #[.int .i64 f.mo, .int .i64 i.ch] wx fun en w' => en = .returned (.bool true) /\ Hid (FX w f so sk a b c d i e s w')) := fun wx hx => ((f_mode f.mo i.ch true (tt_iff (Classical.not_not.1 g1)) wx)).mono fun en w' hh => ⟨hh.1, by rw [hh.2]; exact hx⟩
      have HA : Hid (FX w f so sk a b c d i e s ((w.alloc (.cells (fmC f so sk) 24)).alloc (.cells (infC a b c d i e s) 26))) := FX.new w f so sk a b c d i e s;go_enter Tryz.func35, Tryz.ntmps35
      go_upto_region 1 with fail
      generalize World.alloc _ _ = wa at *;obtain ⟨f0, f1, f2, f3, f4, f5, f6, f7, i0, i1, i2, i3, i4, i5, i6, i7, i8⟩ := HA.out.cells;have hd1 : decide (1 <= f.size) = true := decide_eq_true (by omega)
      have hd2 : decide (f.size <= 4608) = true := decide_eq_true (by omega)
      have hd3 : decide (0 <= f.num) = false := decide_eq_false (by omega)
     rotate_left
     ·skip
      by_cases g5 : ¬ f.num <= (if f.v then 68719476735 else 2147483647)
      ·rw [bb_no hbb (fun h => g5 h.2.2.1.2)]
       clear hbb;have K1 : Hid (∀ wx, Hid (FX w f so sk a b c d i e s wx) -> Calls Tryz.prog 82 #[infV a b c d i e s] wx fun en w' => en = .returned (.bool true) /\ Hid (FX w f so sk a b c d i e s w')) := fun wx hx => (f_may a b c d i e s true (tt_iff (Classical.not_not.1 g0)) wx).mono fun en w' hh => ⟨hh.1, hx.out.next hh.2⟩;have K2 : Hid (∀ wx, Hid (FX w f so sk a b c d i e s wx) -> Calls Tryz.prog 83 #[.int .i64 f.mo, .int .i64 i.ch] wx fun en w' => en = .returned (.bool true) /\ Hid (FX w f so sk a b c d i e s w')) := fun wx hx => ((f_mode f.mo i.ch true (tt_iff (Classical.not_not.1 g1)) wx)).mono fun en w' hh => ⟨hh.1, by rw [hh.2]; exact hx⟩
       have km := f_maxN f.v;generalize hmx : (if f.v then (68719476735 : Int) else 2147483647) = mx at *
       have K3 : Hid (∀ wx, Hid (FX w f so sk a b c d i e s wx) -> Calls Tryz.prog 84 #[.bool f.v] wx fun en w' => en = .returned (.int .i64 mx) /\ Hid (FX w f so sk a b c d i e s w')) := fun wx hx => ((km wx)).mono fun en w' hh => ⟨hh.1, by rw [hh.2]; exact hx⟩
       clear km;have hmx2 : decide (f.num <= mx) = false := decide_eq_false g5;clear g5 hmx;have HA : Hid (FX w f so sk a b c d i e s ((w.alloc (.cells (fmC f so sk) 24)).alloc (.cells (infC a b c d i e s) 26))) := FX.new w f so sk a b c d i e s;go_enter Tryz.func35, Tryz.ntmps35
       go_upto_region 1 with fail
       generalize World.alloc _ _ = wa at *;obtain ⟨f0, f1, f2, f3, f4, f5, f6, f7, i0, i1, i2, i3, i4, i5, i6, i7, i8⟩ := HA.out.cells;have HC : Hid (∀ wx, Hid (FX w f so sk a b c d i e s wx) -> wx.cell? ⟨w.heap.size, 0, none⟩ = some (.bool f.v) /\ wx.cell? ⟨w.heap.size, 1, none⟩ = some (.int .i64 f.num) /\ wx.cell? ⟨w.heap.size, 2, none⟩ = some (.int .i64 f.size) /\ wx.cell? ⟨w.heap.size, 3, none⟩ = some (.int .i64 f.sc) /\ wx.cell? ⟨w.heap.size, 4, none⟩ = some (.int .i64 f.rc) /\ wx.cell? ⟨w.heap.size, 5, none⟩ = some (.int .i64 f.wc) /\ wx.cell? ⟨w.heap.size, 6, none⟩ = some (.int .i64 f.mo) /\ wx.cell? ⟨w.heap.size, 7, none⟩ = some (.slice so f.S.length sk) /\ wx.cell? ⟨w.heap.size + 1, 0, none⟩ = some (.int .i64 a) /\ wx.cell? ⟨w.heap.size + 1, 1, none⟩ = some (.int .i64 b) /\ wx.cell? ⟨w.heap.size + 1, 2, none⟩ = some (.int .i64 c) /\ wx.cell? ⟨w.heap.size + 1, 3, none⟩ = some (.int .i64 d) /\ wx.cell? ⟨w.heap.size + 1, 4, none⟩ = some (.int .i64 i.rate) /\ wx.cell? ⟨w.heap.size + 1, 5, none⟩ = some (.int .i64 i.ch) /\ wx.cell? ⟨w.heap.size + 1, 6, none⟩ = some (.int .i64 i.wd) /\ wx.cell? ⟨w.heap.size + 1, 7, none⟩ = some (.int .i64 e) /\ wx.cell? ⟨w.heap.size + 1, 8, none⟩ = some (.string s)) := fun wx h => h.out.cells;have HD := kQ HA.out.drew;clear HA f0 f1 f2 f3 f4 f5 f6 f7 i0 i1 i2 i3 i4 i5 i6 i7 i8
       go_wp2_with fail
       go_region_held3 (fun wx => wx.cell? ⟨w.heap.size, 0, none⟩ = some (.bool f.v) /\ wx.cell? ⟨w.heap.size, 1, none⟩ = some (.int .i64 f.num) /\ wx.cell? ⟨w.heap.size, 2, none⟩ = some (.int .i64 f.size) /\ wx.cell? ⟨w.heap.size, 3, none⟩ = some (.int .i64 f.sc) /\ wx.cell? ⟨w.heap.size, 4, none⟩ = some (.int .i64 f.rc) /\ wx.cell? ⟨w.heap.size, 5, none⟩ = some (.int .i64 f.wc) /\ wx.cell? ⟨w.heap.size, 6, none⟩ = some (.int .i64 f.mo) /\ wx.cell? ⟨w.heap.size, 7, none⟩ = some (.slice so f.S.length sk) /\ wx.cell? ⟨w.heap.size + 1, 0, none⟩ = some (.int .i64 a) /\ wx.cell? ⟨w.heap.size + 1, 1, none⟩ = some (.int .i64 b) /\ wx.cell? ⟨w.heap.size + 1, 2, none⟩ = some (.int .i64 c) /\ wx.cell? ⟨w.heap.size + 1, 3, none⟩ = some (.int .i64 d) /\ wx.cell? ⟨w.heap.size + 1, 4, none⟩ = some (.int .i64 i.rate) /\ wx.cell? ⟨w.heap.size + 1, 5, none⟩ = some (.int .i64 i.ch) /\ wx.cell? ⟨w.heap.size + 1, 6, none⟩ = some (.int .i64 i.wd) /\ wx.cell? ⟨w.heap.size + 1, 7, none⟩ = some (.int .i64 e) /\ wx.cell? ⟨w.heap.size + 1, 8, none⟩ = some (.string s)) (exact HC.out _ (by assumption))
        (first
         | (go_at_call 82; refine (K1.out _ (by assumption)).mono ?_; rintro e w4 ⟨rfl, h4⟩)
         | (go_at_call 83; refine (K2.out _ (by assumption)).mono ?_; rintro e w5 ⟨rfl, h5⟩)
         | (go_at_call 84; refine (K3.out _ (by assumption)).mono ?_; rintro e w6 ⟨rfl, h6⟩))
       go_wp2_with fail
       go_ret;exact ⟨rfl, h6.out.below⟩
      ·skip
       rw [bb_yes hbb (⟨Classical.not_not.1 g0, by omega, ⟨by omega, Classical.not_not.1 g5⟩, by have := Classical.not_not.1 g1; omega⟩)]
       clear hbb;have K1 : Hid (∀ wx, Hid (FX w f so sk a b c d i e s wx) -> Calls Tryz.prog 82 #[infV a b c d i e s] wx fun en w' => en = .returned (.bool true) /\ Hid (FX w f so sk a b c d i e s w')) := fun wx hx => (f_may a b c d i e s true (tt_iff (Classical.not_not.1 g0)) wx).mono fun en w' hh => ⟨hh.1, hx.out.next hh.2⟩;have K2 : Hid (∀ wx, Hid (FX w f so sk a b c d i e s wx) -> Calls Tryz.prog 83 #[.int .i64 f.mo, .int .i64 i.ch] wx fun en w' => en = .returned (.bool true) /\ Hid (FX w f so sk a b c d i e s w')) := fun wx hx => ((f_mode f.mo i.ch true (tt_iff (Classical.not_not.1 g1)) wx)).mono fun en w' hh => ⟨hh.1, by rw [hh.2]; exact hx⟩
       have km := f_maxN f.v;generalize hmx : (if f.v then (68719476735 : Int) else 2147483647) = mx at *
       have K3 : Hid (∀ wx, Hid (FX w f so sk a b c d i e s wx) -> Calls Tryz.prog 84 #[.bool f.v] wx fun en w' => en = .returned (.int .i64 mx) /\ Hid (FX w f so sk a b c d i e s w')) := fun wx hx => ((km wx)).mono fun en w' hh => ⟨hh.1, by rw [hh.2]; exact hx⟩
       clear km;have hmx2 : decide (f.num <= mx) = true := decide_eq_true (Classical.not_not.1 g5);clear g5 hmx;have HA : Hid (FX w f so sk a b c d i e s ((w.alloc (.cells (fmC f so sk) 24)).alloc (.cells (infC a b c d i e s) 26))) := FX.new w f so sk a b c d i e s;go_enter Tryz.func35, Tryz.ntmps35
       go_upto_region 1 with fail
       generalize World.alloc _ _ = wa at *;obtain ⟨f0, f1, f2, f3, f4, f5, f6, f7, i0, i1, i2, i3, i4, i5, i6, i7, i8⟩ := HA.out.cells;have HC : Hid (∀ wx, Hid (FX w f so sk a b c d i e s wx) -> wx.cell? ⟨w.heap.size, 0, none⟩ = some (.bool f.v) /\ wx.cell? ⟨w.heap.size, 1, none⟩ = some (.int .i64 f.num) /\ wx.cell? ⟨w.heap.size, 2, none⟩ = some (.int .i64 f.size) /\ wx.cell? ⟨w.heap.size, 3, none⟩ = some (.int .i64 f.sc) /\ wx.cell? ⟨w.heap.size, 4, none⟩ = some (.int .i64 f.rc) /\ wx.cell? ⟨w.heap.size, 5, none⟩ = some (.int .i64 f.wc) /\ wx.cell? ⟨w.heap.size, 6, none⟩ = some (.int .i64 f.mo) /\ wx.cell? ⟨w.heap.size, 7, none⟩ = some (.slice so f.S.length sk) /\ wx.cell? ⟨w.heap.size + 1, 0, none⟩ = some (.int .i64 a) /\ wx.cell? ⟨w.heap.size + 1, 1, none⟩ = some (.int .i64 b) /\ wx.cell? ⟨w.heap.size + 1, 2, none⟩ = some (.int .i64 c) /\ wx.cell? ⟨w.heap.size + 1, 3, none⟩ = some (.int .i64 d) /\ wx.cell? ⟨w.heap.size + 1, 4, none⟩ = some (.int .i64 i.rate) /\ wx.cell? ⟨w.heap.size + 1, 5, none⟩ = some (.int .i64 i.ch) /\ wx.cell? ⟨w.heap.size + 1, 6, none⟩ = some (.int .i64 i.wd) /\ wx.cell? ⟨w.heap.size + 1, 7, none⟩ = some (.int .i64 e) /\ wx.cell? ⟨w.heap.size + 1, 8, none⟩ = some (.string s)) := fun wx h => h.out.cells;have HD := kQ HA.out.drew;clear HA f0 f1 f2 f3 f4 f5 f6 f7 i0 i1 i2 i3 i4 i5 i6 i7 i8
       go_wp2_with fail
       go_region_held3 (fun wx => wx.cell? ⟨w.heap.size, 0, none⟩ = some (.bool f.v) /\ wx.cell? ⟨w.heap.size, 1, none⟩ = some (.int .i64 f.num) /\ wx.cell? ⟨w.heap.size, 2, none⟩ = some (.int .i64 f.size) /\ wx.cell? ⟨w.heap.size, 3, none⟩ = some (.int .i64 f.sc) /\ wx.cell? ⟨w.heap.size, 4, none⟩ = some (.int .i64 f.rc) /\ wx.cell? ⟨w.heap.size, 5, none⟩ = some (.int .i64 f.wc) /\ wx.cell? ⟨w.heap.size, 6, none⟩ = some (.int .i64 f.mo) /\ wx.cell? ⟨w.heap.size, 7, none⟩ = some (.slice so f.S.length sk) /\ wx.cell? ⟨w.heap.size + 1, 0, none⟩ = some (.int .i64 a) /\ wx.cell? ⟨w.heap.size + 1, 1, none⟩ = some (.int .i64 b) /\ wx.cell? ⟨w.heap.size + 1, 2, none⟩ = some (.int .i64 c) /\ wx.cell? ⟨w.heap.size + 1, 3, none⟩ = some (.int .i64 d) /\ wx.cell? ⟨w.heap.size + 1, 4, none⟩ = some (.int .i64 i.rate) /\ wx.cell? ⟨w.heap.size + 1, 5, none⟩ = some (.int .i64 i.ch) /\ wx.cell? ⟨w.heap.size + 1, 6, none⟩ = some (.int .i64 i.wd) /\ wx.cell? ⟨w.heap.size + 1, 7, none⟩ = some (.int .i64 e) /\ wx.cell? ⟨w.heap.size + 1, 8, none⟩ = some (.string s)) (exact HC.out _ (by assumption))
        (first
         | (go_at_call 82; refine (K1.out _ (by assumption)).mono ?_; rintro e w4 ⟨rfl, h4⟩)
         | (go_at_call 83; refine (K2.out _ (by assumption)).mono ?_; rintro e w5 ⟨rfl, h5⟩)
         | (go_at_call 84; refine (K3.out _ (by assumption)).mono ?_; rintro e w6 ⟨rfl, h6⟩))
       go_wp2_with fail
       go_ret;exact ⟨rfl, h6.out.below⟩
    rotate_left
   rotate_left 2
  rotate_left 3
 rotate_left 4
 all_goals
  have HD := kQ HA.out.drew;clear HA f0 f1 f2 f3 f4 f5 f6 f7 i0 i1 i2 i3 i4 i5 i6 i7 i8
  go_wp2_with fail
  refine wp_region_held_drew (S := fun wx => FX w f so sk a b c d i e s wx) (by kernel_rfl) (HD.out) (fun hS => ?_)
  refine uQ 0 (infV a b c d i e s) rfl hS (Or.inl ⟨by rfl, fun w hSw => by obtain ⟨f0, f1, f2, f3, f4, f5, f6, f7, i0, i1, i2, i3, i4, i5, i6, i7, i8⟩ := hSw.cells; go_simp⟩) ?_
  simp only [SL];refine wpAnyH_ready (rs := [1]) (by kernel_rfl) (by simp) ?_
  refine AllReadyH.cons rfl (fun K hK => ?_) AllReadyH.nil;go_simp;refine (K1.out _ hS).mono ?_;rintro en w4 ⟨rfl, h4⟩;refine hK.out _ _ h4.out (fun hSw4 => ?_);clear hK K
  try simp only [SL]
  refine vQ 2 (.bool true) hSw4 ?_;simp only [SL];refine vQ 3 (.pointer (some ⟨w.heap.size, 6, none⟩)) hSw4 ?_;simp only [SL];refine uQ 4 (.int .i64 f.mo) rfl hSw4 (Or.inl ⟨by rfl, fun w hSw => by obtain ⟨f0, f1, f2, f3, f4, f5, f6, f7, i0, i1, i2, i3, i4, i5, i6, i7, i8⟩ := hSw.cells; go_simp⟩) ?_
  simp only [SL];refine vQ 5 (.pointer (some ⟨w.heap.size + 1, 5, none⟩)) hSw4 ?_;simp only [SL];refine uQ 6 (.int .i64 i.ch) rfl hSw4 (Or.inl ⟨by rfl, fun w hSw => by obtain ⟨f0, f1, f2, f3, f4, f5, f6, f7, i0, i1, i2, i3, i4, i5, i6, i7, i8⟩ := hSw.cells; go_simp⟩) ?_
  simp only [SL];refine wpAnyH_ready (rs := [7]) (by kernel_rfl) (by simp) ?_
  refine AllReadyH.cons rfl (fun K hK => ?_) AllReadyH.nil;go_simp;refine (K2.out _ hSw4).mono ?_;rintro en w5 ⟨rfl, h5⟩;refine hK.out _ _ h5.out (fun hSw5 => ?_);clear hK K
  try simp only [SL]
 focus
  refine vQ 8 (.bool false) hSw5 ?_;simp only [SL];refine vQ 9 (.bool false) hSw5 ?_;simp only [SL];refine wQ 10 hSw5 ?_;simp only [SL];refine wQ 11 hSw5 ?_;simp only [SL];refine wQ 12 hSw5 ?_;simp only [SL];refine vQ 13 (.bool false) hSw5 ?_;simp only [SL];refine vQ 14 (.bool false) hSw5 ?_;simp only [SL];refine wQ 15 hSw5 ?_;simp only [SL];refine wQ 16 hSw5 ?_;simp only [SL];refine wQ 17 hSw5 ?_;simp only [SL];refine vQ 18 (.bool false) hSw5 ?_;simp only [SL];refine vQ 19 (.bool false) hSw5 ?_;simp only [SL];refine wQ 20 hSw5 ?_;simp only [SL];refine wQ 21 hSw5 ?_;simp only [SL];refine wQ 22 hSw5 ?_
 rotate_left
 focus
  refine vQ 8 (.bool true) hSw5 ?_;simp only [SL];refine vQ 9 (.bool true) hSw5 ?_;simp only [SL];refine vQ 10 (.pointer (some ⟨w.heap.size, 2, none⟩)) hSw5 ?_;simp only [SL];refine uQ 11 (.int .i64 f.size) rfl hSw5 (Or.inl ⟨by rfl, fun w hSw => by obtain ⟨f0, f1, f2, f3, f4, f5, f6, f7, i0, i1, i2, i3, i4, i5, i6, i7, i8⟩ := hSw.cells; go_simp⟩) ?_
  simp only [SL];refine vQ 12 (.bool false) hSw5 ?_;simp only [SL];refine vQ 13 (.bool false) hSw5 ?_;simp only [SL];refine vQ 14 (.bool false) hSw5 ?_;simp only [SL];refine wQ 15 hSw5 ?_;simp only [SL];refine wQ 16 hSw5 ?_;simp only [SL];refine wQ 17 hSw5 ?_;simp only [SL];refine vQ 18 (.bool false) hSw5 ?_;simp only [SL];refine vQ 19 (.bool false) hSw5 ?_;simp only [SL];refine wQ 20 hSw5 ?_;simp only [SL];refine wQ 21 hSw5 ?_;simp only [SL];refine wQ 22 hSw5 ?_
 rotate_left
 focus
  refine vQ 8 (.bool true) hSw5 ?_;simp only [SL];refine vQ 9 (.bool true) hSw5 ?_;simp only [SL];refine vQ 10 (.pointer (some ⟨w.heap.size, 2, none⟩)) hSw5 ?_;simp only [SL];refine uQ 11 (.int .i64 f.size) rfl hSw5 (Or.inl ⟨by rfl, fun w hSw => by obtain ⟨f0, f1, f2, f3, f4, f5, f6, f7, i0, i1, i2, i3, i4, i5, i6, i7, i8⟩ := hSw.cells; go_simp⟩) ?_
  simp only [SL];refine vQ 12 (.bool true) hSw5 ?_;simp only [SL];refine vQ 13 (.bool true) hSw5 ?_;simp only [SL];refine vQ 14 (.bool true) hSw5 ?_;simp only [SL];refine vQ 15 (.pointer (some ⟨w.heap.size, 2, none⟩)) hSw5 ?_;simp only [SL];refine uQ 16 (.int .i64 f.size) rfl hSw5 (Or.inl ⟨by rfl, fun w hSw => by obtain ⟨f0, f1, f2, f3, f4, f5, f6, f7, i0, i1, i2, i3, i4, i5, i6, i7, i8⟩ := hSw.cells; go_simp⟩) ?_
  simp only [SL];refine vQ 17 (.bool false) hSw5 ?_;simp only [SL];refine vQ 18 (.bool false) hSw5 ?_;simp only [SL];refine vQ 19 (.bool false) hSw5 ?_;simp only [SL];refine wQ 20 hSw5 ?_;simp only [SL];refine wQ 21 hSw5 ?_;simp only [SL];refine wQ 22 hSw5 ?_
 rotate_left
 focus
  refine vQ 8 (.bool true) hSw5 ?_;simp only [SL];refine vQ 9 (.bool true) hSw5 ?_;simp only [SL];refine vQ 10 (.pointer (some ⟨w.heap.size, 2, none⟩)) hSw5 ?_;simp only [SL];refine uQ 11 (.int .i64 f.size) rfl hSw5 (Or.inl ⟨by rfl, fun w hSw => by obtain ⟨f0, f1, f2, f3, f4, f5, f6, f7, i0, i1, i2, i3, i4, i5, i6, i7, i8⟩ := hSw.cells; go_simp⟩) ?_
  simp only [SL];refine vQ 12 (.bool true) hSw5 ?_;simp only [SL];refine vQ 13 (.bool true) hSw5 ?_;simp only [SL];refine vQ 14 (.bool true) hSw5 ?_;simp only [SL];refine vQ 15 (.pointer (some ⟨w.heap.size, 2, none⟩)) hSw5 ?_;simp only [SL];refine uQ 16 (.int .i64 f.size) rfl hSw5 (Or.inl ⟨by rfl, fun w hSw => by obtain ⟨f0, f1, f2, f3, f4, f5, f6, f7, i0, i1, i2, i3, i4, i5, i6, i7, i8⟩ := hSw.cells; go_simp⟩) ?_
  simp only [SL];refine vQ 17 (.bool true) hSw5 ?_;simp only [SL];refine vQ 18 (.bool true) hSw5 ?_;simp only [SL];refine vQ 19 (.bool true) hSw5 ?_;simp only [SL];refine vQ 20 (.pointer (some ⟨w.heap.size, 1, none⟩)) hSw5 ?_;simp only [SL];refine uQ 21 (.int .i64 f.num) rfl hSw5 (Or.inl ⟨by rfl, fun w hSw => by obtain ⟨f0, f1, f2, f3, f4, f5, f6, f7, i0, i1, i2, i3, i4, i5, i6, i7, i8⟩ := hSw.cells; go_simp⟩) ?_
  simp only [SL];refine vQ 22 (.bool false) hSw5 ?_
 rotate_left
 all_goals
  simp only [SL];refine vQ 23 (.bool false) hSw5 ?_;simp only [SL];refine vQ 24 (.bool false) hSw5 ?_;simp only [SL];refine wQ 25 hSw5 ?_;simp only [SL];refine wQ 26 hSw5 ?_;simp only [SL];refine wQ 27 hSw5 ?_;simp only [SL];refine wQ 28 hSw5 ?_;simp only [SL];refine wQ 29 hSw5 ?_;simp only [SL];refine wQ 30 hSw5 ?_;simp only [SL];refine vQ 31 (.bool false) hSw5 ?_;simp only [SL];refine vQ 32 (.bool false) hSw5 ?_;simp only [SL];refine wpAnyH_done (by kernel_rfl) ?_ _
  go_wp2_with fail
  go_ret;exact ⟨rfl, h5.out.below⟩
theorem f_said (f : Fm) (so : OA) (sk : Nat) (a b c d : Int) (i : Inf) (e : Int) (s : ByteArray) (hsz : 1 <= f.size /\ f.size <= 4608) (hr : 1 <= i.rate /\ i.rate <= 9223372036854775807) (hw : 4 <= i.wd /\ i.wd <= 24) (bb : Bool) (hbb : bb = true ↔ (saysZ f /\ saysR f i /\ saysW f i)) (w : World) (hL : Lay w) : Calls Tryz.prog 36 #[fmV f so sk, infV a b c d i e s] w fun en w' => en = .returned (.bool bb) /\ Lo w w' := by
 by_cases g0 : ¬ sayZ f.sc f.size
 focus
  rw [bb_no hbb (fun h => g0 h.1)];have K1 : Hid (∀ wx, Hid (FX w f so sk a b c d i e s wx) -> Calls Tryz.prog 85 #[.int .i64 f.sc, .int .i64 f.size] wx fun en w' => en = .returned (.bool false) /\ Hid (FX w f so sk a b c d i e s w')) := fun wx hx => ((f_sayZ f.sc f.size hsz false (ff_iff (g0)) wx (hL.below hx.out.below))).mono fun en w' hh => ⟨hh.1, by rw [hh.2]; exact hx⟩
 rotate_left
 focus
  skip
  by_cases g1 : ¬ sayR f.rc i.rate
  focus
   rw [bb_no hbb (fun h => g1 h.2.1)];have K1 : Hid (∀ wx, Hid (FX w f so sk a b c d i e s wx) -> Calls Tryz.prog 85 #[.int .i64 f.sc, .int .i64 f.size] wx fun en w' => en = .returned (.bool true) /\ Hid (FX w f so sk a b c d i e s w')) := fun wx hx => ((f_sayZ f.sc f.size hsz true (tt_iff (Classical.not_not.1 g0)) wx (hL.below hx.out.below))).mono fun en w' hh => ⟨hh.1, by rw [hh.2]; exact hx⟩
   have K2 : Hid (∀ wx, Hid (FX w f so sk a b c d i e s wx) -> Calls Tryz.prog 86 #[.int .i64 f.rc, .int .i64 i.rate] wx fun en w' => en = .returned (.bool false) /\ Hid (FX w f so sk a b c d i e s w')) := fun wx hx => ((f_sayR f.rc i.rate hr false (ff_iff (g1)) wx (hL.below hx.out.below))).mono fun en w' hh => ⟨hh.1, by rw [hh.2]; exact hx⟩
  rotate_left
  focus
   skip
   by_cases g2 : ¬ sayW f.wc i.wd
   focus
    rw [bb_no hbb (fun h => g2 h.2.2)];have K1 : Hid (∀ wx, Hid (FX w f so sk a b c d i e s wx) -> Calls Tryz.prog 85 #[.int .i64 f.sc, .int .i64 f.size] wx fun en w' => en = .returned (.bool true) /\ Hid (FX w f so sk a b c d i e s w')) := fun wx hx => ((f_sayZ f.sc f.size hsz true (tt_iff (Classical.not_not.1 g0)) wx (hL.below hx.out.below))).mono fun en w' hh => ⟨hh.1, by rw [hh.2]; exact hx⟩
    have K2 : Hid (∀ wx, Hid (FX w f so sk a b c d i e s wx) -> Calls Tryz.prog 86 #[.int .i64 f.rc, .int .i64 i.rate] wx fun en w' => en = .returned (.bool true) /\ Hid (FX w f so sk a b c d i e s w')) := fun wx hx => ((f_sayR f.rc i.rate hr true (tt_iff (Classical.not_not.1 g1)) wx (hL.below hx.out.below))).mono fun en w' hh => ⟨hh.1, by rw [hh.2]; exact hx⟩
    have K3 : Hid (∀ wx, Hid (FX w f so sk a b c d i e s wx) -> Calls Tryz.prog 87 #[.int .i64 f.wc, .int .i64 i.wd] wx fun en w' => en = .returned (.bool false) /\ Hid (FX w f so sk a b c d i e s w')) := fun wx hx => ((f_sayW f.wc i.wd hw false (ff_iff (g2)) wx (hL.below hx.out.below))).mono fun en w' hh => ⟨hh.1, by rw [hh.2]; exact hx⟩
   rotate_left
   focus
    skip
    rw [bb_yes hbb (⟨Classical.not_not.1 g0, Classical.not_not.1 g1, Classical.not_not.1 g2⟩)];have K1 : Hid (∀ wx, Hid (FX w f so sk a b c d i e s wx) -> Calls Tryz.prog 85 #[.int .i64 f.sc, .int .i64 f.size] wx fun en w' => en = .returned (.bool true) /\ Hid (FX w f so sk a b c d i e s w')) := fun wx hx => ((f_sayZ f.sc f.size hsz true (tt_iff (Classical.not_not.1 g0)) wx (hL.below hx.out.below))).mono fun en w' hh => ⟨hh.1, by rw [hh.2]; exact hx⟩
    have K2 : Hid (∀ wx, Hid (FX w f so sk a b c d i e s wx) -> Calls Tryz.prog 86 #[.int .i64 f.rc, .int .i64 i.rate] wx fun en w' => en = .returned (.bool true) /\ Hid (FX w f so sk a b c d i e s w')) := fun wx hx => ((f_sayR f.rc i.rate hr true (tt_iff (Classical.not_not.1 g1)) wx (hL.below hx.out.below))).mono fun en w' hh => ⟨hh.1, by rw [hh.2]; exact hx⟩
    have K3 : Hid (∀ wx, Hid (FX w f so sk a b c d i e s wx) -> Calls Tryz.prog 87 #[.int .i64 f.wc, .int .i64 i.wd] wx fun en w' => en = .returned (.bool true) /\ Hid (FX w f so sk a b c d i e s w')) := fun wx hx => ((f_sayW f.wc i.wd hw true (tt_iff (Classical.not_not.1 g2)) wx (hL.below hx.out.below))).mono fun en w' hh => ⟨hh.1, by rw [hh.2]; exact hx⟩
   rotate_left
  rotate_left 2
 rotate_left 3
 all_goals
  clear hbb hL;have HA : Hid (FX w f so sk a b c d i e s ((w.alloc (.cells (fmC f so sk) 24)).alloc (.cells (infC a b c d i e s) 26))) := FX.new w f so sk a b c d i e s;go_enter Tryz.func36, Tryz.ntmps36
  go_upto_region 1 with fail
  generalize World.alloc _ _ = wa at *;obtain ⟨f0, f1, f2, f3, f4, f5, f6, f7, i0, i1, i2, i3, i4, i5, i6, i7, i8⟩ := HA.out.cells
  go_wp2_with fail
  refine (K1.out _ HA).mono ?_;rintro en w1 ⟨rfl, HB1⟩;clear HA f0 f1 f2 f3 f4 f5 f6 f7 i0 i1 i2 i3 i4 i5 i6 i7 i8;obtain ⟨f0, f1, f2, f3, f4, f5, f6, f7, i0, i1, i2, i3, i4, i5, i6, i7, i8⟩ := HB1.out.cells
  go_wp2_with fail
 ·go_ret
  exact ⟨rfl, HB1.out.below⟩
 ·refine (K2.out _ HB1).mono ?_
  rintro en w2 ⟨rfl, HB2⟩;clear HB1 f0 f1 f2 f3 f4 f5 f6 f7 i0 i1 i2 i3 i4 i5 i6 i7 i8;obtain ⟨f0, f1, f2, f3, f4, f5, f6, f7, i0, i1, i2, i3, i4, i5, i6, i7, i8⟩ := HB2.out.cells
  go_wp2_with fail
  go_ret;exact ⟨rfl, HB2.out.below⟩
 rotate_left 2
 all_goals
  refine (K2.out _ HB1).mono ?_;rintro en w2 ⟨rfl, HB2⟩;clear HB1 f0 f1 f2 f3 f4 f5 f6 f7 i0 i1 i2 i3 i4 i5 i6 i7 i8;obtain ⟨f0, f1, f2, f3, f4, f5, f6, f7, i0, i1, i2, i3, i4, i5, i6, i7, i8⟩ := HB2.out.cells
  go_wp2_with fail
  refine (K3.out _ HB2).mono ?_;rintro en w3 ⟨rfl, HB3⟩;clear HB2 f0 f1 f2 f3 f4 f5 f6 f7 i0 i1 i2 i3 i4 i5 i6 i7 i8;obtain ⟨f0, f1, f2, f3, f4, f5, f6, f7, i0, i1, i2, i3, i4, i5, i6, i7, i8⟩ := HB3.out.cells
  go_wp2_with fail
  go_ret;exact ⟨rfl, HB3.out.below⟩
def difN (m : Int) : Int := if m = 1 then 1 else if m = 3 then 1 else if m = 2 then 0 else -1
theorem f_dif (m : Int) (w : World) : Calls Tryz.prog 119 #[.int .i64 m] w fun en w' => en = .returned (.int .i64 (difN m)) /\ w' = w := by
 by_cases g1 : m = 1
 focus
  have HV : Hid (difN m = 1) := by show _ = _; unfold difN; rw [if_pos g1]
  rw [HV.out];clear HV;have hk1 : (m == 1) = true := eQt (by omega)
  have hk3 : (m == 3) = false := eQf (by omega)
 rotate_left
 focus
  skip
  by_cases g3 : m = 3
  focus
   have HV : Hid (difN m = 1) := by show _ = _; unfold difN; rw [if_neg g1, if_pos g3]
   rw [HV.out];clear HV;have hk1 : (m == 1) = false := eQf (by omega)
   have hk3 : (m == 3) = true := eQt (by omega)
  rotate_left
  focus
   skip
   by_cases g2 : m = 2
   ·have HV : Hid (difN m = 0) := by show _ = _; unfold difN; rw [if_neg g1, if_neg g3, if_pos g2]
    rw [HV.out];clear HV;have hk1 : (m == 1) = false := eQf (by omega)
    have hk3 : (m == 3) = false := eQf (by omega)
    have hk2 : (m == 2) = true := eQt (by omega)
    go_enter Tryz.func119, Tryz.ntmps119
    go_wp2_with fail
    go_ret;exact ⟨rfl, rfl⟩
   focus
    skip
    have HV : Hid (difN m = -1) := by show _ = _; unfold difN; rw [if_neg g1, if_neg g3, if_neg g2]
    rw [HV.out];clear HV;have hk1 : (m == 1) = false := eQf (by omega)
    have hk3 : (m == 3) = false := eQf (by omega)
   rotate_left
  rotate_left
 rotate_left 2
 all_goals
  have hk2 : (m == 2) = false := eQf (by omega)
  go_enter Tryz.func119, Tryz.ntmps119
  go_wp2_with fail
  go_ret;exact ⟨rfl, rfl⟩
theorem wdA_dif (i : Inf) (m : Int) (c : Nat) : wdA i m c = if (c : Int) = difN m then i.wd + 1 else i.wd := by
 unfold wdA difN
 by_cases g1 : m = 1
 ·rw [if_pos g1]
  by_cases h : c = 1
  ·rw [if_pos (.inl ⟨h, .inl g1⟩), if_pos (by omega)]
  ·rw [if_neg (by omega), if_neg (by omega)]
 ·by_cases g3 : m = 3
  ·rw [if_neg g1, if_pos g3]
   by_cases h : c = 1
   ·rw [if_pos (.inl ⟨h, .inr g3⟩), if_pos (by omega)]
   ·rw [if_neg (by omega), if_neg (by omega)]
  ·by_cases g2 : m = 2
   ·rw [if_neg g1, if_neg g3, if_pos g2]
    by_cases h : c = 0
    ·rw [if_pos (.inr ⟨h, g2⟩), if_pos (by omega)]
    ·rw [if_neg (by omega), if_neg (by omega)]
   ·rw [if_neg g1, if_neg g3, if_neg g2, if_neg (by omega), if_neg (by omega)]
theorem f_subW (i : Inf) (m : Int) (c : Nat) (hw : 4 <= i.wd /\ i.wd <= 24) (w : World) : Calls Tryz.prog 65 #[.int .i64 m, .int .i64 (c : Int), .int .i64 i.wd] w fun en w' => en = .returned (.int .i64 (wdA i m c)) /\ w' = w := by
 have kd := f_dif m
 rw [wdA_dif]
 by_cases g : (c : Int) = difN m
 focus
  rw [if_pos g];have hk : ((c : Int) == difN m) = true := by rw [beq_iff_eq]; exact g
 rotate_left
 focus
  rw [if_neg g];have hk : ((c : Int) == difN m) = false := by rw [beq_eq_false_iff_ne]; exact g
 rotate_left
 all_goals
  clear g;generalize difN m = q at *;go_enter Tryz.func65, Tryz.ntmps65
  go_wp2_with fail
  refine (kd _).mono ?_;rintro e wc0 ⟨rfl, hwc0⟩;subst hwc0
  go_wp2_with fail
  go_ret
 ·exact ⟨by first | rfl | go_num | simp, rfl⟩
 ·exact ⟨rfl, rfl⟩
theorem sizN_at : sizN 1 = 192 /\ sizN 2 = 576 /\ sizN 3 = 1152 /\ sizN 4 = 2304 /\ sizN 5 = 4608 /\ sizN 6 = 0 /\ sizN 7 = 0 /\ sizN 8 = 256 /\ sizN 9 = 512 /\ sizN 10 = 1024 /\ sizN 11 = 2048 /\ sizN 12 = 4096 /\ sizN 13 = 8192 /\ sizN 14 = 16384 /\ sizN 15 = 32768 := by decide
theorem ratN_at : ratN 1 = 88200 /\ ratN 2 = 176400 /\ ratN 3 = 192000 /\ ratN 4 = 8000 /\ ratN 5 = 16000 /\ ratN 6 = 22050 /\ ratN 7 = 24000 /\ ratN 8 = 32000 /\ ratN 9 = 44100 /\ ratN 10 = 48000 /\ ratN 11 = 96000 := by decide
theorem widN_at : widN 1 = 8 /\ widN 2 = 12 /\ widN 3 = 0 /\ widN 4 = 16 /\ widN 5 = 20 /\ widN 6 = 24 := by decide
theorem xsizeof (c : Int) (h : 1 <= c /\ c <= 15) (w : World) : Calls Tryz.prog 89 #[.int .i64 c] w fun e w' => e = .returned (.int .i64 (sizN c)) /\ w' = w := by
 have hc : c = 1 ∨ c = 2 ∨ c = 3 ∨ c = 4 ∨ c = 5 ∨ c = 6 ∨ c = 7 ∨ c = 8 ∨ c = 9 ∨ c = 10 ∨ c = 11 ∨ c = 12 ∨ c = 13 ∨ c = 14 ∨ c = 15 := by omega
 have ha := sizN_at
 clear h
 rcases hc with rfl | rfl | rfl | rfl | rfl | rfl | rfl | rfl | rfl | rfl | rfl | rfl | rfl | rfl | rfl
 focus
  rw [ha.1]
 rotate_left
 focus
  rw [ha.2.1]
 rotate_left
 focus
  rw [ha.2.2.1]
 rotate_left
 focus
  rw [ha.2.2.2.1]
 rotate_left
 focus
  rw [ha.2.2.2.2.1]
 rotate_left
 focus
  rw [ha.2.2.2.2.2.1]
 rotate_left
 focus
  rw [ha.2.2.2.2.2.2.1]
 rotate_left
 focus
  rw [ha.2.2.2.2.2.2.2.1]
 rotate_left
 focus
  rw [ha.2.2.2.2.2.2.2.2.1]
 rotate_left
 focus
  rw [ha.2.2.2.2.2.2.2.2.2.1]
 rotate_left
 focus
  rw [ha.2.2.2.2.2.2.2.2.2.2.1]
 rotate_left
 focus
  rw [ha.2.2.2.2.2.2.2.2.2.2.2.1]
 rotate_left
 focus
  rw [ha.2.2.2.2.2.2.2.2.2.2.2.2.1]
 rotate_left
 focus
  rw [ha.2.2.2.2.2.2.2.2.2.2.2.2.2.1]
 rotate_left
 focus
  rw [ha.2.2.2.2.2.2.2.2.2.2.2.2.2.2]
 rotate_left
 all_goals
  clear ha;go_enter Tryz.func89, Tryz.ntmps89
  go_wp2
  go_ret;exact ⟨rfl, rfl⟩
theorem xrateof (c : Int) (h : 1 <= c /\ c <= 11) (w : World) : Calls Tryz.prog 90 #[.int .i64 c] w fun e w' => e = .returned (.int .i64 (ratN c)) /\ Lo w w' := by
 have hc : c = 1 ∨ c = 2 ∨ c = 3 ∨ c = 4 ∨ c = 5 ∨ c = 6 ∨ c = 7 ∨ c = 8 ∨ c = 9 ∨ c = 10 ∨ c = 11 := by omega
 have ha := ratN_at
 clear h
 rcases hc with rfl | rfl | rfl | rfl | rfl | rfl | rfl | rfl | rfl | rfl | rfl
 focus
  rw [ha.1]
 rotate_left
 focus
  rw [ha.2.1]
 rotate_left
 focus
  rw [ha.2.2.1]
 rotate_left
 focus
  rw [ha.2.2.2.1]
 rotate_left
 focus
  rw [ha.2.2.2.2.1]
 rotate_left
 focus
  rw [ha.2.2.2.2.2.1]
 rotate_left
 focus
  rw [ha.2.2.2.2.2.2.1]
 rotate_left
 focus
  rw [ha.2.2.2.2.2.2.2.1]
 rotate_left
 focus
  rw [ha.2.2.2.2.2.2.2.2.1]
 rotate_left
 focus
  rw [ha.2.2.2.2.2.2.2.2.2.1]
 rotate_left
 focus
  rw [ha.2.2.2.2.2.2.2.2.2.2]
 rotate_left
 all_goals
  clear ha;go_enter Tryz.func90, Tryz.ntmps90
  go_wp2
  go_ret;exact ⟨rfl, aQ⟩
theorem xwidthof (c : Int) (h : 1 <= c /\ c <= 6) (w : World) : Calls Tryz.prog 91 #[.int .i64 c] w fun e w' => e = .returned (.int .i64 (widN c)) /\ Lo w w' := by
 have hc : c = 1 ∨ c = 2 ∨ c = 3 ∨ c = 4 ∨ c = 5 ∨ c = 6 := by omega
 have ha := widN_at
 clear h
 rcases hc with rfl | rfl | rfl | rfl | rfl | rfl
 focus
  rw [ha.1]
 rotate_left
 focus
  rw [ha.2.1]
 rotate_left
 focus
  rw [ha.2.2.1]
 rotate_left
 focus
  rw [ha.2.2.2.1]
 rotate_left
 focus
  rw [ha.2.2.2.2.1]
 rotate_left
 focus
  rw [ha.2.2.2.2.2]
 rotate_left
 all_goals
  clear ha;go_enter Tryz.func91, Tryz.ntmps91
  go_wp2
  go_ret;exact ⟨rfl, aQ⟩
theorem xstream11 (a b c d : Int) (i : Inf) (e : Int) (s : ByteArray) (bb : Bool) (hbb : bb = true ↔ mayF i) (w : World) : Calls Tryz.prog 38 #[infV a b c d i e s] w fun en w' => en = .returned (.bool bb) /\ Lo w w' := by
 by_cases g0 : i.ch < 1
 focus
  rw [bb_no hbb (fun h => by have := h.1; have := h.2.1; have := h.2.2; omega)]
  clear hbb
 rotate_left
 focus
  skip
  by_cases g1 : 8 < i.ch
  focus
   rw [bb_no hbb (fun h => by have := h.1; have := h.2.1; have := h.2.2; omega)]
   clear hbb
  rotate_left
  focus
   skip
   by_cases g2 : i.wd < 4
   focus
    rw [bb_no hbb (fun h => by have := h.1; have := h.2.1; have := h.2.2; omega)]
    clear hbb
   rotate_left
   focus
    skip
    by_cases g3 : 24 < i.wd
    focus
     rw [bb_no hbb (fun h => by have := h.1; have := h.2.1; have := h.2.2; omega)]
     clear hbb
    rotate_left
    focus
     skip
     by_cases g4 : i.rate < 1
     focus
      rw [bb_no hbb (fun h => by have := h.1; have := h.2.1; have := h.2.2; omega)]
      clear hbb;have hb : decide (1 <= i.rate) = false := decide_eq_false (by omega)
     rotate_left
     focus
      skip
      rw [bb_yes hbb (⟨by omega, by omega, by omega⟩)]
      clear hbb;have hb : decide (1 <= i.rate) = true := decide_eq_true (by omega)
     rotate_left
    rotate_left 2
   rotate_left 3
  rotate_left 4
 rotate_left 5
 all_goals
  have HA : Hid ((w.alloc (.cells (infC a b c d i e s) 26)).heap[w.heap.size]? = some (.cells (infC a b c d i e s) 26 (0, 0)) /\ Lo w (w.alloc (.cells (infC a b c d i e s) 26))) := ⟨heap_alloc_new _ _, aQ⟩;go_enter Tryz.func38, Tryz.ntmps38
  go_upto_region 1 with fail
  generalize World.alloc _ _ = wa at *;obtain ⟨i0, i1, i2, i3, i4, i5, i6, i7, i8⟩ := inf_cells HA.out.1
  go_wp2_with fail
  go_ret;exact ⟨rfl, HA.out.2⟩
theorem xwidths11 (a b c d : Int) (i : Inf) (e : Int) (s : ByteArray) (hw : 4 <= i.wd /\ i.wd <= 24) (mo : Int) (ch : Nat) (w : World) : Calls Tryz.prog 30 #[infV a b c d i e s, .int .i64 mo, .int .i64 (ch : Int)] w fun en w' => en = .returned (.int .i64 (wdA i mo ch)) /\ Lo w w' := by
 by_cases g1 : ch = 1
 focus
  by_cases g2 : mo = 1
  focus
   have HV : Hid (wdA i mo ch = i.wd + 1) := by show _ = _; unfold wdA; rw [if_pos (by omega)]
   rw [HV.out];clear HV;have hc1 : ((ch : Int) == 1) = true := eQt (by omega)
   have hm1 : (mo == 1) = true := eQt (by omega)
   clear g1 g2
  rotate_left
  focus
   skip
   by_cases g3 : mo = 3
   focus
    have HV : Hid (wdA i mo ch = i.wd + 1) := by show _ = _; unfold wdA; rw [if_pos (by omega)]
    rw [HV.out];clear HV;have hc1 : ((ch : Int) == 1) = true := eQt (by omega)
    have hm1 : (mo == 1) = false := eQf (by omega)
    have hm3 : (mo == 3) = true := eQt (by omega)
    clear g1 g3
   rotate_left
   focus
    skip
    have HV : Hid (wdA i mo ch = i.wd) := by show _ = _; unfold wdA; rw [if_neg (by omega)]
    rw [HV.out];clear HV;have hc1 : ((ch : Int) == 1) = true := eQt (by omega)
    have hc0 : ((ch : Int) == 0) = false := eQf (by omega)
    have hm1 : (mo == 1) = false := eQf (by omega)
    have hm3 : (mo == 3) = false := eQf (by omega)
    clear g1
   rotate_left
  rotate_left 2
 rotate_left 3
 focus
  by_cases g2 : ch = 0
  focus
   by_cases g3 : mo = 2
   focus
    have HV : Hid (wdA i mo ch = i.wd + 1) := by show _ = _; unfold wdA; rw [if_pos (by omega)]
    rw [HV.out];clear HV;have hc1 : ((ch : Int) == 1) = false := eQf (by omega)
    have hc0 : ((ch : Int) == 0) = true := eQt (by omega)
    have hm2 : (mo == 2) = true := eQt (by omega)
    clear g2 g3
   rotate_left
   focus
    have HV : Hid (wdA i mo ch = i.wd) := by show _ = _; unfold wdA; rw [if_neg (by omega)]
    rw [HV.out];clear HV;have hc1 : ((ch : Int) == 1) = false := eQf (by omega)
    have hc0 : ((ch : Int) == 0) = true := eQt (by omega)
    have hm2 : (mo == 2) = false := eQf (by omega)
    clear g2
   rotate_left
  rotate_left 2
  focus
   skip
   have HV : Hid (wdA i mo ch = i.wd) := by show _ = _; unfold wdA; rw [if_neg (by omega)]
   rw [HV.out];clear HV;have hc1 : ((ch : Int) == 1) = false := eQf (by omega)
   have hc0 : ((ch : Int) == 0) = false := eQf (by omega)
  rotate_left
 rotate_left 3
 all_goals
  have HA : Hid ((w.alloc (.cells (infC a b c d i e s) 26)).heap[w.heap.size]? = some (.cells (infC a b c d i e s) 26 (0, 0)) /\ Lo w (w.alloc (.cells (infC a b c d i e s) 26))) := ⟨heap_alloc_new _ _, aQ⟩;go_enter Tryz.func30, Tryz.ntmps30
  go_upto_region 1 with fail
  generalize World.alloc _ _ = wa at *;obtain ⟨i0, i1, i2, i3, i4, i5, i6, i7, i8⟩ := inf_cells HA.out.1
  go_wp2_with fail
  go_ret;exact ⟨by first | rfl | go_num, HA.out.2⟩
end Go.Proofs.YtfpfabmbipmipaaGreatDoor
