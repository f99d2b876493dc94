/- Own text. -/
import Derived.Deep.CutBlock
import Derived.Test.YtfpfabmbipmipaaGreatDoorD22
set_option linter.unusedSimpArgs false
set_option linter.unusedVariables false
set_option maxRecDepth 20000
set_option maxHeartbeats 12800000
namespace Go.Proofs.YtfpfabmbipmipaaGreatDoor
open Go.RowKit
theorem wid_pos (c : Int) (h : 1 <= c /\ c <= 6) (h3 : ¬ c = 3) : 0 < widN c := by
 have hc : c = 1 ∨ c = 2 ∨ c = 4 ∨ c = 5 ∨ c = 6 := by omega
 rcases hc with rfl | rfl | rfl | rfl | rfl <;> decide
theorem xsays11 (f : Fm) (so : OA) (sk : Nat) (a b c d : Int) (i : Inf) (e : Int) (s : ByteArray) (hr : 1 <= i.rate /\ i.rate <= 9223372036854775807) (b5 b6 b7 : Bool) (HB5 : Hid (b5 = true ↔ saysZ f)) (HB6 : Hid (b6 = true ↔ saysR f i)) (HB7 : Hid (b7 = true ↔ saysW f i)) (w : World) : Calls Tryz.prog 39 #[fmV f so sk, infV a b c d i e s] w fun en w' => en = .returned (.bool (b5 && b6 && b7)) /\ Lo w w' := by
 have HA : Hid (FX w f so sk a b c d i e s ((w.alloc (.cells (fmC f so sk) 24)).alloc (.cells (infC a b c d i e s) 26))) := FX.new w f so sk a b c d i e s
 go_enter Tryz.func39, Tryz.ntmps39
 go_upto_region 1 with fail
 generalize World.alloc _ _ = wa at *
 obtain ⟨f0, f1, f2, f3, f4, f5, f6, f7, i0, i1, i2, i3, i4, i5, i6, i7, i8⟩ := HA.out.cells
 go_cut [5] from 8 to 38 (fun s5 wx => s5 = .bool b5 /\ FX w f so sk a b c d i e s wx)
 case first =>
  by_cases g0 : f.sc < 1
  ·have HV : Hid (b5 = false) := bb_no HB5.out (fun h => by have := h.1; omega)
   have d1 : decide (1 <= f.sc) = false := decide_eq_false (by omega)
   clear g0;have HD := kQ HA.out.drew;clear HA f0 f1 f2 f3 f4 f5 f6 f7 i0 i1 i2 i3 i4 i5 i6 i7 i8
   go_wp2_with fail
   refine wp_region_held_drew (S := fun wx => FX w f so sk a b c d i e s wx) (by kernel_rfl) (HD.out) (fun hS => ?_)
   refine vQ 0 (.pointer (some ⟨w.heap.size, 3, none⟩)) hS ?_;simp only [SL];refine uQ 1 (.int .i64 f.sc) rfl hS (Or.inl ⟨by rfl, fun w hSw => by obtain ⟨f0, f1, f2, f3, f4, f5, f6, f7, i0, i1, i2, i3, i4, i5, i6, i7, i8⟩ := hSw.cells; go_simp⟩) ?_
   simp only [SL];refine vQ 2 (.bool false) hS ?_;simp only [SL];refine vQ 3 (.bool false) hS ?_;simp only [SL];refine wQ 4 hS ?_;simp only [SL];refine wQ 5 hS ?_;simp only [SL];refine wQ 6 hS ?_;simp only [SL];refine vQ 7 (.bool false) hS ?_;simp only [SL];refine vQ 8 (.bool false) hS ?_;simp only [SL];refine wQ 9 hS ?_;simp only [SL];refine wQ 10 hS ?_;simp only [SL];refine wQ 11 hS ?_;simp only [SL];refine wQ 12 hS ?_;simp only [SL];refine wQ 13 hS ?_;simp only [SL];refine wQ 14 hS ?_;simp only [SL];refine wQ 15 hS ?_;simp only [SL];refine wQ 16 hS ?_;simp only [SL];refine wQ 17 hS ?_;simp only [SL];refine wQ 18 hS ?_;simp only [SL];refine wQ 19 hS ?_;simp only [SL];refine wQ 20 hS ?_;simp only [SL];refine wQ 21 hS ?_;simp only [SL];refine wQ 22 hS ?_;simp only [SL];refine wQ 23 hS ?_;simp only [SL];refine wQ 24 hS ?_;simp only [SL];refine wQ 25 hS ?_;simp only [SL];refine wQ 26 hS ?_;simp only [SL];refine wQ 27 hS ?_;simp only [SL];refine wQ 28 hS ?_;simp only [SL];refine wQ 29 hS ?_;simp only [SL];refine vQ 30 (.bool false) hS ?_;simp only [SL];refine vQ 31 (.bool false) hS ?_;simp only [SL];refine wpAnyH_done (by kernel_rfl) ?_ _
   go_wp2_with fail
   go_meet
   exact ⟨by rw [HV.out], HD.out⟩
  focus
   by_cases g1 : 15 < f.sc
   ·have HV : Hid (b5 = false) := bb_no HB5.out (fun h => by have := h.1; omega)
    have d1 : decide (1 <= f.sc) = true := decide_eq_true (by omega)
    have d2 : decide (f.sc <= 15) = false := decide_eq_false (by omega)
    clear g0 g1;have HD := kQ HA.out.drew;clear HA f0 f1 f2 f3 f4 f5 f6 f7 i0 i1 i2 i3 i4 i5 i6 i7 i8
    go_wp2_with fail
    refine wp_region_held_drew (S := fun wx => FX w f so sk a b c d i e s wx) (by kernel_rfl) (HD.out) (fun hS => ?_)
    refine vQ 0 (.pointer (some ⟨w.heap.size, 3, none⟩)) hS ?_;simp only [SL];refine uQ 1 (.int .i64 f.sc) rfl hS (Or.inl ⟨by rfl, fun w hSw => by obtain ⟨f0, f1, f2, f3, f4, f5, f6, f7, i0, i1, i2, i3, i4, i5, i6, i7, i8⟩ := hSw.cells; go_simp⟩) ?_
    simp only [SL];refine vQ 2 (.bool true) hS ?_;simp only [SL];refine vQ 3 (.bool true) hS ?_;simp only [SL];refine vQ 4 (.pointer (some ⟨w.heap.size, 3, none⟩)) hS ?_;simp only [SL];refine uQ 5 (.int .i64 f.sc) rfl hS (Or.inl ⟨by rfl, fun w hSw => by obtain ⟨f0, f1, f2, f3, f4, f5, f6, f7, i0, i1, i2, i3, i4, i5, i6, i7, i8⟩ := hSw.cells; go_simp⟩) ?_
    simp only [SL];refine vQ 6 (.bool false) hS ?_;simp only [SL];refine vQ 7 (.bool false) hS ?_;simp only [SL];refine vQ 8 (.bool false) hS ?_;simp only [SL];refine wQ 9 hS ?_;simp only [SL];refine wQ 10 hS ?_;simp only [SL];refine wQ 11 hS ?_;simp only [SL];refine wQ 12 hS ?_;simp only [SL];refine wQ 13 hS ?_;simp only [SL];refine wQ 14 hS ?_;simp only [SL];refine wQ 15 hS ?_;simp only [SL];refine wQ 16 hS ?_;simp only [SL];refine wQ 17 hS ?_;simp only [SL];refine wQ 18 hS ?_;simp only [SL];refine wQ 19 hS ?_;simp only [SL];refine wQ 20 hS ?_;simp only [SL];refine wQ 21 hS ?_;simp only [SL];refine wQ 22 hS ?_;simp only [SL];refine wQ 23 hS ?_;simp only [SL];refine wQ 24 hS ?_;simp only [SL];refine wQ 25 hS ?_;simp only [SL];refine wQ 26 hS ?_;simp only [SL];refine wQ 27 hS ?_;simp only [SL];refine wQ 28 hS ?_;simp only [SL];refine wQ 29 hS ?_;simp only [SL];refine vQ 30 (.bool false) hS ?_;simp only [SL];refine vQ 31 (.bool false) hS ?_;simp only [SL];refine wpAnyH_done (by kernel_rfl) ?_ _
    go_wp2_with fail
    go_meet
    exact ⟨by rw [HV.out], HD.out⟩
   focus
    by_cases g2 : sizN f.sc = f.size
    focus
     have HV : Hid (b5 = true) := bb_yes HB5.out (⟨by omega, .inl g2⟩)
     have KZ : Hid (∀ wx, Hid (FX w f so sk a b c d i e s wx) -> Calls Tryz.prog 89 #[.int .i64 f.sc] wx fun en w' => en = .returned (.int .i64 (sizN f.sc)) /\ Hid (FX w f so sk a b c d i e s w')) := fun wx hx => (xsizeof f.sc (by omega) wx).mono fun en w' hh => ⟨hh.1, by rw [hh.2]; exact hx⟩
     have d1 : decide (1 <= f.sc) = true := decide_eq_true (by omega)
     have d2 : decide (f.sc <= 15) = true := decide_eq_true (by omega)
     have d3 : (sizN f.sc == f.size) = true := by rw [beq_iff_eq]; exact g2
     clear g2
    rotate_left
    focus
     by_cases g3 : f.sc = 6
     focus
      by_cases g4 : f.size <= 256
      focus
       have HV : Hid (b5 = true) := bb_yes HB5.out (⟨by omega, .inr (.inl ⟨g3, g4⟩)⟩)
       have KZ : Hid (∀ wx, Hid (FX w f so sk a b c d i e s wx) -> Calls Tryz.prog 89 #[.int .i64 f.sc] wx fun en w' => en = .returned (.int .i64 (sizN f.sc)) /\ Hid (FX w f so sk a b c d i e s w')) := fun wx hx => (xsizeof f.sc (by omega) wx).mono fun en w' hh => ⟨hh.1, by rw [hh.2]; exact hx⟩
       have d1 : decide (1 <= f.sc) = true := decide_eq_true (by omega)
       have d2 : decide (f.sc <= 15) = true := decide_eq_true (by omega)
       have d3 : (sizN f.sc == f.size) = false := by rw [beq_eq_false_iff_ne]; exact g2
       have d4 : (f.sc == 6) = true := by rw [beq_iff_eq]; exact g3
       have d5 : decide (f.size <= 256) = true := decide_eq_true (by omega)
       clear g2 g3
      rotate_left
      focus
       have HV : Hid (b5 = false) := bb_no HB5.out (fun h => by rcases h.2 with h | h | h <;> omega)
       have KZ : Hid (∀ wx, Hid (FX w f so sk a b c d i e s wx) -> Calls Tryz.prog 89 #[.int .i64 f.sc] wx fun en w' => en = .returned (.int .i64 (sizN f.sc)) /\ Hid (FX w f so sk a b c d i e s w')) := fun wx hx => (xsizeof f.sc (by omega) wx).mono fun en w' hh => ⟨hh.1, by rw [hh.2]; exact hx⟩
       have d1 : decide (1 <= f.sc) = true := decide_eq_true (by omega)
       have d2 : decide (f.sc <= 15) = true := decide_eq_true (by omega)
       have d3 : (sizN f.sc == f.size) = false := by rw [beq_eq_false_iff_ne]; exact g2
       have d4 : (f.sc == 6) = true := by rw [beq_iff_eq]; exact g3
       have d5 : decide (f.size <= 256) = false := decide_eq_false (by omega)
       have d6 : (f.sc == 7) = false := eQf (by omega)
       clear g2 g3
      rotate_left
     rotate_left 2
     focus
      by_cases g5 : f.sc = 7
      focus
       have HV : Hid (b5 = true) := bb_yes HB5.out (⟨by omega, .inr (.inr (by omega))⟩)
       have KZ : Hid (∀ wx, Hid (FX w f so sk a b c d i e s wx) -> Calls Tryz.prog 89 #[.int .i64 f.sc] wx fun en w' => en = .returned (.int .i64 (sizN f.sc)) /\ Hid (FX w f so sk a b c d i e s w')) := fun wx hx => (xsizeof f.sc (by omega) wx).mono fun en w' hh => ⟨hh.1, by rw [hh.2]; exact hx⟩
       have d1 : decide (1 <= f.sc) = true := decide_eq_true (by omega)
       have d2 : decide (f.sc <= 15) = true := decide_eq_true (by omega)
       have d3 : (sizN f.sc == f.size) = false := by rw [beq_eq_false_iff_ne]; exact g2
       have d4 : (f.sc == 6) = false := by rw [beq_eq_false_iff_ne]; exact g3
       have d6 : (f.sc == 7) = true := eQt (by omega)
       clear g2 g3 g5
      rotate_left
      focus
       have HV : Hid (b5 = false) := bb_no HB5.out (fun h => by rcases h.2 with h | h | h <;> omega)
       have KZ : Hid (∀ wx, Hid (FX w f so sk a b c d i e s wx) -> Calls Tryz.prog 89 #[.int .i64 f.sc] wx fun en w' => en = .returned (.int .i64 (sizN f.sc)) /\ Hid (FX w f so sk a b c d i e s w')) := fun wx hx => (xsizeof f.sc (by omega) wx).mono fun en w' hh => ⟨hh.1, by rw [hh.2]; exact hx⟩
       have d1 : decide (1 <= f.sc) = true := decide_eq_true (by omega)
       have d2 : decide (f.sc <= 15) = true := decide_eq_true (by omega)
       have d3 : (sizN f.sc == f.size) = false := by rw [beq_eq_false_iff_ne]; exact g2
       have d4 : (f.sc == 6) = false := by rw [beq_eq_false_iff_ne]; exact g3
       have d6 : (f.sc == 7) = false := eQf (by omega)
       clear g2 g3 g5
      rotate_left
     rotate_left 2
    rotate_left 4
   rotate_left 5
  rotate_left 5
  all_goals
   generalize sizN f.sc = zn at *;have HD := kQ HA.out.drew;clear HA f0 f1 f2 f3 f4 f5 f6 f7 i0 i1 i2 i3 i4 i5 i6 i7 i8
   go_wp2_with fail
   refine wp_region_held_drew (S := fun wx => FX w f so sk a b c d i e s wx) (by kernel_rfl) (HD.out) (fun hS => ?_)
   refine vQ 0 (.pointer (some ⟨w.heap.size, 3, none⟩)) hS ?_;simp only [SL];refine uQ 1 (.int .i64 f.sc) rfl hS (Or.inl ⟨by rfl, fun w hSw => by obtain ⟨f0, f1, f2, f3, f4, f5, f6, f7, i0, i1, i2, i3, i4, i5, i6, i7, i8⟩ := hSw.cells; go_simp⟩) ?_
   simp only [SL];refine vQ 2 (.bool true) hS ?_;simp only [SL];refine vQ 3 (.bool true) hS ?_;simp only [SL];refine vQ 4 (.pointer (some ⟨w.heap.size, 3, none⟩)) hS ?_;simp only [SL];refine uQ 5 (.int .i64 f.sc) rfl hS (Or.inl ⟨by rfl, fun w hSw => by obtain ⟨f0, f1, f2, f3, f4, f5, f6, f7, i0, i1, i2, i3, i4, i5, i6, i7, i8⟩ := hSw.cells; go_simp⟩) ?_
   simp only [SL];refine vQ 6 (.bool true) hS ?_;simp only [SL];refine vQ 7 (.bool true) hS ?_;simp only [SL];refine vQ 8 (.bool true) hS ?_;simp only [SL];refine vQ 9 (.pointer (some ⟨w.heap.size, 3, none⟩)) hS ?_;simp only [SL];refine uQ 10 (.int .i64 f.sc) rfl hS (Or.inl ⟨by rfl, fun w hSw => by obtain ⟨f0, f1, f2, f3, f4, f5, f6, f7, i0, i1, i2, i3, i4, i5, i6, i7, i8⟩ := hSw.cells; go_simp⟩) ?_
   simp only [SL];refine vQ 12 (.pointer (some ⟨w.heap.size, 2, none⟩)) hS ?_;simp only [SL];refine uQ 13 (.int .i64 f.size) rfl hS (Or.inl ⟨by rfl, fun w hSw => by obtain ⟨f0, f1, f2, f3, f4, f5, f6, f7, i0, i1, i2, i3, i4, i5, i6, i7, i8⟩ := hSw.cells; go_simp⟩) ?_
   simp only [SL];refine wpAnyH_ready (rs := [11]) (by kernel_rfl) (by simp) ?_
   refine AllReadyH.cons rfl (fun K hK => ?_) AllReadyH.nil;go_simp;refine (KZ.out _ hS).mono ?_;rintro en w4 ⟨rfl, h4⟩;refine hK.out _ _ h4.out (fun hSw4 => ?_);clear hK K
   try simp only [SL]
  ·refine vQ 14 (.bool true) hSw4 ?_
   simp only [SL];refine vQ 15 (.bool true) hSw4 ?_;simp only [SL];refine wQ 16 hSw4 ?_;simp only [SL];refine wQ 17 hSw4 ?_;simp only [SL];refine wQ 18 hSw4 ?_;simp only [SL];refine wQ 19 hSw4 ?_;simp only [SL];refine wQ 20 hSw4 ?_;simp only [SL];refine wQ 21 hSw4 ?_;simp only [SL];refine wQ 22 hSw4 ?_;simp only [SL];refine wQ 23 hSw4 ?_;simp only [SL];refine vQ 24 (.bool true) hSw4 ?_;simp only [SL];refine vQ 25 (.bool true) hSw4 ?_;simp only [SL];refine wQ 26 hSw4 ?_;simp only [SL];refine wQ 27 hSw4 ?_;simp only [SL];refine wQ 28 hSw4 ?_;simp only [SL];refine vQ 29 (.bool true) hSw4 ?_;simp only [SL];refine vQ 30 (.bool true) hSw4 ?_;simp only [SL];refine vQ 31 (.bool true) hSw4 ?_;simp only [SL];refine wpAnyH_done (by kernel_rfl) ?_ _
   go_wp2_with fail
   go_meet
   exact ⟨by rw [HV.out], h4.out⟩
  rotate_left 4
  all_goals
   refine vQ 14 (.bool false) hSw4 ?_;simp only [SL];refine vQ 15 (.bool false) hSw4 ?_;simp only [SL];refine vQ 16 (.pointer (some ⟨w.heap.size, 3, none⟩)) hSw4 ?_;simp only [SL];refine uQ 17 (.int .i64 f.sc) rfl hSw4 (Or.inl ⟨by rfl, fun w hSw => by obtain ⟨f0, f1, f2, f3, f4, f5, f6, f7, i0, i1, i2, i3, i4, i5, i6, i7, i8⟩ := hSw.cells; go_simp⟩) ?_
   simp only [SL]
  ·refine vQ 18 (.bool true) hSw4 ?_
   simp only [SL];refine vQ 19 (.bool true) hSw4 ?_;simp only [SL];refine vQ 20 (.pointer (some ⟨w.heap.size, 2, none⟩)) hSw4 ?_;simp only [SL];refine uQ 21 (.int .i64 f.size) rfl hSw4 (Or.inl ⟨by rfl, fun w hSw => by obtain ⟨f0, f1, f2, f3, f4, f5, f6, f7, i0, i1, i2, i3, i4, i5, i6, i7, i8⟩ := hSw.cells; go_simp⟩) ?_
   simp only [SL];refine vQ 22 (.bool true) hSw4 ?_;simp only [SL];refine vQ 23 (.bool true) hSw4 ?_;simp only [SL];refine vQ 24 (.bool true) hSw4 ?_;simp only [SL];refine vQ 25 (.bool true) hSw4 ?_;simp only [SL];refine wQ 26 hSw4 ?_;simp only [SL];refine wQ 27 hSw4 ?_;simp only [SL];refine wQ 28 hSw4 ?_;simp only [SL];refine vQ 29 (.bool true) hSw4 ?_;simp only [SL];refine vQ 30 (.bool true) hSw4 ?_;simp only [SL];refine vQ 31 (.bool true) hSw4 ?_;simp only [SL];refine wpAnyH_done (by kernel_rfl) ?_ _
   go_wp2_with fail
   go_meet
   exact ⟨by rw [HV.out], h4.out⟩
  focus
   refine vQ 18 (.bool true) hSw4 ?_;simp only [SL];refine vQ 19 (.bool true) hSw4 ?_;simp only [SL];refine vQ 20 (.pointer (some ⟨w.heap.size, 2, none⟩)) hSw4 ?_;simp only [SL];refine uQ 21 (.int .i64 f.size) rfl hSw4 (Or.inl ⟨by rfl, fun w hSw => by obtain ⟨f0, f1, f2, f3, f4, f5, f6, f7, i0, i1, i2, i3, i4, i5, i6, i7, i8⟩ := hSw.cells; go_simp⟩) ?_
   simp only [SL];refine vQ 22 (.bool false) hSw4 ?_
  rotate_left
  focus
   refine vQ 18 (.bool false) hSw4 ?_;simp only [SL];refine vQ 19 (.bool false) hSw4 ?_;simp only [SL];refine wQ 20 hSw4 ?_;simp only [SL];refine wQ 21 hSw4 ?_;simp only [SL];refine wQ 22 hSw4 ?_
  rotate_left
  focus
   refine vQ 18 (.bool false) hSw4 ?_;simp only [SL];refine vQ 19 (.bool false) hSw4 ?_;simp only [SL];refine wQ 20 hSw4 ?_;simp only [SL];refine wQ 21 hSw4 ?_;simp only [SL];refine wQ 22 hSw4 ?_
  rotate_left
  all_goals
   simp only [SL];refine vQ 23 (.bool false) hSw4 ?_;simp only [SL];refine vQ 24 (.bool false) hSw4 ?_;simp only [SL];refine vQ 25 (.bool false) hSw4 ?_;simp only [SL];refine vQ 26 (.pointer (some ⟨w.heap.size, 3, none⟩)) hSw4 ?_;simp only [SL];refine uQ 27 (.int .i64 f.sc) rfl hSw4 (Or.inl ⟨by rfl, fun w hSw => by obtain ⟨f0, f1, f2, f3, f4, f5, f6, f7, i0, i1, i2, i3, i4, i5, i6, i7, i8⟩ := hSw.cells; go_simp⟩) ?_
   simp only [SL]
  rotate_left
  ·refine vQ 28 (.bool true) hSw4 ?_
   simp only [SL];refine vQ 29 (.bool true) hSw4 ?_;simp only [SL];refine vQ 30 (.bool true) hSw4 ?_;simp only [SL];refine vQ 31 (.bool true) hSw4 ?_;simp only [SL];refine wpAnyH_done (by kernel_rfl) ?_ _
   go_wp2_with fail
   go_meet
   exact ⟨by rw [HV.out], h4.out⟩
  rotate_left
  all_goals
   refine vQ 28 (.bool false) hSw4 ?_;simp only [SL];refine vQ 29 (.bool false) hSw4 ?_;simp only [SL];refine vQ 30 (.bool false) hSw4 ?_;simp only [SL];refine vQ 31 (.bool false) hSw4 ?_;simp only [SL];refine wpAnyH_done (by kernel_rfl) ?_ _
   go_wp2_with fail
   go_meet
   exact ⟨by rw [HV.out], h4.out⟩
 case rest =>
  clear HA;obtain ⟨rfl, hfx⟩ := hcut;have HA := kQ hfx;clear hfx f0 f1 f2 f3 f4 f5 f6 f7 i0 i1 i2 i3 i4 i5 i6 i7 i8;obtain ⟨f0, f1, f2, f3, f4, f5, f6, f7, i0, i1, i2, i3, i4, i5, i6, i7, i8⟩ := HA.out.cells
  go_upto_block 0 with fail
  go_cut [6] from 39 to 90 (fun s6 wx => s6 = .bool b6 /\ FX w f so sk a b c d i e s wx)
  case first =>
   by_cases ge : f.rc = 0
   ·have HV : Hid (b6 = true) := bb_yes HB6.out (.inl ge)
    have r0 : (f.rc == 0) = true := eQt (by omega)
    clear ge
    go_wp2_with fail
    go_meet
    exact ⟨by rw [HV.out], HA.out⟩
   focus
    by_cases g1 : f.rc < 1
    ·have HV : Hid (b6 = false) := bb_no HB6.out (fun h => by rcases h with h | h | h | h | h <;> omega)
     have r0 : (f.rc == 0) = false := eQf (by omega)
     have d8 : decide (1 <= f.rc) = false := decide_eq_false (by omega)
     have r12 : (f.rc == 12) = false := eQf (by omega)
     have r13 : (f.rc == 13) = false := eQf (by omega)
     have r14 : (f.rc == 14) = false := eQf (by omega)
     clear ge
     go_wp2_with fail
     go_meet
     exact ⟨by rw [HV.out], HA.out⟩
    focus
     by_cases g2 : f.rc <= 11
     ·by_cases q6 : ratN f.rc = i.rate
      ·have HV : Hid (b6 = true) := bb_yes HB6.out (.inr (.inl ⟨by omega, q6⟩))
       have KR : Hid (∀ wx, Hid (FX w f so sk a b c d i e s wx) -> Calls Tryz.prog 90 #[.int .i64 f.rc] wx fun en w' => en = .returned (.int .i64 (ratN f.rc)) /\ Hid (FX w f so sk a b c d i e s w')) := fun wx hx => (xrateof f.rc (by omega) wx).mono fun en w' hh => ⟨hh.1, hx.out.next hh.2⟩
       have d7 : (ratN f.rc == i.rate) = true := by rw [beq_iff_eq]; exact q6
       have d8 : decide (1 <= f.rc) = true := decide_eq_true (by omega)
       have d9 : decide (f.rc <= 11) = true := decide_eq_true (by omega)
       have r0 : (f.rc == 0) = false := eQf (by omega)
       clear q6;generalize ratN f.rc = rn at *;have HD := kQ HA.out.drew
       go_wp2_with fail
       clear HA f0 f1 f2 f3 f4 f5 f6 f7 i0 i1 i2 i3 i4 i5 i6 i7 i8;refine wp_region_held_drew (S := fun wx => FX w f so sk a b c d i e s wx) (by kernel_rfl) (HD.out) (fun hS => ?_)
       refine vQ 0 (.pointer (some ⟨w.heap.size, 4, none⟩)) hS ?_;simp only [SL];refine uQ 1 (.int .i64 f.rc) rfl hS (Or.inl ⟨by rfl, fun w hSw => by obtain ⟨f0, f1, f2, f3, f4, f5, f6, f7, i0, i1, i2, i3, i4, i5, i6, i7, i8⟩ := hSw.cells; go_simp⟩) ?_
       simp only [SL];refine vQ 3 (.pointer (some ⟨w.heap.size + 1, 4, none⟩)) hS ?_;simp only [SL];refine uQ 4 (.int .i64 i.rate) rfl hS (Or.inl ⟨by rfl, fun w hSw => by obtain ⟨f0, f1, f2, f3, f4, f5, f6, f7, i0, i1, i2, i3, i4, i5, i6, i7, i8⟩ := hSw.cells; go_simp⟩) ?_
       simp only [SL];refine wpAnyH_ready (rs := [2]) (by kernel_rfl) (by simp) ?_
       refine AllReadyH.cons rfl (fun K hK => ?_) AllReadyH.nil;go_simp;refine (KR.out _ hS).mono ?_;rintro en w4 ⟨rfl, h4⟩;refine hK.out _ _ h4.out (fun hSw4 => ?_);clear hK K
       try simp only [SL]
       refine vQ 5 (.bool true) hSw4 ?_;simp only [SL];refine vQ 6 (.bool true) hSw4 ?_;simp only [SL];refine wpAnyH_done (by kernel_rfl) ?_ _
       go_wp2_with fail
       go_meet
       exact ⟨by rw [HV.out], h4.out⟩
      ·have HV : Hid (b6 = false) := bb_no HB6.out (fun h => by rcases h with h | h | h | h | h <;> first | omega | exact q6 h.2)
       have KR : Hid (∀ wx, Hid (FX w f so sk a b c d i e s wx) -> Calls Tryz.prog 90 #[.int .i64 f.rc] wx fun en w' => en = .returned (.int .i64 (ratN f.rc)) /\ Hid (FX w f so sk a b c d i e s w')) := fun wx hx => (xrateof f.rc (by omega) wx).mono fun en w' hh => ⟨hh.1, hx.out.next hh.2⟩
       have d7 : (ratN f.rc == i.rate) = false := by rw [beq_eq_false_iff_ne]; exact q6
       have d8 : decide (1 <= f.rc) = true := decide_eq_true (by omega)
       have d9 : decide (f.rc <= 11) = true := decide_eq_true (by omega)
       have r0 : (f.rc == 0) = false := eQf (by omega)
       clear q6;generalize ratN f.rc = rn at *;have HD := kQ HA.out.drew
       go_wp2_with fail
       clear HA f0 f1 f2 f3 f4 f5 f6 f7 i0 i1 i2 i3 i4 i5 i6 i7 i8;refine wp_region_held_drew (S := fun wx => FX w f so sk a b c d i e s wx) (by kernel_rfl) (HD.out) (fun hS => ?_)
       refine vQ 0 (.pointer (some ⟨w.heap.size, 4, none⟩)) hS ?_;simp only [SL];refine uQ 1 (.int .i64 f.rc) rfl hS (Or.inl ⟨by rfl, fun w hSw => by obtain ⟨f0, f1, f2, f3, f4, f5, f6, f7, i0, i1, i2, i3, i4, i5, i6, i7, i8⟩ := hSw.cells; go_simp⟩) ?_
       simp only [SL];refine vQ 3 (.pointer (some ⟨w.heap.size + 1, 4, none⟩)) hS ?_;simp only [SL];refine uQ 4 (.int .i64 i.rate) rfl hS (Or.inl ⟨by rfl, fun w hSw => by obtain ⟨f0, f1, f2, f3, f4, f5, f6, f7, i0, i1, i2, i3, i4, i5, i6, i7, i8⟩ := hSw.cells; go_simp⟩) ?_
       simp only [SL];refine wpAnyH_ready (rs := [2]) (by kernel_rfl) (by simp) ?_
       refine AllReadyH.cons rfl (fun K hK => ?_) AllReadyH.nil;go_simp;refine (KR.out _ hS).mono ?_;rintro en w4 ⟨rfl, h4⟩;refine hK.out _ _ h4.out (fun hSw4 => ?_);clear hK K
       try simp only [SL]
       refine vQ 5 (.bool false) hSw4 ?_;simp only [SL];refine vQ 6 (.bool false) hSw4 ?_;simp only [SL];refine wpAnyH_done (by kernel_rfl) ?_ _
       go_wp2_with fail
       go_meet
       exact ⟨by rw [HV.out], h4.out⟩
     focus
      have ne0 : ¬ f.rc = 0 := ge;clear ge;by_cases ge : f.rc = 12
      focus
       by_cases q6 : i.rate % 1000 = 0
       focus
        by_cases q7 : i.rate <= 255000
        ·have HV : Hid (b6 = true) := bb_yes HB6.out (.inr (.inr (.inl ⟨ge, q6, q7⟩)))
         have d8 : decide (1 <= f.rc) = true := decide_eq_true (by omega)
         have d9 : decide (f.rc <= 11) = false := decide_eq_false (by omega)
         have r0 : (f.rc == 0) = false := eQf (by omega)
         have r12 : (f.rc == 12) = true := eQt (by omega)
         clear ge;have dm : (i.rate % 1000 == 0) = true := eQt (by omega)
         clear q6;have dt : decide (i.rate <= 255000) = true := decide_eq_true (by omega)
         go_wp2_with fail
         go_meet
         exact ⟨by rw [HV.out], HA.out⟩
        rotate_left
       rotate_left;rotate_left
      rotate_left 2
      focus
       have ne12 : ¬ f.rc = 12 := ge;clear ge;by_cases ge : f.rc = 13
       focus
        by_cases q7 : i.rate <= 65535
        ·have HV : Hid (b6 = true) := bb_yes HB6.out (.inr (.inr (.inr (.inl ⟨ge, q7⟩))))
         have d8 : decide (1 <= f.rc) = true := decide_eq_true (by omega)
         have d9 : decide (f.rc <= 11) = false := decide_eq_false (by omega)
         have r0 : (f.rc == 0) = false := eQf (by omega)
         have r12 : (f.rc == 12) = false := eQf (by omega)
         have r13 : (f.rc == 13) = true := eQt (by omega)
         clear ge;have dt : decide (i.rate <= 65535) = true := decide_eq_true (by omega)
         go_wp2_with fail
         go_meet
         exact ⟨by rw [HV.out], HA.out⟩
        rotate_left
       rotate_left
       focus
        have ne13 : ¬ f.rc = 13 := ge;clear ge;by_cases ge : f.rc = 14
        focus
         by_cases q6 : i.rate % 10 = 0
         focus
          by_cases q7 : i.rate <= 655350
          ·have HV : Hid (b6 = true) := bb_yes HB6.out (.inr (.inr (.inr (.inr ⟨ge, q6, q7⟩))))
           have d8 : decide (1 <= f.rc) = true := decide_eq_true (by omega)
           have d9 : decide (f.rc <= 11) = false := decide_eq_false (by omega)
           have r0 : (f.rc == 0) = false := eQf (by omega)
           have r12 : (f.rc == 12) = false := eQf (by omega)
           have r13 : (f.rc == 13) = false := eQf (by omega)
           have r14 : (f.rc == 14) = true := eQt (by omega)
           clear ge;have dm : (i.rate % 10 == 0) = true := eQt (by omega)
           clear q6;have dt : decide (i.rate <= 655350) = true := decide_eq_true (by omega)
           go_wp2_with fail
           go_meet
           exact ⟨by rw [HV.out], HA.out⟩
          rotate_left
         rotate_left;rotate_left
        rotate_left 2;rotate_left
       rotate_left 3
      rotate_left 4
     rotate_left 6
    rotate_left 6
   rotate_left 6
   all_goals
    have HV : Hid (b6 = false) := bb_no HB6.out (fun h => by rcases h with h | h | h | h | h <;> omega)
    have d8 : decide (1 <= f.rc) = true := decide_eq_true (by omega)
    have d9 : decide (f.rc <= 11) = false := decide_eq_false (by omega)
    have r0 : (f.rc == 0) = false := eQf (by omega)
   focus
    have r12 : (f.rc == 12) = true := eQt (by omega)
    clear ge;have dm : (i.rate % 1000 == 0) = true := eQt (by omega)
    clear q6;have dt : decide (i.rate <= 255000) = false := decide_eq_false (by omega)
   rotate_left
   focus
    have r12 : (f.rc == 12) = true := eQt (by omega)
    clear ge;have dm : (i.rate % 1000 == 0) = false := eQf (by omega)
    clear q6
   rotate_left
   focus
    have r12 : (f.rc == 12) = false := eQf (by omega)
    have r13 : (f.rc == 13) = true := eQt (by omega)
    clear ge;have dt : decide (i.rate <= 65535) = false := decide_eq_false (by omega)
   rotate_left
   focus
    have r12 : (f.rc == 12) = false := eQf (by omega)
    have r13 : (f.rc == 13) = false := eQf (by omega)
    have r14 : (f.rc == 14) = true := eQt (by omega)
    clear ge;have dm : (i.rate % 10 == 0) = true := eQt (by omega)
    clear q6;have dt : decide (i.rate <= 655350) = false := decide_eq_false (by omega)
   rotate_left
   focus
    have r12 : (f.rc == 12) = false := eQf (by omega)
    have r13 : (f.rc == 13) = false := eQf (by omega)
    have r14 : (f.rc == 14) = true := eQt (by omega)
    clear ge;have dm : (i.rate % 10 == 0) = false := eQf (by omega)
    clear q6
   rotate_left
   focus
    have r12 : (f.rc == 12) = false := eQf (by omega)
    have r13 : (f.rc == 13) = false := eQf (by omega)
    have r14 : (f.rc == 14) = false := eQf (by omega)
    clear ge
   rotate_left
   all_goals
    go_wp2_with fail
    go_meet
    exact ⟨by rw [HV.out], HA.out⟩
  case rest =>
   clear HA;obtain ⟨rfl, hfx⟩ := hcut;have HA := kQ hfx;clear hfx
   go_upto_region 13 with fail
   go_cut [7] from 91 to 117 (fun s7 wx => s7 = .bool b7 /\ FX w f so sk a b c d i e s wx)
   case first =>
    by_cases g0 : f.wc = 0
    ·have HV : Hid (b7 = true) := bb_yes HB7.out (.inl g0)
     have e0 : (f.wc == 0) = true := by rw [beq_iff_eq]; exact g0
     clear g0;have HD := kQ HA.out.drew;clear HA
     go_wp2_with fail
     refine wp_region_held_drew (S := fun wx => FX w f so sk a b c d i e s wx) (by kernel_rfl) (HD.out) (fun hS => ?_)
     refine vQ 0 (.pointer (some ⟨w.heap.size, 5, none⟩)) hS ?_;simp only [SL];refine uQ 1 (.int .i64 f.wc) rfl hS (Or.inl ⟨by rfl, fun w hSw => by obtain ⟨f0, f1, f2, f3, f4, f5, f6, f7, i0, i1, i2, i3, i4, i5, i6, i7, i8⟩ := hSw.cells; go_simp⟩) ?_
     simp only [SL];refine vQ 2 (.bool true) hS ?_;simp only [SL];refine vQ 3 (.bool true) hS ?_;simp only [SL];refine wQ 4 hS ?_;simp only [SL];refine wQ 5 hS ?_;simp only [SL];refine wQ 6 hS ?_;simp only [SL];refine wQ 7 hS ?_;simp only [SL];refine wQ 8 hS ?_;simp only [SL];refine wQ 9 hS ?_;simp only [SL];refine wQ 10 hS ?_;simp only [SL];refine wQ 11 hS ?_;simp only [SL];refine wQ 12 hS ?_;simp only [SL];refine wQ 13 hS ?_;simp only [SL];refine wQ 14 hS ?_;simp only [SL];refine wQ 15 hS ?_;simp only [SL];refine wQ 16 hS ?_;simp only [SL];refine wQ 17 hS ?_;simp only [SL];refine wQ 18 hS ?_;simp only [SL];refine wQ 19 hS ?_;simp only [SL];refine wQ 20 hS ?_;simp only [SL];refine wQ 21 hS ?_;simp only [SL];refine wQ 22 hS ?_;simp only [SL];refine wQ 23 hS ?_;simp only [SL];refine wQ 24 hS ?_;simp only [SL];refine wQ 25 hS ?_;simp only [SL];refine vQ 26 (.bool true) hS ?_;simp only [SL];refine vQ 27 (.bool true) hS ?_;simp only [SL];refine wpAnyH_done (by kernel_rfl) ?_ _
     go_wp2_with fail
     go_meet
     exact ⟨by rw [HV.out], HD.out⟩
    focus
     by_cases g1 : f.wc < 0
     ·have HV : Hid (b7 = false) := bb_no HB7.out (fun h => by rcases h with h | h <;> omega)
      have e0 : (f.wc == 0) = false := by rw [beq_eq_false_iff_ne]; exact g0
      have e1 : decide (0 < f.wc) = false := decide_eq_false (by omega)
      clear g0;have HD := kQ HA.out.drew;clear HA
      go_wp2_with fail
      refine wp_region_held_drew (S := fun wx => FX w f so sk a b c d i e s wx) (by kernel_rfl) (HD.out) (fun hS => ?_)
      refine vQ 0 (.pointer (some ⟨w.heap.size, 5, none⟩)) hS ?_;simp only [SL];refine uQ 1 (.int .i64 f.wc) rfl hS (Or.inl ⟨by rfl, fun w hSw => by obtain ⟨f0, f1, f2, f3, f4, f5, f6, f7, i0, i1, i2, i3, i4, i5, i6, i7, i8⟩ := hSw.cells; go_simp⟩) ?_
      simp only [SL];refine vQ 2 (.bool false) hS ?_;simp only [SL];refine vQ 3 (.bool false) hS ?_;simp only [SL];refine vQ 4 (.pointer (some ⟨w.heap.size, 5, none⟩)) hS ?_;simp only [SL];refine uQ 5 (.int .i64 f.wc) rfl hS (Or.inl ⟨by rfl, fun w hSw => by obtain ⟨f0, f1, f2, f3, f4, f5, f6, f7, i0, i1, i2, i3, i4, i5, i6, i7, i8⟩ := hSw.cells; go_simp⟩) ?_
      simp only [SL];refine vQ 6 (.bool false) hS ?_;simp only [SL];refine vQ 7 (.bool false) hS ?_;simp only [SL];refine wQ 8 hS ?_;simp only [SL];refine wQ 9 hS ?_;simp only [SL];refine wQ 10 hS ?_;simp only [SL];refine vQ 11 (.bool false) hS ?_;simp only [SL];refine vQ 12 (.bool false) hS ?_;simp only [SL];refine wQ 13 hS ?_;simp only [SL];refine wQ 14 hS ?_;simp only [SL];refine wQ 15 hS ?_;simp only [SL];refine wQ 16 hS ?_;simp only [SL];refine vQ 17 (.bool false) hS ?_;simp only [SL];refine vQ 18 (.bool false) hS ?_;simp only [SL];refine wQ 19 hS ?_;simp only [SL];refine wQ 20 hS ?_;simp only [SL];refine wQ 21 hS ?_;simp only [SL];refine wQ 22 hS ?_;simp only [SL];refine wQ 23 hS ?_;simp only [SL];refine wQ 24 hS ?_;simp only [SL];refine vQ 25 (.bool false) hS ?_;simp only [SL];refine vQ 26 (.bool false) hS ?_;simp only [SL];refine vQ 27 (.bool false) hS ?_;simp only [SL];refine wpAnyH_done (by kernel_rfl) ?_ _
      go_wp2_with fail
      go_meet
      exact ⟨by rw [HV.out], HD.out⟩
     focus
      by_cases g2 : 6 < f.wc
      ·have HV : Hid (b7 = false) := bb_no HB7.out (fun h => by rcases h with h | h <;> omega)
       have e0 : (f.wc == 0) = false := by rw [beq_eq_false_iff_ne]; exact g0
       have e1 : decide (0 < f.wc) = true := decide_eq_true (by omega)
       have e2 : decide (f.wc < 7) = false := decide_eq_false (by omega)
       clear g0;have HD := kQ HA.out.drew;clear HA
       go_wp2_with fail
       refine wp_region_held_drew (S := fun wx => FX w f so sk a b c d i e s wx) (by kernel_rfl) (HD.out) (fun hS => ?_)
       refine vQ 0 (.pointer (some ⟨w.heap.size, 5, none⟩)) hS ?_;simp only [SL];refine uQ 1 (.int .i64 f.wc) rfl hS (Or.inl ⟨by rfl, fun w hSw => by obtain ⟨f0, f1, f2, f3, f4, f5, f6, f7, i0, i1, i2, i3, i4, i5, i6, i7, i8⟩ := hSw.cells; go_simp⟩) ?_
       simp only [SL];refine vQ 2 (.bool false) hS ?_;simp only [SL];refine vQ 3 (.bool false) hS ?_;simp only [SL];refine vQ 4 (.pointer (some ⟨w.heap.size, 5, none⟩)) hS ?_;simp only [SL];refine uQ 5 (.int .i64 f.wc) rfl hS (Or.inl ⟨by rfl, fun w hSw => by obtain ⟨f0, f1, f2, f3, f4, f5, f6, f7, i0, i1, i2, i3, i4, i5, i6, i7, i8⟩ := hSw.cells; go_simp⟩) ?_
       simp only [SL];refine vQ 6 (.bool true) hS ?_;simp only [SL];refine vQ 7 (.bool true) hS ?_;simp only [SL];refine vQ 8 (.pointer (some ⟨w.heap.size, 5, none⟩)) hS ?_;simp only [SL];refine uQ 9 (.int .i64 f.wc) rfl hS (Or.inl ⟨by rfl, fun w hSw => by obtain ⟨f0, f1, f2, f3, f4, f5, f6, f7, i0, i1, i2, i3, i4, i5, i6, i7, i8⟩ := hSw.cells; go_simp⟩) ?_
       simp only [SL];refine vQ 10 (.bool false) hS ?_;simp only [SL];refine vQ 11 (.bool false) hS ?_;simp only [SL];refine vQ 12 (.bool false) hS ?_;simp only [SL];refine wQ 13 hS ?_;simp only [SL];refine wQ 14 hS ?_;simp only [SL];refine wQ 15 hS ?_;simp only [SL];refine wQ 16 hS ?_;simp only [SL];refine vQ 17 (.bool false) hS ?_;simp only [SL];refine vQ 18 (.bool false) hS ?_;simp only [SL];refine wQ 19 hS ?_;simp only [SL];refine wQ 20 hS ?_;simp only [SL];refine wQ 21 hS ?_;simp only [SL];refine wQ 22 hS ?_;simp only [SL];refine wQ 23 hS ?_;simp only [SL];refine wQ 24 hS ?_;simp only [SL];refine vQ 25 (.bool false) hS ?_;simp only [SL];refine vQ 26 (.bool false) hS ?_;simp only [SL];refine vQ 27 (.bool false) hS ?_;simp only [SL];refine wpAnyH_done (by kernel_rfl) ?_ _
       go_wp2_with fail
       go_meet
       exact ⟨by rw [HV.out], HD.out⟩
      focus
       by_cases g3 : f.wc = 3
       focus
        have HV : Hid (b7 = false) := bb_no HB7.out (fun h => by rcases h with h | h <;> omega)
        have e0 : (f.wc == 0) = false := by rw [beq_eq_false_iff_ne]; exact g0
        have e1 : decide (0 < f.wc) = true := decide_eq_true (by omega)
        have e2 : decide (f.wc < 7) = true := decide_eq_true (by omega)
        have KW : Hid (∀ wx, Hid (FX w f so sk a b c d i e s wx) -> Calls Tryz.prog 91 #[.int .i64 f.wc] wx fun en w' => en = .returned (.int .i64 (widN f.wc)) /\ Hid (FX w f so sk a b c d i e s w')) := fun wx hx => (xwidthof f.wc (by omega) wx).mono fun en w' hh => ⟨hh.1, hx.out.next hh.2⟩
        have hw0 : widN f.wc = 0 := by rw [g3]; decide
        have e3 : decide (0 < widN f.wc) = false := decide_eq_false (by omega)
        clear hw0;clear g0 g3
       rotate_left
       focus
        by_cases g4 : widN f.wc = i.wd
        focus
         have HV : Hid (b7 = true) := bb_yes HB7.out (.inr ⟨by omega, g3, g4⟩)
         have e0 : (f.wc == 0) = false := by rw [beq_eq_false_iff_ne]; exact g0
         have e1 : decide (0 < f.wc) = true := decide_eq_true (by omega)
         have e2 : decide (f.wc < 7) = true := decide_eq_true (by omega)
         have KW : Hid (∀ wx, Hid (FX w f so sk a b c d i e s wx) -> Calls Tryz.prog 91 #[.int .i64 f.wc] wx fun en w' => en = .returned (.int .i64 (widN f.wc)) /\ Hid (FX w f so sk a b c d i e s w')) := fun wx hx => (xwidthof f.wc (by omega) wx).mono fun en w' hh => ⟨hh.1, hx.out.next hh.2⟩
         have hw0 : 0 < widN f.wc := wid_pos f.wc (by omega) g3
         have e3 : decide (0 < widN f.wc) = true := decide_eq_true (by omega)
         clear hw0;have e4 : (widN f.wc == i.wd) = true := by rw [beq_iff_eq]; exact g4
         clear g0 g3 g4
        rotate_left
        focus
         have HV : Hid (b7 = false) := bb_no HB7.out (fun h => by rcases h with h | h; (exact g0 h); (exact g4 h.2.2))
         have e0 : (f.wc == 0) = false := by rw [beq_eq_false_iff_ne]; exact g0
         have e1 : decide (0 < f.wc) = true := decide_eq_true (by omega)
         have e2 : decide (f.wc < 7) = true := decide_eq_true (by omega)
         have KW : Hid (∀ wx, Hid (FX w f so sk a b c d i e s wx) -> Calls Tryz.prog 91 #[.int .i64 f.wc] wx fun en w' => en = .returned (.int .i64 (widN f.wc)) /\ Hid (FX w f so sk a b c d i e s w')) := fun wx hx => (xwidthof f.wc (by omega) wx).mono fun en w' hh => ⟨hh.1, hx.out.next hh.2⟩
         have hw0 : 0 < widN f.wc := wid_pos f.wc (by omega) g3
         have e3 : decide (0 < widN f.wc) = true := decide_eq_true (by omega)
         clear hw0;have e4 : (widN f.wc == i.wd) = false := by rw [beq_eq_false_iff_ne]; exact g4
         clear g0 g3 g4
        rotate_left
       rotate_left 2
      rotate_left 3
     rotate_left 3
    rotate_left 3
    all_goals
     generalize widN f.wc = wn at *;have HD := kQ HA.out.drew;clear HA
     go_wp2_with fail
     refine wp_region_held_drew (S := fun wx => FX w f so sk a b c d i e s wx) (by kernel_rfl) (HD.out) (fun hS => ?_)
     refine vQ 0 (.pointer (some ⟨w.heap.size, 5, none⟩)) hS ?_;simp only [SL];refine uQ 1 (.int .i64 f.wc) rfl hS (Or.inl ⟨by rfl, fun w hSw => by obtain ⟨f0, f1, f2, f3, f4, f5, f6, f7, i0, i1, i2, i3, i4, i5, i6, i7, i8⟩ := hSw.cells; go_simp⟩) ?_
     simp only [SL];refine vQ 2 (.bool false) hS ?_;simp only [SL];refine vQ 3 (.bool false) hS ?_;simp only [SL];refine vQ 4 (.pointer (some ⟨w.heap.size, 5, none⟩)) hS ?_;simp only [SL];refine uQ 5 (.int .i64 f.wc) rfl hS (Or.inl ⟨by rfl, fun w hSw => by obtain ⟨f0, f1, f2, f3, f4, f5, f6, f7, i0, i1, i2, i3, i4, i5, i6, i7, i8⟩ := hSw.cells; go_simp⟩) ?_
     simp only [SL];refine vQ 6 (.bool true) hS ?_;simp only [SL];refine vQ 7 (.bool true) hS ?_;simp only [SL];refine vQ 8 (.pointer (some ⟨w.heap.size, 5, none⟩)) hS ?_;simp only [SL];refine uQ 9 (.int .i64 f.wc) rfl hS (Or.inl ⟨by rfl, fun w hSw => by obtain ⟨f0, f1, f2, f3, f4, f5, f6, f7, i0, i1, i2, i3, i4, i5, i6, i7, i8⟩ := hSw.cells; go_simp⟩) ?_
     simp only [SL];refine vQ 10 (.bool true) hS ?_;simp only [SL];refine vQ 11 (.bool true) hS ?_;simp only [SL];refine vQ 12 (.bool true) hS ?_;simp only [SL];refine vQ 13 (.pointer (some ⟨w.heap.size, 5, none⟩)) hS ?_;simp only [SL];refine uQ 14 (.int .i64 f.wc) rfl hS (Or.inl ⟨by rfl, fun w hSw => by obtain ⟨f0, f1, f2, f3, f4, f5, f6, f7, i0, i1, i2, i3, i4, i5, i6, i7, i8⟩ := hSw.cells; go_simp⟩) ?_
     simp only [SL];refine wpAnyH_ready (rs := [15]) (by kernel_rfl) (by simp) ?_
     refine AllReadyH.cons rfl (fun K hK => ?_) AllReadyH.nil;go_simp;refine (KW.out _ hS).mono ?_;rintro en w4 ⟨rfl, h4⟩;refine hK.out _ _ h4.out (fun hSw4 => ?_);clear hK K
     try simp only [SL]
    ·refine vQ 16 (.bool false) hSw4 ?_
     simp only [SL];refine vQ 17 (.bool false) hSw4 ?_;simp only [SL];refine vQ 18 (.bool false) hSw4 ?_;simp only [SL];refine wQ 19 hSw4 ?_;simp only [SL];refine wQ 20 hSw4 ?_;simp only [SL];refine wQ 21 hSw4 ?_;simp only [SL];refine wQ 22 hSw4 ?_;simp only [SL];refine wQ 23 hSw4 ?_;simp only [SL];refine wQ 24 hSw4 ?_;simp only [SL];refine vQ 25 (.bool false) hSw4 ?_;simp only [SL];refine vQ 26 (.bool false) hSw4 ?_;simp only [SL];refine vQ 27 (.bool false) hSw4 ?_;simp only [SL];refine wpAnyH_done (by kernel_rfl) ?_ _
     go_wp2_with fail
     go_meet
     exact ⟨by rw [HV.out], h4.out⟩
    rotate_left 2
    all_goals
     refine vQ 16 (.bool true) hSw4 ?_;simp only [SL];refine vQ 17 (.bool true) hSw4 ?_;simp only [SL];refine vQ 18 (.bool true) hSw4 ?_;simp only [SL];refine vQ 19 (.pointer (some ⟨w.heap.size, 5, none⟩)) hSw4 ?_;simp only [SL];refine uQ 20 (.int .i64 f.wc) rfl hSw4 (Or.inl ⟨by rfl, fun w hSw => by obtain ⟨f0, f1, f2, f3, f4, f5, f6, f7, i0, i1, i2, i3, i4, i5, i6, i7, i8⟩ := hSw.cells; go_simp⟩) ?_
     simp only [SL];refine vQ 22 (.pointer (some ⟨w.heap.size + 1, 6, none⟩)) hSw4 ?_;simp only [SL];refine uQ 23 (.int .i64 i.wd) rfl hSw4 (Or.inl ⟨by rfl, fun w hSw => by obtain ⟨f0, f1, f2, f3, f4, f5, f6, f7, i0, i1, i2, i3, i4, i5, i6, i7, i8⟩ := hSw.cells; go_simp⟩) ?_
     simp only [SL];refine wpAnyH_ready (rs := [21]) (by kernel_rfl) (by simp) ?_
     refine AllReadyH.cons rfl (fun K hK => ?_) AllReadyH.nil;go_simp;refine (KW.out _ hSw4).mono ?_;rintro en w5 ⟨rfl, h5⟩;refine hK.out _ _ h5.out (fun hSw5 => ?_);clear hK K
     try simp only [SL]
    focus
     refine vQ 24 (.bool true) hSw5 ?_;simp only [SL];refine vQ 25 (.bool true) hSw5 ?_;simp only [SL];refine vQ 26 (.bool true) hSw5 ?_;simp only [SL];refine vQ 27 (.bool true) hSw5 ?_
    rotate_left
    focus
     refine vQ 24 (.bool false) hSw5 ?_;simp only [SL];refine vQ 25 (.bool false) hSw5 ?_;simp only [SL];refine vQ 26 (.bool false) hSw5 ?_;simp only [SL];refine vQ 27 (.bool false) hSw5 ?_
    rotate_left
    all_goals
     simp only [SL];refine wpAnyH_done (by kernel_rfl) ?_ _
     go_wp2_with fail
     go_meet
     exact ⟨by rw [HV.out], h5.out⟩
   case rest =>
    clear HA;obtain ⟨rfl, hfx⟩ := hcut;have HA := kQ hfx;clear hfx HB5 HB6 HB7 hr;cases b5 <;> cases b6 <;> cases b7 <;> (go_wp2_with fail; go_ret; exact ⟨rfl, HA.out.below⟩)
end Go.Proofs.YtfpfabmbipmipaaGreatDoor
