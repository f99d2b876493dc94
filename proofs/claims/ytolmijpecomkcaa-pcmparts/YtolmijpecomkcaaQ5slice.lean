/- Own text: the walk of the program's Slice, its early ends. -/
import Derived.Test.YtolmijpecomkcaaQ5cut
import Derived.Test.YtolmijpecomkcaaP5slice
import Derived.Test.YtolmijpecomkcaaG4
namespace Go.Proofs.Ytolmijpecomkcaa
open Go.RowKit
set_option linter.unusedSimpArgs false
set_option linter.unusedVariables false

set_option maxRecDepth 20000 in
set_option maxHeartbeats 3200000 in
theorem slice_no (p : Pcm) (ao : Option Addr) (cap : Nat) (f t : Int) (w : World) (hr : RowsAt w ao p.pl) (hc : ¬ checkN p = 0) : Calls Try.prog 22 #[pcmV p ao cap, .int .i64 f, .int .i64 t] w fun e w' => GivesU w (sliceP p f t) (sliceN p f t) e w' := by
  have HN : Hid (sliceN p f t = checkN p) := by
    show _ = _
    unfold sliceN
    rw [if_neg hc]
  have HP : Hid (sliceP p f t = ⟨0, 0, 0, []⟩) := by
    show _ = _
    unfold sliceP
    rw [if_neg (fun h => hc h.1)]
    rfl
  have HB0 : Hid (Sl w p ao cap ((w.alloc (.cells (pcmC p ao cap) 24)).alloc (.cells zeroC 24))) := Sl.new w p ao cap
  have d0 := HB0.out.c0
  have d1 := HB0.out.c1
  have d2 := HB0.out.c2
  have d3 := HB0.out.c3
  have kc : Calls Try.prog 8 #[pcmV p ao cap] ((w.alloc (.cells (pcmC p ao cap) 24)).alloc (.cells zeroC 24)) fun e w' => e = .returned (.int .i64 (checkN p)) ∧ Hid (Sl w p ao cap w') :=
    (check_spec p ao cap _ (hr.below HB0.out.below)).mono fun e w' h => ⟨h.1, HB0.out.next h.2⟩
  have hbn : (checkN p == 0) = false := by rw [beq_eq_false_iff_ne]; exact hc
  have hbn2 : (checkN p != 0) = true := by rw [bne_iff_ne]; exact hc
  clear hr hc
  generalize hcn : checkN p = n at *
  clear hcn
  go_enter Try.func22, Try.ntmps22
  go_wp2_with fail
  refine kc.mono ?_
  rintro e w4 ⟨rfl, h4⟩
  clear kc d0 d1 d2 d3
  have r0 : w4.heap[w.heap.size + 1]? = some (.cells zeroC 24 (0, 0)) := h4.out.res
  have HR0 : Hid (w4.heap[w.heap.size + 1]? = some (.cells zeroC 24 (0, 0))) := r0
  have q0 : w4.cell? ⟨w.heap.size + 1, 0, none⟩ = some (.int .i64 0) := by rw [cell_of_row _ _ _ _ _ _ r0]; rfl
  have z0 : w4.frozen? ⟨w.heap.size + 1, 0, none⟩ = false := by simp [World.frozen?, r0]
  have q1 : w4.cell? ⟨w.heap.size + 1, 1, none⟩ = some (.int .i64 0) := by rw [cell_of_row _ _ _ _ _ _ r0]; rfl
  have z1 : w4.frozen? ⟨w.heap.size + 1, 1, none⟩ = false := by simp [World.frozen?, r0]
  have q2 : w4.cell? ⟨w.heap.size + 1, 2, none⟩ = some (.int .i64 0) := by rw [cell_of_row _ _ _ _ _ _ r0]; rfl
  have z2 : w4.frozen? ⟨w.heap.size + 1, 2, none⟩ = false := by simp [World.frozen?, r0]
  have q3 : w4.cell? ⟨w.heap.size + 1, 3, none⟩ = some (.slice none 0 0) := by rw [cell_of_row _ _ _ _ _ _ r0]; rfl
  have z3 : w4.frozen? ⟨w.heap.size + 1, 3, none⟩ = false := by simp [World.frozen?, r0]
  clear r0
  go_wp2_with fail
  generalize hwf : (((w4.setCell ⟨w.heap.size + 1, 0, none⟩ (.int .i64 0)).setCell ⟨w.heap.size + 1, 1, none⟩ (.int .i64 0)).setCell ⟨w.heap.size + 1, 2, none⟩ (.int .i64 0)).setCell ⟨w.heap.size + 1, 3, none⟩ (.slice none 0 0) = wf
  have hrow : wf.heap[w.heap.size + 1]? = some (.cells zeroC 24 (0, 0)) := by
    rw [← hwf, blk_set _ _ _ _ _ _ (blk_set _ _ _ _ _ _ (blk_set _ _ _ _ _ _ (blk_set _ _ _ _ _ _ HR0.out)))]
    rfl
  have hbel : Below w.heap.size w wf := by
    rw [← hwf]
    exact (((h4.out.below.setCell (by simp) _).setCell (by simp) _).setCell (by simp) _).setCell (by simp) _
  refine bodyPost_ret (v := .tuple #[.agg zeroC, .int .i64 n]) ?_ rfl ⟨none, 0, by rw [HP.out, HN.out]; rfl, by rw [HP.out]; exact rows0 _ _, by rw [HP.out]; exact fresh0 _ _ _, hbel⟩
  rw [res_two rfl]
  have hld := run_loadVar_row (P := Try.prog) wf (w.heap.size + 1) 24 24 zeroC (0, 0) _ hrow Try.underlying24 rfl infPcm
  simp [asAddr, Result.andThen, hld]

set_option maxRecDepth 20000 in
set_option maxHeartbeats 3200000 in
theorem slice_neg (p : Pcm) (ao : Option Addr) (cap : Nat) (f t : Int) (w : World) (hr : RowsAt w ao p.pl) (hc : checkN p = 0) (g0 : f < 0) : Calls Try.prog 22 #[pcmV p ao cap, .int .i64 f, .int .i64 t] w fun e w' => GivesU w (sliceP p f t) (sliceN p f t) e w' := by
  have HN : Hid (sliceN p f t = 1) := by
    show _ = _
    unfold sliceN
    rw [if_pos hc, if_neg (by omega)]
  have HP : Hid (sliceP p f t = ⟨0, 0, 0, []⟩) := by
    show _ = _
    unfold sliceP
    rw [if_neg (by omega)]
    rfl
  have hll := len_of p hr
  have HB0 : Hid (Sl w p ao cap ((w.alloc (.cells (pcmC p ao cap) 24)).alloc (.cells zeroC 24))) := Sl.new w p ao cap
  have d0 := HB0.out.c0
  have d1 := HB0.out.c1
  have d2 := HB0.out.c2
  have d3 := HB0.out.c3
  have kc : Calls Try.prog 8 #[pcmV p ao cap] ((w.alloc (.cells (pcmC p ao cap) 24)).alloc (.cells zeroC 24)) fun e w' => e = .returned (.int .i64 (checkN p)) ∧ Hid (Sl w p ao cap w') :=
    (check_spec p ao cap _ (hr.below HB0.out.below)).mono fun e w' h => ⟨h.1, HB0.out.next h.2⟩
  have KL : Hid (∀ wx, Hid (Sl w p ao cap wx) → Calls Try.prog 12 #[pcmV p ao cap] wx fun e w' => e = .returned (.int .i64 (lenP p : Int)) ∧ Hid (Sl w p ao cap w')) := fun wx hx => (len_spec p ao cap wx (hr.below hx.out.below)).mono fun e w' h => ⟨h.1, hx.out.next h.2⟩
  rw [hc] at kc
  clear hr hc
  go_enter Try.func22, Try.ntmps22
  go_wp2_with fail
  refine kc.mono ?_
  rintro e w4 ⟨rfl, h4⟩
  clear kc d0 d1 d2 d3
  have r0 : w4.heap[w.heap.size + 1]? = some (.cells zeroC 24 (0, 0)) := h4.out.res
  have HR0 : Hid (w4.heap[w.heap.size + 1]? = some (.cells zeroC 24 (0, 0))) := r0
  have q0 : w4.cell? ⟨w.heap.size + 1, 0, none⟩ = some (.int .i64 0) := by rw [cell_of_row _ _ _ _ _ _ r0]; rfl
  have z0 : w4.frozen? ⟨w.heap.size + 1, 0, none⟩ = false := by simp [World.frozen?, r0]
  have q1 : w4.cell? ⟨w.heap.size + 1, 1, none⟩ = some (.int .i64 0) := by rw [cell_of_row _ _ _ _ _ _ r0]; rfl
  have z1 : w4.frozen? ⟨w.heap.size + 1, 1, none⟩ = false := by simp [World.frozen?, r0]
  have q2 : w4.cell? ⟨w.heap.size + 1, 2, none⟩ = some (.int .i64 0) := by rw [cell_of_row _ _ _ _ _ _ r0]; rfl
  have z2 : w4.frozen? ⟨w.heap.size + 1, 2, none⟩ = false := by simp [World.frozen?, r0]
  have q3 : w4.cell? ⟨w.heap.size + 1, 3, none⟩ = some (.slice none 0 0) := by rw [cell_of_row _ _ _ _ _ _ r0]; rfl
  have z3 : w4.frozen? ⟨w.heap.size + 1, 3, none⟩ = false := by simp [World.frozen?, r0]
  clear r0
  go_wp2_with fail
  generalize hwf : (((w4.setCell ⟨w.heap.size + 1, 0, none⟩ (.int .i64 0)).setCell ⟨w.heap.size + 1, 1, none⟩ (.int .i64 0)).setCell ⟨w.heap.size + 1, 2, none⟩ (.int .i64 0)).setCell ⟨w.heap.size + 1, 3, none⟩ (.slice none 0 0) = wf
  have hrow : wf.heap[w.heap.size + 1]? = some (.cells zeroC 24 (0, 0)) := by
    rw [← hwf, blk_set _ _ _ _ _ _ (blk_set _ _ _ _ _ _ (blk_set _ _ _ _ _ _ (blk_set _ _ _ _ _ _ HR0.out)))]
    rfl
  have hbel : Below w.heap.size w wf := by
    rw [← hwf]
    exact (((h4.out.below.setCell (by simp) _).setCell (by simp) _).setCell (by simp) _).setCell (by simp) _
  refine bodyPost_ret (v := .tuple #[.agg zeroC, .int .i64 1]) ?_ rfl ⟨none, 0, by rw [HP.out, HN.out]; rfl, by rw [HP.out]; exact rows0 _ _, by rw [HP.out]; exact fresh0 _ _ _, hbel⟩
  rw [res_two rfl]
  have hld := run_loadVar_row (P := Try.prog) wf (w.heap.size + 1) 24 24 zeroC (0, 0) _ hrow Try.underlying24 rfl infPcm
  simp [asAddr, Result.andThen, hld]

set_option maxRecDepth 20000 in
set_option maxHeartbeats 3200000 in
theorem slice_back (p : Pcm) (ao : Option Addr) (cap : Nat) (f t : Int) (w : World) (hr : RowsAt w ao p.pl) (hc : checkN p = 0) (g0 : ¬ f < 0) (g1 : t < f) : Calls Try.prog 22 #[pcmV p ao cap, .int .i64 f, .int .i64 t] w fun e w' => GivesU w (sliceP p f t) (sliceN p f t) e w' := by
  have HN : Hid (sliceN p f t = 1) := by
    show _ = _
    unfold sliceN
    rw [if_pos hc, if_neg (by omega)]
  have HP : Hid (sliceP p f t = ⟨0, 0, 0, []⟩) := by
    show _ = _
    unfold sliceP
    rw [if_neg (by omega)]
    rfl
  have hll := len_of p hr
  have HB0 : Hid (Sl w p ao cap ((w.alloc (.cells (pcmC p ao cap) 24)).alloc (.cells zeroC 24))) := Sl.new w p ao cap
  have d0 := HB0.out.c0
  have d1 := HB0.out.c1
  have d2 := HB0.out.c2
  have d3 := HB0.out.c3
  have kc : Calls Try.prog 8 #[pcmV p ao cap] ((w.alloc (.cells (pcmC p ao cap) 24)).alloc (.cells zeroC 24)) fun e w' => e = .returned (.int .i64 (checkN p)) ∧ Hid (Sl w p ao cap w') :=
    (check_spec p ao cap _ (hr.below HB0.out.below)).mono fun e w' h => ⟨h.1, HB0.out.next h.2⟩
  have KL : Hid (∀ wx, Hid (Sl w p ao cap wx) → Calls Try.prog 12 #[pcmV p ao cap] wx fun e w' => e = .returned (.int .i64 (lenP p : Int)) ∧ Hid (Sl w p ao cap w')) := fun wx hx => (len_spec p ao cap wx (hr.below hx.out.below)).mono fun e w' h => ⟨h.1, hx.out.next h.2⟩
  rw [hc] at kc
  clear hr hc
  go_enter Try.func22, Try.ntmps22
  go_wp2_with fail
  refine kc.mono ?_
  rintro e w4 ⟨rfl, h4⟩
  clear kc d0 d1 d2 d3
  have r0 : w4.heap[w.heap.size + 1]? = some (.cells zeroC 24 (0, 0)) := h4.out.res
  have HR0 : Hid (w4.heap[w.heap.size + 1]? = some (.cells zeroC 24 (0, 0))) := r0
  have q0 : w4.cell? ⟨w.heap.size + 1, 0, none⟩ = some (.int .i64 0) := by rw [cell_of_row _ _ _ _ _ _ r0]; rfl
  have z0 : w4.frozen? ⟨w.heap.size + 1, 0, none⟩ = false := by simp [World.frozen?, r0]
  have q1 : w4.cell? ⟨w.heap.size + 1, 1, none⟩ = some (.int .i64 0) := by rw [cell_of_row _ _ _ _ _ _ r0]; rfl
  have z1 : w4.frozen? ⟨w.heap.size + 1, 1, none⟩ = false := by simp [World.frozen?, r0]
  have q2 : w4.cell? ⟨w.heap.size + 1, 2, none⟩ = some (.int .i64 0) := by rw [cell_of_row _ _ _ _ _ _ r0]; rfl
  have z2 : w4.frozen? ⟨w.heap.size + 1, 2, none⟩ = false := by simp [World.frozen?, r0]
  have q3 : w4.cell? ⟨w.heap.size + 1, 3, none⟩ = some (.slice none 0 0) := by rw [cell_of_row _ _ _ _ _ _ r0]; rfl
  have z3 : w4.frozen? ⟨w.heap.size + 1, 3, none⟩ = false := by simp [World.frozen?, r0]
  clear r0
  go_wp2_with fail
  generalize hwf : (((w4.setCell ⟨w.heap.size + 1, 0, none⟩ (.int .i64 0)).setCell ⟨w.heap.size + 1, 1, none⟩ (.int .i64 0)).setCell ⟨w.heap.size + 1, 2, none⟩ (.int .i64 0)).setCell ⟨w.heap.size + 1, 3, none⟩ (.slice none 0 0) = wf
  have hrow : wf.heap[w.heap.size + 1]? = some (.cells zeroC 24 (0, 0)) := by
    rw [← hwf, blk_set _ _ _ _ _ _ (blk_set _ _ _ _ _ _ (blk_set _ _ _ _ _ _ (blk_set _ _ _ _ _ _ HR0.out)))]
    rfl
  have hbel : Below w.heap.size w wf := by
    rw [← hwf]
    exact (((h4.out.below.setCell (by simp) _).setCell (by simp) _).setCell (by simp) _).setCell (by simp) _
  refine bodyPost_ret (v := .tuple #[.agg zeroC, .int .i64 1]) ?_ rfl ⟨none, 0, by rw [HP.out, HN.out]; rfl, by rw [HP.out]; exact rows0 _ _, by rw [HP.out]; exact fresh0 _ _ _, hbel⟩
  rw [res_two rfl]
  have hld := run_loadVar_row (P := Try.prog) wf (w.heap.size + 1) 24 24 zeroC (0, 0) _ hrow Try.underlying24 rfl infPcm
  simp [asAddr, Result.andThen, hld]

set_option maxRecDepth 20000 in
set_option maxHeartbeats 3200000 in
theorem slice_past (p : Pcm) (ao : Option Addr) (cap : Nat) (f t : Int) (w : World) (hr : RowsAt w ao p.pl) (hc : checkN p = 0) (g0 : ¬ f < 0) (g1 : ¬ t < f) (g2 : (lenP p : Int) < t) : Calls Try.prog 22 #[pcmV p ao cap, .int .i64 f, .int .i64 t] w fun e w' => GivesU w (sliceP p f t) (sliceN p f t) e w' := by
  have HN : Hid (sliceN p f t = 1) := by
    show _ = _
    unfold sliceN
    rw [if_pos hc, if_neg (by omega)]
  have HP : Hid (sliceP p f t = ⟨0, 0, 0, []⟩) := by
    show _ = _
    unfold sliceP
    rw [if_neg (by omega)]
    rfl
  have hll := len_of p hr
  have HB0 : Hid (Sl w p ao cap ((w.alloc (.cells (pcmC p ao cap) 24)).alloc (.cells zeroC 24))) := Sl.new w p ao cap
  have d0 := HB0.out.c0
  have d1 := HB0.out.c1
  have d2 := HB0.out.c2
  have d3 := HB0.out.c3
  have kc : Calls Try.prog 8 #[pcmV p ao cap] ((w.alloc (.cells (pcmC p ao cap) 24)).alloc (.cells zeroC 24)) fun e w' => e = .returned (.int .i64 (checkN p)) ∧ Hid (Sl w p ao cap w') :=
    (check_spec p ao cap _ (hr.below HB0.out.below)).mono fun e w' h => ⟨h.1, HB0.out.next h.2⟩
  have KL : Hid (∀ wx, Hid (Sl w p ao cap wx) → Calls Try.prog 12 #[pcmV p ao cap] wx fun e w' => e = .returned (.int .i64 (lenP p : Int)) ∧ Hid (Sl w p ao cap w')) := fun wx hx => (len_spec p ao cap wx (hr.below hx.out.below)).mono fun e w' h => ⟨h.1, hx.out.next h.2⟩
  rw [hc] at kc
  clear hr hc
  go_enter Try.func22, Try.ntmps22
  go_wp2_with fail
  refine kc.mono ?_
  rintro e w4 ⟨rfl, h4⟩
  clear kc d0 d1 d2 d3
  have e0 := h4.out.c0
  have e1 := h4.out.c1
  have e2 := h4.out.c2
  have e3 := h4.out.c3
  have kl := KL.out w4 h4
  go_wp2_with fail
  refine kl.mono ?_
  rintro e w5 ⟨rfl, h5⟩
  clear kl e0 e1 e2 e3 h4
  have r0 : w5.heap[w.heap.size + 1]? = some (.cells zeroC 24 (0, 0)) := h5.out.res
  have HR0 : Hid (w5.heap[w.heap.size + 1]? = some (.cells zeroC 24 (0, 0))) := r0
  have q0 : w5.cell? ⟨w.heap.size + 1, 0, none⟩ = some (.int .i64 0) := by rw [cell_of_row _ _ _ _ _ _ r0]; rfl
  have z0 : w5.frozen? ⟨w.heap.size + 1, 0, none⟩ = false := by simp [World.frozen?, r0]
  have q1 : w5.cell? ⟨w.heap.size + 1, 1, none⟩ = some (.int .i64 0) := by rw [cell_of_row _ _ _ _ _ _ r0]; rfl
  have z1 : w5.frozen? ⟨w.heap.size + 1, 1, none⟩ = false := by simp [World.frozen?, r0]
  have q2 : w5.cell? ⟨w.heap.size + 1, 2, none⟩ = some (.int .i64 0) := by rw [cell_of_row _ _ _ _ _ _ r0]; rfl
  have z2 : w5.frozen? ⟨w.heap.size + 1, 2, none⟩ = false := by simp [World.frozen?, r0]
  have q3 : w5.cell? ⟨w.heap.size + 1, 3, none⟩ = some (.slice none 0 0) := by rw [cell_of_row _ _ _ _ _ _ r0]; rfl
  have z3 : w5.frozen? ⟨w.heap.size + 1, 3, none⟩ = false := by simp [World.frozen?, r0]
  clear r0
  go_wp2_with fail
  generalize hwf : (((w5.setCell ⟨w.heap.size + 1, 0, none⟩ (.int .i64 0)).setCell ⟨w.heap.size + 1, 1, none⟩ (.int .i64 0)).setCell ⟨w.heap.size + 1, 2, none⟩ (.int .i64 0)).setCell ⟨w.heap.size + 1, 3, none⟩ (.slice none 0 0) = wf
  have hrow : wf.heap[w.heap.size + 1]? = some (.cells zeroC 24 (0, 0)) := by
    rw [← hwf, blk_set _ _ _ _ _ _ (blk_set _ _ _ _ _ _ (blk_set _ _ _ _ _ _ (blk_set _ _ _ _ _ _ HR0.out)))]
    rfl
  have hbel : Below w.heap.size w wf := by
    rw [← hwf]
    exact (((h5.out.below.setCell (by simp) _).setCell (by simp) _).setCell (by simp) _).setCell (by simp) _
  refine bodyPost_ret (v := .tuple #[.agg zeroC, .int .i64 1]) ?_ rfl ⟨none, 0, by rw [HP.out, HN.out]; rfl, by rw [HP.out]; exact rows0 _ _, by rw [HP.out]; exact fresh0 _ _ _, hbel⟩
  rw [res_two rfl]
  have hld := run_loadVar_row (P := Try.prog) wf (w.heap.size + 1) 24 24 zeroC (0, 0) _ hrow Try.underlying24 rfl infPcm
  simp [asAddr, Result.andThen, hld]

end Go.Proofs.Ytolmijpecomkcaa
