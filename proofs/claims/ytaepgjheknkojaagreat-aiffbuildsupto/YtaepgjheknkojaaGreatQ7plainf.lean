/- Own text: the walks of soundIn, isOf and body (aiff). -/
import Derived.Test.YtaepgjheknkojaaGreatQ7small
import Derived.Test.YtaepgjheknkojaaGreatG26x
import Derived.Test.YtaepgjheknkojaaGreatG11x
import Derived.Deep.RegionHeld3
import Derived.Laws.StructEq
namespace Go.Proofs.YtaepgjheknkojaaGreat
open Go.RowKit
set_option linter.unusedSimpArgs false
set_option linter.unusedVariables false

/-- What COMM has to say of samples. -/
def sndP7 (p : Pcm) : Com := ⟨p.rate, p.ch, p.wd, (lenP p : Int), false⟩
set_option maxRecDepth 20000 in
set_option maxHeartbeats 3200000 in
theorem soundIn7_spec (p : Pcm) (po : Option Addr) (pc : Nat) (w : World) (hr : RowsAt w po p.pl) :
    Calls Tryz.prog 38 #[pcmV p po pc] w fun e w' => e = .returned (sndV7 (sndP7 p)) ∧ Below w.heap.size w w' := by
  have HJ0 : Hid (Box w.heap.size (pcmC p po pc) 24 ((w.alloc (.cells (pcmC p po pc) 24)).alloc (.cells zeroS7 68)) ∧ Box (w.heap.size + 1) zeroS7 68 ((w.alloc (.cells (pcmC p po pc) 24)).alloc (.cells zeroS7 68)) ∧ Below w.heap.size w ((w.alloc (.cells (pcmC p po pc) 24)).alloc (.cells zeroS7 68))) := ⟨(Box.new w _ _).next (belA _ _), Box.new2 w _ _ _, bel2 _ _ _⟩
  have KN : Hid (∀ wx, Hid (Box w.heap.size (pcmC p po pc) 24 wx ∧ Box (w.heap.size + 1) zeroS7 68 wx ∧ Below w.heap.size w wx) → Calls Tryz.prog 59 #[pcmV p po pc] wx fun e w' => e = .returned (.int .i64 (lenP p : Int)) ∧ Hid (Box w.heap.size (pcmC p po pc) 24 w' ∧ Box (w.heap.size + 1) zeroS7 68 w' ∧ Below w.heap.size w w')) := fun wx hx =>
    (len_spec p po pc wx (hr.below hx.out.2.2)).mono fun e w' q => ⟨q.1, hx.out.1.next q.2, hx.out.2.1.next q.2, below_on hx.out.2.2 q.2⟩
  have HSS : Hid (∀ wx, (fun wx => Box w.heap.size (pcmC p po pc) 24 wx) wx → wx.cell? ⟨w.heap.size, 0, none⟩ = some (.int .i64 p.rate) ∧ wx.cell? ⟨w.heap.size, 1, none⟩ = some (.int .i64 p.ch) ∧ wx.cell? ⟨w.heap.size, 2, none⟩ = some (.int .i64 p.wd) ∧ wx.cell? ⟨w.heap.size, 3, none⟩ = some (.slice po p.pl.length pc)) := fun wx hx => ⟨hx.c 0 _ rfl, hx.c 1 _ rfl, hx.c 2 _ rfl, hx.c 3 _ rfl⟩
  clear hr
  go_enter Tryz.func38, Tryz.ntmps38
  go_wp2_with fail
  generalize hwa : World.alloc (World.alloc w _) _ = wa
  have HA : Hid (Box w.heap.size (pcmC p po pc) 24 wa ∧ Box (w.heap.size + 1) zeroS7 68 wa ∧ Below w.heap.size w wa) := by
    rw [← hwa]
    exact HJ0.out
  have HD : Hid (Box w.heap.size (pcmC p po pc) 24 wa.drew ∧ Box (w.heap.size + 1) zeroS7 68 wa.drew ∧ Below w.heap.size w wa.drew) := ⟨HA.out.1.next (belD _), HA.out.2.1.next (belD _), below_on HA.out.2.2 (belD _)⟩
  clear hwa HJ0 HA
  refine wp_region_held_drew (S := fun wx => Box w.heap.size (pcmC p po pc) 24 wx) (by kernel_rfl) HD.out.1 (fun hS => ?_)
  refine wpAnyH_take (i := 0) (v := .pointer (some ⟨w.heap.size, 0, none⟩)) rfl (by kernel_rfl) (by kernel_rfl) (by kernel_rfl) (fun _ _ _ h => h) (Or.inl ⟨by rfl, fun w hSw => by obtain ⟨s0, s1, s2, s3⟩ := HSS.out _ hSw; go_simp⟩) hS ?_
  simp only [Act.put, List.getElem_toArray, List.getElem_cons_succ, List.getElem_cons_zero, List.setIfInBounds_toArray, List.set_cons_zero, List.set_cons_succ]
  refine wpAnyH_take (i := 1) (v := .int .i64 p.rate) rfl (by kernel_rfl) (by kernel_rfl) (by kernel_rfl) (fun _ _ _ h => h) (Or.inl ⟨by rfl, fun w hSw => by obtain ⟨s0, s1, s2, s3⟩ := HSS.out _ hSw; go_simp⟩) hS ?_
  simp only [Act.put, List.getElem_toArray, List.getElem_cons_succ, List.getElem_cons_zero, List.setIfInBounds_toArray, List.set_cons_zero, List.set_cons_succ]
  refine wpAnyH_take (i := 2) (v := .pointer (some ⟨w.heap.size, 1, none⟩)) rfl (by kernel_rfl) (by kernel_rfl) (by kernel_rfl) (fun _ _ _ h => h) (Or.inl ⟨by rfl, fun w hSw => by obtain ⟨s0, s1, s2, s3⟩ := HSS.out _ hSw; go_simp⟩) hS ?_
  simp only [Act.put, List.getElem_toArray, List.getElem_cons_succ, List.getElem_cons_zero, List.setIfInBounds_toArray, List.set_cons_zero, List.set_cons_succ]
  refine wpAnyH_take (i := 3) (v := .int .i64 p.ch) rfl (by kernel_rfl) (by kernel_rfl) (by kernel_rfl) (fun _ _ _ h => h) (Or.inl ⟨by rfl, fun w hSw => by obtain ⟨s0, s1, s2, s3⟩ := HSS.out _ hSw; go_simp⟩) hS ?_
  simp only [Act.put, List.getElem_toArray, List.getElem_cons_succ, List.getElem_cons_zero, List.setIfInBounds_toArray, List.set_cons_zero, List.set_cons_succ]
  refine wpAnyH_take (i := 4) (v := .pointer (some ⟨w.heap.size, 2, none⟩)) rfl (by kernel_rfl) (by kernel_rfl) (by kernel_rfl) (fun _ _ _ h => h) (Or.inl ⟨by rfl, fun w hSw => by obtain ⟨s0, s1, s2, s3⟩ := HSS.out _ hSw; go_simp⟩) hS ?_
  simp only [Act.put, List.getElem_toArray, List.getElem_cons_succ, List.getElem_cons_zero, List.setIfInBounds_toArray, List.set_cons_zero, List.set_cons_succ]
  refine wpAnyH_take (i := 5) (v := .int .i64 p.wd) rfl (by kernel_rfl) (by kernel_rfl) (by kernel_rfl) (fun _ _ _ h => h) (Or.inl ⟨by rfl, fun w hSw => by obtain ⟨s0, s1, s2, s3⟩ := HSS.out _ hSw; go_simp⟩) hS ?_
  simp only [Act.put, List.getElem_toArray, List.getElem_cons_succ, List.getElem_cons_zero, List.setIfInBounds_toArray, List.set_cons_zero, List.set_cons_succ]
  refine wpAnyH_take (i := 6) (v := .agg #[.int .i64 p.rate, .int .i64 p.ch, .int .i64 p.wd, .slice po p.pl.length pc]) rfl (by kernel_rfl) (by kernel_rfl) (by kernel_rfl) (fun _ _ _ h => h) (Or.inl ⟨by rfl, fun w hSw => by obtain ⟨s0, s1, s2, s3⟩ := HSS.out _ hSw; go_simp⟩) hS ?_
  simp only [Act.put, List.getElem_toArray, List.getElem_cons_succ, List.getElem_cons_zero, List.setIfInBounds_toArray, List.set_cons_zero, List.set_cons_succ]
  refine wpAnyH_ready (rs := [7]) (by kernel_rfl) (by simp) ?_
  refine AllReadyH.cons rfl (fun K hK => ?_) AllReadyH.nil
  go_simp
  refine (KN.out _ HD).mono ?_
  rintro e w5 ⟨rfl, h5⟩
  refine hK.out _ _ h5.out.1 (fun hS5 => ?_)
  clear hK K KN
  refine wpAnyH_take (i := 8) (v := .agg #[.int .i64 p.rate, .int .i64 p.ch, .int .i64 p.wd, .int .i64 (lenP p : Int), .bool false]) rfl (by kernel_rfl) (by kernel_rfl) (by kernel_rfl) (fun _ _ _ h => h) (Or.inl ⟨by rfl, fun w hSw => by obtain ⟨s0, s1, s2, s3⟩ := HSS.out _ hSw; go_simp⟩) hS5 ?_
  simp only [Act.put, List.getElem_toArray, List.getElem_cons_succ, List.getElem_cons_zero, List.setIfInBounds_toArray, List.set_cons_zero, List.set_cons_succ]
  have r0 := h5.out.2.1.c 0 _ rfl
  have z0 := h5.out.2.1.z 0
  have r1 := h5.out.2.1.c 1 _ rfl
  have z1 := h5.out.2.1.z 1
  have r2 := h5.out.2.1.c 2 _ rfl
  have z2 := h5.out.2.1.z 2
  have r3 := h5.out.2.1.c 3 _ rfl
  have z3 := h5.out.2.1.z 3
  have r4 := h5.out.2.1.c 4 _ rfl
  have z4 := h5.out.2.1.z 4
  have HF : Hid (Box (w.heap.size + 1) (sndC7 ⟨p.rate, p.ch, p.wd, (lenP p : Int), false⟩) 68 (((((w5.setCell ⟨w.heap.size + 1, 0, none⟩ (.int .i64 p.rate)).setCell ⟨w.heap.size + 1, 1, none⟩ (.int .i64 p.ch)).setCell ⟨w.heap.size + 1, 2, none⟩ (.int .i64 p.wd)).setCell ⟨w.heap.size + 1, 3, none⟩ (.int .i64 (lenP p : Int))).setCell ⟨w.heap.size + 1, 4, none⟩ (.bool false)) ∧ Below w.heap.size w (((((w5.setCell ⟨w.heap.size + 1, 0, none⟩ (.int .i64 p.rate)).setCell ⟨w.heap.size + 1, 1, none⟩ (.int .i64 p.ch)).setCell ⟨w.heap.size + 1, 2, none⟩ (.int .i64 p.wd)).setCell ⟨w.heap.size + 1, 3, none⟩ (.int .i64 (lenP p : Int))).setCell ⟨w.heap.size + 1, 4, none⟩ (.bool false)) ∧ Box w.heap.size (pcmC p po pc) 24 (((((w5.setCell ⟨w.heap.size + 1, 0, none⟩ (.int .i64 p.rate)).setCell ⟨w.heap.size + 1, 1, none⟩ (.int .i64 p.ch)).setCell ⟨w.heap.size + 1, 2, none⟩ (.int .i64 p.wd)).setCell ⟨w.heap.size + 1, 3, none⟩ (.int .i64 (lenP p : Int))).setCell ⟨w.heap.size + 1, 4, none⟩ (.bool false))) := by
    have nn : w.heap.size ≠ w.heap.size + 1 := by omega
    refine ⟨((((h5.out.2.1.set 0 _).set 1 _).set 2 _).set 3 _).set 4 _, ((((h5.out.2.2.setCell (Nat.le_succ _) _).setCell (Nat.le_succ _) _).setCell (Nat.le_succ _) _).setCell (Nat.le_succ _) _).setCell (Nat.le_succ _) _, ?_⟩
    exact ((((h5.out.1.other (a := ⟨w.heap.size + 1, 0, none⟩) nn _).other (a := ⟨w.heap.size + 1, 1, none⟩) nn _).other (a := ⟨w.heap.size + 1, 2, none⟩) nn _).other (a := ⟨w.heap.size + 1, 3, none⟩) nn _).other (a := ⟨w.heap.size + 1, 4, none⟩) nn _
  refine wpAnyH_ready (rs := [9]) (by kernel_rfl) (by simp) ?_
  refine AllReadyH.cons rfl (fun K hK => ?_) AllReadyH.nil
  go_simp
  refine hK.out _ _ HF.out.2.2 (fun hS6 => ?_)
  clear hK K r0 r1 r2 r3 r4 z0 z1 z2 z3 z4
  refine wpAnyH_done (by kernel_rfl) ?_ _
  go_wp2_with fail
  refine bodyPost_ret (v := sndV7 (sndP7 p)) ?_ rfl ⟨rfl, HF.out.2.1⟩
  rw [res_one7 rfl]
  have hld := run_loadVar_row (P := Tryz.prog) _ (w.heap.size + 1) 68 68 (sndC7 (sndP7 p)) (0, 0) _ HF.out.1 Tryz.underlying68 rfl infoS7
  simp [asAddr, Result.andThen, hld]

theorem und_sound7 : Tryz.prog.underlying 68 = some (.struct (Tryz.prog.fieldsOf 68)) := by kernel_rfl
theorem eq_snd7 (x : Com) (p : Pcm) (w : World) : (Op.equalIn 10000 68 (.agg #[.int .i64 x.rate, .int .i64 x.ch, .int .i64 x.wd, .int .i64 x.smp, .bool false]) (.agg #[.int .i64 p.rate, .int .i64 p.ch, .int .i64 p.wd, .int .i64 (lenP p : Int), .bool false])).run Tryz.prog w = .ok (isOfB x p) w := by
  unfold isOfB
  rw [run_equalIn_struct w 9999 68 _ _ und_sound7 (by kernel_rfl)]
  cases h1 : x.rate == p.rate <;> cases h2 : x.ch == p.ch <;> cases h3 : x.wd == p.wd <;> cases h4 : x.smp == (lenP p : Int) <;> go_simp
theorem eql_snd7 (x : Com) (p : Pcm) (w : World) : (binOp .eql 68 (.agg #[.int .i64 x.rate, .int .i64 x.ch, .int .i64 x.wd, .int .i64 x.smp, .bool false]) (.agg #[.int .i64 p.rate, .int .i64 p.ch, .int .i64 p.wd, .int .i64 (lenP p : Int), .bool false])).run Tryz.prog w = .ok (.bool (isOfB x p)) w := by
  rw [run_eql_struct, eq_snd7]
  rfl
set_option maxRecDepth 20000 in
set_option maxHeartbeats 3200000 in
theorem isOf7_spec (x : Com) (p : Pcm) (po : Option Addr) (pc : Nat) (w : World) (hr : RowsAt w po p.pl) :
    Calls Tryz.prog 29 #[sndV7 x, pcmV p po pc] w fun e w' => e = .returned (.bool (isOfB x p)) ∧ Below w.heap.size w w' := by
  have HJ0 : Hid (Box w.heap.size #[.int .i64 x.rate, .int .i64 x.ch, .int .i64 x.wd, .int .i64 x.smp, .bool false] 68 ((w.alloc (.cells #[.int .i64 x.rate, .int .i64 x.ch, .int .i64 x.wd, .int .i64 x.smp, .bool false] 68)).alloc (.cells (pcmC p po pc) 24)) ∧ Box (w.heap.size + 1) (pcmC p po pc) 24 ((w.alloc (.cells #[.int .i64 x.rate, .int .i64 x.ch, .int .i64 x.wd, .int .i64 x.smp, .bool false] 68)).alloc (.cells (pcmC p po pc) 24)) ∧ Below w.heap.size w ((w.alloc (.cells #[.int .i64 x.rate, .int .i64 x.ch, .int .i64 x.wd, .int .i64 x.smp, .bool false] 68)).alloc (.cells (pcmC p po pc) 24))) := ⟨(Box.new w _ _).next (belA _ _), Box.new2 w _ _ _, bel2 _ _ _⟩
  have KS : Hid (∀ wx, Hid (Box w.heap.size #[.int .i64 x.rate, .int .i64 x.ch, .int .i64 x.wd, .int .i64 x.smp, .bool false] 68 wx ∧ Box (w.heap.size + 1) (pcmC p po pc) 24 wx ∧ Below w.heap.size w wx) → Calls Tryz.prog 38 #[pcmV p po pc] wx fun e w' => e = .returned (.agg #[.int .i64 p.rate, .int .i64 p.ch, .int .i64 p.wd, .int .i64 (lenP p : Int), .bool false]) ∧ Hid (Box w.heap.size #[.int .i64 x.rate, .int .i64 x.ch, .int .i64 x.wd, .int .i64 x.smp, .bool false] 68 w' ∧ Box (w.heap.size + 1) (pcmC p po pc) 24 w' ∧ Below w.heap.size w w')) := fun wx hx =>
    (soundIn7_spec p po pc wx (hr.below hx.out.2.2)).mono fun e w' q => ⟨q.1, hx.out.1.next q.2, hx.out.2.1.next q.2, below_on hx.out.2.2 q.2⟩
  have HEQ : Hid (∀ wx, (binOp .eql 68 (.agg #[.int .i64 x.rate, .int .i64 x.ch, .int .i64 x.wd, .int .i64 x.smp, .bool false]) (.agg #[.int .i64 p.rate, .int .i64 p.ch, .int .i64 p.wd, .int .i64 (lenP p : Int), .bool false])).run Tryz.prog wx = .ok (.bool (isOfB x p)) wx) := eql_snd7 x p
  have HSS : Hid (∀ wx, (fun wx => Box w.heap.size #[.int .i64 x.rate, .int .i64 x.ch, .int .i64 x.wd, .int .i64 x.smp, .bool false] 68 wx ∧ Box (w.heap.size + 1) (pcmC p po pc) 24 wx ∧ Below w.heap.size w wx) wx → wx.cell? ⟨w.heap.size, 0, none⟩ = some (.int .i64 x.rate) ∧ wx.cell? ⟨w.heap.size, 1, none⟩ = some (.int .i64 x.ch) ∧ wx.cell? ⟨w.heap.size, 2, none⟩ = some (.int .i64 x.wd) ∧ wx.cell? ⟨w.heap.size, 3, none⟩ = some (.int .i64 x.smp) ∧ wx.cell? ⟨w.heap.size, 4, none⟩ = some (.bool false) ∧ wx.cell? ⟨w.heap.size + 1, 0, none⟩ = some (.int .i64 p.rate) ∧ wx.cell? ⟨w.heap.size + 1, 1, none⟩ = some (.int .i64 p.ch) ∧ wx.cell? ⟨w.heap.size + 1, 2, none⟩ = some (.int .i64 p.wd) ∧ wx.cell? ⟨w.heap.size + 1, 3, none⟩ = some (.slice po p.pl.length pc)) := fun wx hx => ⟨hx.1.c 0 _ rfl, hx.1.c 1 _ rfl, hx.1.c 2 _ rfl, hx.1.c 3 _ rfl, hx.1.c 4 _ rfl, hx.2.1.c 0 _ rfl, hx.2.1.c 1 _ rfl, hx.2.1.c 2 _ rfl, hx.2.1.c 3 _ rfl⟩
  clear hr
  go_enter Tryz.func29, Tryz.ntmps29
  go_wp2_with fail
  generalize hwa : World.alloc (World.alloc w _) _ = wa
  have HA : Hid (Box w.heap.size #[.int .i64 x.rate, .int .i64 x.ch, .int .i64 x.wd, .int .i64 x.smp, .bool false] 68 wa ∧ Box (w.heap.size + 1) (pcmC p po pc) 24 wa ∧ Below w.heap.size w wa) := by
    rw [← hwa]
    exact HJ0.out
  have HD : Hid (Box w.heap.size #[.int .i64 x.rate, .int .i64 x.ch, .int .i64 x.wd, .int .i64 x.smp, .bool false] 68 wa.drew ∧ Box (w.heap.size + 1) (pcmC p po pc) 24 wa.drew ∧ Below w.heap.size w wa.drew) := ⟨HA.out.1.next (belD _), HA.out.2.1.next (belD _), below_on HA.out.2.2 (belD _)⟩
  clear hwa HJ0 HA
  refine wp_region_held_drew (S := fun wx => Box w.heap.size #[.int .i64 x.rate, .int .i64 x.ch, .int .i64 x.wd, .int .i64 x.smp, .bool false] 68 wx ∧ Box (w.heap.size + 1) (pcmC p po pc) 24 wx ∧ Below w.heap.size w wx) (by kernel_rfl) HD.out (fun hS => ?_)
  refine wpAnyH_take (i := 0) (v := .agg #[.int .i64 x.rate, .int .i64 x.ch, .int .i64 x.wd, .int .i64 x.smp, .bool false]) rfl (by kernel_rfl) (by kernel_rfl) (by kernel_rfl) (fun _ _ _ h => h) (Or.inl ⟨by rfl, fun w hSw => by obtain ⟨s0, s1, s2, s3, s4, s5, s6, s7, s8⟩ := HSS.out _ hSw; go_simp⟩) hS ?_
  simp only [Act.put, List.getElem_toArray, List.getElem_cons_succ, List.getElem_cons_zero, List.setIfInBounds_toArray, List.set_cons_zero, List.set_cons_succ]
  refine wpAnyH_take (i := 1) (v := .agg #[.int .i64 p.rate, .int .i64 p.ch, .int .i64 p.wd, .slice po p.pl.length pc]) rfl (by kernel_rfl) (by kernel_rfl) (by kernel_rfl) (fun _ _ _ h => h) (Or.inl ⟨by rfl, fun w hSw => by obtain ⟨s0, s1, s2, s3, s4, s5, s6, s7, s8⟩ := HSS.out _ hSw; go_simp⟩) hS ?_
  simp only [Act.put, List.getElem_toArray, List.getElem_cons_succ, List.getElem_cons_zero, List.setIfInBounds_toArray, List.set_cons_zero, List.set_cons_succ]
  refine wpAnyH_ready (rs := [2]) (by kernel_rfl) (by simp) ?_
  refine AllReadyH.cons rfl (fun K hK => ?_) AllReadyH.nil
  go_simp
  refine (KS.out _ HD).mono ?_
  rintro e w5 ⟨rfl, h5⟩
  refine hK.out _ _ h5.out (fun hS5 => ?_)
  clear hK K KS
  refine wpAnyH_take (i := 3) (v := .bool (isOfB x p)) rfl (by kernel_rfl) (by kernel_rfl) (by kernel_rfl) (fun _ _ _ h => h) (Or.inl ⟨by rfl, fun w hSw => by (unfold isOfB; cases h1 : x.rate == p.rate <;> cases h2 : x.ch == p.ch <;> cases h3 : x.wd == p.wd <;> cases h4 : x.smp == (lenP p : Int) <;> go_simp)⟩) hS5 ?_
  simp only [Act.put, List.getElem_toArray, List.getElem_cons_succ, List.getElem_cons_zero, List.setIfInBounds_toArray, List.set_cons_zero, List.set_cons_succ]
  refine wpAnyH_take (i := 4) (v := .bool (isOfB x p)) rfl (by kernel_rfl) (by kernel_rfl) (by kernel_rfl) (fun _ _ _ h => h) (Or.inl ⟨by rfl, fun w hSw => by go_simp⟩) hS5 ?_
  simp only [Act.put, List.getElem_toArray, List.getElem_cons_succ, List.getElem_cons_zero, List.setIfInBounds_toArray, List.set_cons_zero, List.set_cons_succ]
  refine wpAnyH_done (by kernel_rfl) ?_ _
  go_wp2_with fail
  go_ret
  exact ⟨rfl, h5.out.2.2⟩

def bodT7 (x : Com) : ByteArray := beT x.ch 2 ++ beT x.smp 4 ++ beT x.wd 2 ++ ratT x.rate
set_option maxRecDepth 20000 in
set_option maxHeartbeats 3200000 in
theorem body7_spec (x : Com) (hc : -9223372036854775808 ≤ x.ch ∧ x.ch ≤ 9223372036854775807) (hs : -9223372036854775808 ≤ x.smp ∧ x.smp ≤ 9223372036854775807) (hw : -9223372036854775808 ≤ x.wd ∧ x.wd ≤ 9223372036854775807) (w : World) :
    Calls Tryz.prog 39 #[sndV7 x] w fun e w' => e = .returned (.string (bodT7 x)) ∧ Below w.heap.size w w' := by
  have HJ0 : Hid (Box w.heap.size (sndC7 x) 68 (w.alloc (.cells (sndC7 x) 68)) ∧ Below w.heap.size w (w.alloc (.cells (sndC7 x) 68))) := ⟨Box.new w _ _, belA _ _⟩
  have KR := rate_spec x.rate (w.alloc (.cells (sndC7 x) 68))
  have K1 : Hid (∀ wx, Hid (Box w.heap.size (sndC7 x) 68 wx ∧ Below w.heap.size w wx) → Calls Tryz.prog 74 #[.int .i64 x.ch, .int .i64 2] wx fun e w' => e = .returned (.string (beT x.ch 2)) ∧ Hid (Box w.heap.size (sndC7 x) 68 w' ∧ Below w.heap.size w w')) := fun wx hx => (be7_spec x.ch 2 hc.1 hc.2 wx).mono fun e w' q => ⟨q.1, hx.out.1.next q.2, below_on hx.out.2 q.2⟩
  have K2 : Hid (∀ wx, Hid (Box w.heap.size (sndC7 x) 68 wx ∧ Below w.heap.size w wx) → Calls Tryz.prog 74 #[.int .i64 x.smp, .int .i64 4] wx fun e w' => e = .returned (.string (beT x.smp 4)) ∧ Hid (Box w.heap.size (sndC7 x) 68 w' ∧ Below w.heap.size w w')) := fun wx hx => (be7_spec x.smp 4 hs.1 hs.2 wx).mono fun e w' q => ⟨q.1, hx.out.1.next q.2, below_on hx.out.2 q.2⟩
  have K3 : Hid (∀ wx, Hid (Box w.heap.size (sndC7 x) 68 wx ∧ Below w.heap.size w wx) → Calls Tryz.prog 74 #[.int .i64 x.wd, .int .i64 2] wx fun e w' => e = .returned (.string (beT x.wd 2)) ∧ Hid (Box w.heap.size (sndC7 x) 68 w' ∧ Below w.heap.size w w')) := fun wx hx => (be7_spec x.wd 2 hw.1 hw.2 wx).mono fun e w' q => ⟨q.1, hx.out.1.next q.2, below_on hx.out.2 q.2⟩
  have h1 := beT_size x.ch 2
  have h2 := beT_size x.smp 4
  have h3 := beT_size x.wd 2
  have h4 := ratT_size x.rate
  have hsz : ¬ (9223372036854775807 < (beT x.ch 2).size + (beT x.smp 4).size) := by omega
  have hsz2 : ¬ (9223372036854775807 < (beT x.ch 2).size + (beT x.smp 4).size + (beT x.wd 2).size) := by omega
  have hsz3 : ¬ (9223372036854775807 < (beT x.ch 2).size + (beT x.smp 4).size + (beT x.wd 2).size + (ratT x.rate).size) := by omega
  have HT : Hid (bodT7 x = beT x.ch 2 ++ beT x.smp 4 ++ beT x.wd 2 ++ ratT x.rate) := rfl
  have HSS : Hid (∀ wx, (fun wx => Box w.heap.size (sndC7 x) 68 wx ∧ Below w.heap.size w wx) wx → wx.cell? ⟨w.heap.size, 0, none⟩ = some (.int .i64 x.rate) ∧ wx.cell? ⟨w.heap.size, 1, none⟩ = some (.int .i64 x.ch) ∧ wx.cell? ⟨w.heap.size, 2, none⟩ = some (.int .i64 x.wd) ∧ wx.cell? ⟨w.heap.size, 3, none⟩ = some (.int .i64 x.smp) ∧ wx.cell? ⟨w.heap.size, 4, none⟩ = some (.bool x.lit)) := fun wx hx => ⟨hx.1.c 0 _ rfl, hx.1.c 1 _ rfl, hx.1.c 2 _ rfl, hx.1.c 3 _ rfl, hx.1.c 4 _ rfl⟩
  clear hc hs hw h1 h2 h3 h4
  generalize beT x.ch 2 = B1 at *
  generalize beT x.smp 4 = B2 at *
  generalize beT x.wd 2 = B3 at *
  generalize ratT x.rate = B4 at *
  generalize ratE x.rate = E4 at *
  go_enter Tryz.func39, Tryz.ntmps39
  go_wp2_with fail
  refine KR.mono ?_
  rintro e w3 ⟨rfl, hB3⟩
  have HD : Hid (Box w.heap.size (sndC7 x) 68 w3.drew ∧ Below w.heap.size w w3.drew) := ⟨(HJ0.out.1.next hB3).next (belD _), below_on (below_on HJ0.out.2 hB3) (belD _)⟩
  clear KR hB3 HJ0
  go_wp2_with fail
  refine wp_region_held_drew (S := fun wx => Box w.heap.size (sndC7 x) 68 wx ∧ Below w.heap.size w wx) (by kernel_rfl) HD.out (fun hS => ?_)
  refine wpAnyH_take (i := 0) (v := .pointer (some ⟨w.heap.size, 1, none⟩)) rfl (by kernel_rfl) (by kernel_rfl) (by kernel_rfl) (fun _ _ _ h => h) (Or.inl ⟨by rfl, fun w hSw => by obtain ⟨s0, s1, s2, s3, s4⟩ := HSS.out _ hSw; go_simp⟩) hS ?_
  simp only [Act.put, List.getElem_toArray, List.getElem_cons_succ, List.getElem_cons_zero, List.setIfInBounds_toArray, List.set_cons_zero, List.set_cons_succ]
  refine wpAnyH_take (i := 1) (v := .int .i64 x.ch) rfl (by kernel_rfl) (by kernel_rfl) (by kernel_rfl) (fun _ _ _ h => h) (Or.inl ⟨by rfl, fun w hSw => by obtain ⟨s0, s1, s2, s3, s4⟩ := HSS.out _ hSw; go_simp⟩) hS ?_
  simp only [Act.put, List.getElem_toArray, List.getElem_cons_succ, List.getElem_cons_zero, List.setIfInBounds_toArray, List.set_cons_zero, List.set_cons_succ]
  refine wpAnyH_take (i := 3) (v := .pointer (some ⟨w.heap.size, 3, none⟩)) rfl (by kernel_rfl) (by kernel_rfl) (by kernel_rfl) (fun _ _ _ h => h) (Or.inl ⟨by rfl, fun w hSw => by obtain ⟨s0, s1, s2, s3, s4⟩ := HSS.out _ hSw; go_simp⟩) hS ?_
  simp only [Act.put, List.getElem_toArray, List.getElem_cons_succ, List.getElem_cons_zero, List.setIfInBounds_toArray, List.set_cons_zero, List.set_cons_succ]
  refine wpAnyH_take (i := 4) (v := .int .i64 x.smp) rfl (by kernel_rfl) (by kernel_rfl) (by kernel_rfl) (fun _ _ _ h => h) (Or.inl ⟨by rfl, fun w hSw => by obtain ⟨s0, s1, s2, s3, s4⟩ := HSS.out _ hSw; go_simp⟩) hS ?_
  simp only [Act.put, List.getElem_toArray, List.getElem_cons_succ, List.getElem_cons_zero, List.setIfInBounds_toArray, List.set_cons_zero, List.set_cons_succ]
  refine wpAnyH_take (i := 7) (v := .pointer (some ⟨w.heap.size, 2, none⟩)) rfl (by kernel_rfl) (by kernel_rfl) (by kernel_rfl) (fun _ _ _ h => h) (Or.inl ⟨by rfl, fun w hSw => by obtain ⟨s0, s1, s2, s3, s4⟩ := HSS.out _ hSw; go_simp⟩) hS ?_
  simp only [Act.put, List.getElem_toArray, List.getElem_cons_succ, List.getElem_cons_zero, List.setIfInBounds_toArray, List.set_cons_zero, List.set_cons_succ]
  refine wpAnyH_take (i := 8) (v := .int .i64 x.wd) rfl (by kernel_rfl) (by kernel_rfl) (by kernel_rfl) (fun _ _ _ h => h) (Or.inl ⟨by rfl, fun w hSw => by obtain ⟨s0, s1, s2, s3, s4⟩ := HSS.out _ hSw; go_simp⟩) hS ?_
  simp only [Act.put, List.getElem_toArray, List.getElem_cons_succ, List.getElem_cons_zero, List.setIfInBounds_toArray, List.set_cons_zero, List.set_cons_succ]
  refine wpAnyH_take (i := 11) (v := .string B4) rfl (by kernel_rfl) (by kernel_rfl) (by kernel_rfl) (fun _ _ _ h => h) (Or.inl ⟨by rfl, fun w hSw => by obtain ⟨s0, s1, s2, s3, s4⟩ := HSS.out _ hSw; go_simp⟩) hS ?_
  simp only [Act.put, List.getElem_toArray, List.getElem_cons_succ, List.getElem_cons_zero, List.setIfInBounds_toArray, List.set_cons_zero, List.set_cons_succ]
  refine wpAnyH_ready (rs := [2]) (by kernel_rfl) (by simp) ?_
  refine AllReadyH.cons rfl (fun K hK => ?_) AllReadyH.nil
  go_simp
  refine (K1.out _ HD).mono ?_
  rintro e w4 ⟨rfl, hw4⟩
  refine hK.out _ _ hw4.out (fun hSw4 => ?_)
  clear hK K
  refine wpAnyH_ready (rs := [5]) (by kernel_rfl) (by simp) ?_
  refine AllReadyH.cons rfl (fun K hK => ?_) AllReadyH.nil
  go_simp
  refine (K2.out _ hw4).mono ?_
  rintro e w5 ⟨rfl, hw5⟩
  refine hK.out _ _ hw5.out (fun hSw5 => ?_)
  clear hK K
  refine wpAnyH_take (i := 6) (v := .string (B1 ++ B2)) rfl (by kernel_rfl) (by kernel_rfl) (by kernel_rfl) (fun _ _ _ h => h) (Or.inl ⟨by rfl, fun w hSw => by obtain ⟨s0, s1, s2, s3, s4⟩ := HSS.out _ hSw; go_simp⟩) hSw5 ?_
  simp only [Act.put, List.getElem_toArray, List.getElem_cons_succ, List.getElem_cons_zero, List.setIfInBounds_toArray, List.set_cons_zero, List.set_cons_succ]
  refine wpAnyH_ready (rs := [9]) (by kernel_rfl) (by simp) ?_
  refine AllReadyH.cons rfl (fun K hK => ?_) AllReadyH.nil
  go_simp
  refine (K3.out _ hw5).mono ?_
  rintro e w6 ⟨rfl, hw6⟩
  refine hK.out _ _ hw6.out (fun hSw6 => ?_)
  clear hK K
  refine wpAnyH_take (i := 10) (v := .string (B1 ++ B2 ++ B3)) rfl (by kernel_rfl) (by kernel_rfl) (by kernel_rfl) (fun _ _ _ h => h) (Or.inl ⟨by rfl, fun w hSw => by obtain ⟨s0, s1, s2, s3, s4⟩ := HSS.out _ hSw; go_simp⟩) hSw6 ?_
  simp only [Act.put, List.getElem_toArray, List.getElem_cons_succ, List.getElem_cons_zero, List.setIfInBounds_toArray, List.set_cons_zero, List.set_cons_succ]
  refine wpAnyH_take (i := 12) (v := .string (B1 ++ B2 ++ B3 ++ B4)) rfl (by kernel_rfl) (by kernel_rfl) (by kernel_rfl) (fun _ _ _ h => h) (Or.inl ⟨by rfl, fun w hSw => by obtain ⟨s0, s1, s2, s3, s4⟩ := HSS.out _ hSw; go_simp⟩) hSw6 ?_
  simp only [Act.put, List.getElem_toArray, List.getElem_cons_succ, List.getElem_cons_zero, List.setIfInBounds_toArray, List.set_cons_zero, List.set_cons_succ]
  refine wpAnyH_take (i := 13) (v := .string (B1 ++ B2 ++ B3 ++ B4)) rfl (by kernel_rfl) (by kernel_rfl) (by kernel_rfl) (fun _ _ _ h => h) (Or.inl ⟨by rfl, fun w hSw => by obtain ⟨s0, s1, s2, s3, s4⟩ := HSS.out _ hSw; go_simp⟩) hSw6 ?_
  simp only [Act.put, List.getElem_toArray, List.getElem_cons_succ, List.getElem_cons_zero, List.setIfInBounds_toArray, List.set_cons_zero, List.set_cons_succ]
  refine wpAnyH_done (by kernel_rfl) ?_ _
  go_wp2_with fail
  go_ret
  exact ⟨by rw [HT.out]; rfl, hw6.out.2⟩

end Go.Proofs.YtaepgjheknkojaaGreat
