/- Own text: the walk of pcm (aiff). -/
import Derived.Test.YtaepgjheknkojaaQ7small
import Derived.Test.YtaepgjheknkojaaG31x
import Derived.Test.YtaepgjheknkojaaQ5unpack4
import Derived.Test.YtaepgjheknkojaaG6x
import Derived.Deep.RegionHeld3
namespace Go.Proofs.Ytaepgjheknkojaa
open Go.RowKit
set_option linter.unusedSimpArgs false
set_option linter.unusedVariables false

abbrev zeroP7 : Array Value := #[.int .i64 0, .int .i64 0, .int .i64 0, .slice none 0 0]
theorem infoP7 : (Try.prog.info? 24).map (·.size) = some 4 := by kernel_rfl
theorem pcm_ret7 {wf : World} {b : Nat} {d : Array Value} (h : Box b d 24 wf) (hd : d.size = 4) (a' : Act) (n : Value) (h2 : a'.tmps.getD 4 undef = .pointer (some ⟨b, 0, none⟩)) (h3 : a'.tmps.getD 5 undef = n) :
    (results Try.f24 a'.tmps).run Try.prog wf = .ok (.tuple #[.agg d, n]) wf := by
  rw [res_two_cell rfl]
  have hld := run_loadVar_row (P := Try.prog) wf b 24 24 d (0, 0) _ h Try.underlying24 rfl (by rw [hd]; exact infoP7)
  simp [h2, h3, asAddr, Result.andThen, hld]
/-- pcm's boxes: the sound's, the answer's. -/
structure Jp7 (w0 : World) (x : Com) (w : World) : Prop where
  arg : Box w0.heap.size (sndC7 x) 44 w
  res : Box (w0.heap.size + 1) zeroP7 24 w
  below : Below w0.heap.size w0 w
theorem Jp7.new (w : World) (x : Com) : Jp7 w x ((w.alloc (.cells (sndC7 x) 44)).alloc (.cells zeroP7 24)) := ⟨(Box.new w _ _).next (belA _ _), Box.new2 w _ _ _, bel2 _ _ _⟩
theorem Jp7.next {w0 w w1 : World} {x : Com} (h : Jp7 w0 x w) (hB : Below w.heap.size w w1) : Jp7 w0 x w1 := ⟨h.arg.next hB, h.res.next hB, below_on h.below hB⟩
set_option maxRecDepth 20000 in
set_option maxHeartbeats 6400000 in
theorem pcm7_spec (x : Com) (d : ByteArray) (w : World) (hd : d.size ≤ 140737488351232) :
    Calls Try.prog 24 #[sndV7 x, .string d] w fun e w' => GivesU w (uP d x.rate x.ch x.wd (!x.lit) false) (uE d x.rate x.ch x.wd (!x.lit) false) e w' := by
  have HJ0 : Hid (Jp7 w x ((w.alloc (.cells (sndC7 x) 44)).alloc (.cells zeroP7 24))) := Jp7.new w x
  have KL : Hid (∀ wx, Hid (Jp7 w x wx) → Calls Try.prog 18 #[sndV7 x] wx fun e w' => e = .returned (.agg #[.bool (!x.lit), .bool false]) ∧ Hid (Jp7 w x w')) := fun wx hx =>
    (layout7_spec x wx).mono fun e w' q => ⟨q.1, hx.out.next q.2⟩
  have KU : Hid (∀ wx, Hid (Jp7 w x wx) → Calls Try.prog 50 #[.string d, .int .i64 x.rate, .int .i64 x.ch, .int .i64 x.wd, .agg #[.bool (!x.lit), .bool false]] wx fun e w' => ∃ ao cap, e = .returned (.tuple #[pcmV (uP d x.rate x.ch x.wd (!x.lit) false) ao cap, .int .i64 (uE d x.rate x.ch x.wd (!x.lit) false)]) ∧ Hid (Jp7 w x w') ∧ Hid (RowsAt w' ao (uP d x.rate x.ch x.wd (!x.lit) false).pl ∧ Fresh (w.heap.size + 2) w' ao (uP d x.rate x.ch x.wd (!x.lit) false).pl)) := fun wx hx =>
    (unpack_spec d x.rate x.ch x.wd (!x.lit) false wx (by omega)).mono fun e w' q => by
      obtain ⟨ao, cap, e1, h1, h2, h3⟩ := q
      exact ⟨ao, cap, e1, hx.out.next h3, h1, h2.mono hx.out.res.lt⟩
  have HSS : Hid (∀ wx, Box w.heap.size (sndC7 x) 44 wx → wx.cell? ⟨w.heap.size, 0, none⟩ = some (.int .i64 x.rate) ∧ wx.cell? ⟨w.heap.size, 1, none⟩ = some (.int .i64 x.ch) ∧ wx.cell? ⟨w.heap.size, 2, none⟩ = some (.int .i64 x.wd) ∧ wx.cell? ⟨w.heap.size, 3, none⟩ = some (.int .i64 x.smp) ∧ wx.cell? ⟨w.heap.size, 4, none⟩ = some (.bool x.lit)) := fun wx hx => ⟨hx.c 0 _ rfl, hx.c 1 _ rfl, hx.c 2 _ rfl, hx.c 3 _ rfl, hx.c 4 _ rfl⟩
  generalize uP d x.rate x.ch x.wd (!x.lit) false = q at *
  generalize uE d x.rate x.ch x.wd (!x.lit) false = n at *
  clear hd
  go_enter Try.func24, Try.ntmps24
  go_wp2_with fail
  generalize hwa : World.alloc (World.alloc w _) _ = wa
  have HA : Hid (Jp7 w x wa) := by
    rw [← hwa]
    exact HJ0.out
  have HD : Hid (Jp7 w x wa.drew) := HA.out.next (belD _)
  clear hwa HJ0 HA
  refine wp_region_held_drew (S := fun wx => Box w.heap.size (sndC7 x) 44 wx) (by kernel_rfl) HD.out.arg (fun hS => ?_)
  refine wpAnyH_take (i := 0) (v := .string d) rfl (by kernel_rfl) (by kernel_rfl) (by kernel_rfl) (fun _ _ _ h => h) (Or.inl ⟨by rfl, fun w hSw => by obtain ⟨s1, s2, s3, s4, s5⟩ := HSS.out _ hSw; go_simp⟩) hS ?_
  simp only [Act.put, List.getElem_toArray, List.getElem_cons_succ, List.getElem_cons_zero, List.setIfInBounds_toArray, List.set_cons_zero, List.set_cons_succ]
  refine wpAnyH_take (i := 1) (v := .pointer (some ⟨w.heap.size, 0, none⟩)) rfl (by kernel_rfl) (by kernel_rfl) (by kernel_rfl) (fun _ _ _ h => h) (Or.inl ⟨by rfl, fun w hSw => by obtain ⟨s1, s2, s3, s4, s5⟩ := HSS.out _ hSw; go_simp⟩) hS ?_
  simp only [Act.put, List.getElem_toArray, List.getElem_cons_succ, List.getElem_cons_zero, List.setIfInBounds_toArray, List.set_cons_zero, List.set_cons_succ]
  refine wpAnyH_take (i := 2) (v := .int .i64 x.rate) rfl (by kernel_rfl) (by kernel_rfl) (by kernel_rfl) (fun _ _ _ h => h) (Or.inl ⟨by rfl, fun w hSw => by obtain ⟨s1, s2, s3, s4, s5⟩ := HSS.out _ hSw; go_simp⟩) hS ?_
  simp only [Act.put, List.getElem_toArray, List.getElem_cons_succ, List.getElem_cons_zero, List.setIfInBounds_toArray, List.set_cons_zero, List.set_cons_succ]
  refine wpAnyH_take (i := 3) (v := .pointer (some ⟨w.heap.size, 1, none⟩)) rfl (by kernel_rfl) (by kernel_rfl) (by kernel_rfl) (fun _ _ _ h => h) (Or.inl ⟨by rfl, fun w hSw => by obtain ⟨s1, s2, s3, s4, s5⟩ := HSS.out _ hSw; go_simp⟩) hS ?_
  simp only [Act.put, List.getElem_toArray, List.getElem_cons_succ, List.getElem_cons_zero, List.setIfInBounds_toArray, List.set_cons_zero, List.set_cons_succ]
  refine wpAnyH_take (i := 4) (v := .int .i64 x.ch) rfl (by kernel_rfl) (by kernel_rfl) (by kernel_rfl) (fun _ _ _ h => h) (Or.inl ⟨by rfl, fun w hSw => by obtain ⟨s1, s2, s3, s4, s5⟩ := HSS.out _ hSw; go_simp⟩) hS ?_
  simp only [Act.put, List.getElem_toArray, List.getElem_cons_succ, List.getElem_cons_zero, List.setIfInBounds_toArray, List.set_cons_zero, List.set_cons_succ]
  refine wpAnyH_take (i := 5) (v := .pointer (some ⟨w.heap.size, 2, none⟩)) rfl (by kernel_rfl) (by kernel_rfl) (by kernel_rfl) (fun _ _ _ h => h) (Or.inl ⟨by rfl, fun w hSw => by obtain ⟨s1, s2, s3, s4, s5⟩ := HSS.out _ hSw; go_simp⟩) hS ?_
  simp only [Act.put, List.getElem_toArray, List.getElem_cons_succ, List.getElem_cons_zero, List.setIfInBounds_toArray, List.set_cons_zero, List.set_cons_succ]
  refine wpAnyH_take (i := 6) (v := .int .i64 x.wd) rfl (by kernel_rfl) (by kernel_rfl) (by kernel_rfl) (fun _ _ _ h => h) (Or.inl ⟨by rfl, fun w hSw => by obtain ⟨s1, s2, s3, s4, s5⟩ := HSS.out _ hSw; go_simp⟩) hS ?_
  simp only [Act.put, List.getElem_toArray, List.getElem_cons_succ, List.getElem_cons_zero, List.setIfInBounds_toArray, List.set_cons_zero, List.set_cons_succ]
  refine wpAnyH_take (i := 7) (v := .agg #[.int .i64 x.rate, .int .i64 x.ch, .int .i64 x.wd, .int .i64 x.smp, .bool x.lit]) rfl (by kernel_rfl) (by kernel_rfl) (by kernel_rfl) (fun _ _ _ h => h) (Or.inl ⟨by rfl, fun w hSw => by obtain ⟨s1, s2, s3, s4, s5⟩ := HSS.out _ hSw; go_simp⟩) hS ?_
  simp only [Act.put, List.getElem_toArray, List.getElem_cons_succ, List.getElem_cons_zero, List.setIfInBounds_toArray, List.set_cons_zero, List.set_cons_succ]
  refine wpAnyH_ready (rs := [8]) (by kernel_rfl) (by simp) ?_
  refine AllReadyH.cons rfl (fun K hK => ?_) AllReadyH.nil
  go_simp
  refine (KL.out _ HD).mono ?_
  rintro e w4 ⟨rfl, h4⟩
  refine hK.out _ _ h4.out.arg (fun hS4 => ?_)
  clear hK K KL
  refine wpAnyH_ready (rs := [9]) (by kernel_rfl) (by simp) ?_
  refine AllReadyH.cons rfl (fun K hK => ?_) AllReadyH.nil
  go_simp
  refine (KU.out _ h4).mono ?_
  rintro e w5 ⟨ao, cap, rfl, h5, hr5⟩
  refine hK.out _ _ h5.out.arg (fun hS5 => ?_)
  clear hK K KU
  refine wpAnyH_take (i := 10) (v := pcmV q ao cap) rfl (by kernel_rfl) (by kernel_rfl) (by kernel_rfl) (fun _ _ _ h => h) (Or.inl ⟨by rfl, fun w hSw => by obtain ⟨s1, s2, s3, s4, s5⟩ := HSS.out _ hSw; go_simp⟩) hS5 ?_
  simp only [Act.put, List.getElem_toArray, List.getElem_cons_succ, List.getElem_cons_zero, List.setIfInBounds_toArray, List.set_cons_zero, List.set_cons_succ]
  refine wpAnyH_take (i := 11) (v := .int .i64 n) rfl (by kernel_rfl) (by kernel_rfl) (by kernel_rfl) (fun _ _ _ h => h) (Or.inl ⟨by rfl, fun w hSw => by obtain ⟨s1, s2, s3, s4, s5⟩ := HSS.out _ hSw; go_simp⟩) hS5 ?_
  simp only [Act.put, List.getElem_toArray, List.getElem_cons_succ, List.getElem_cons_zero, List.setIfInBounds_toArray, List.set_cons_zero, List.set_cons_succ]
  have r0 := h5.out.res.c 0 _ rfl
  have z0 := h5.out.res.z 0
  have r1 := h5.out.res.c 1 _ rfl
  have z1 := h5.out.res.z 1
  have r2 := h5.out.res.c 2 _ rfl
  have z2 := h5.out.res.z 2
  have r3 := h5.out.res.c 3 _ rfl
  have z3 := h5.out.res.z 3
  have HF : Hid (Box (w.heap.size + 1) (pcmC q ao cap) 24 ((((w5.setCell ⟨w.heap.size + 1, 0, none⟩ (.int .i64 q.rate)).setCell ⟨w.heap.size + 1, 1, none⟩ (.int .i64 q.ch)).setCell ⟨w.heap.size + 1, 2, none⟩ (.int .i64 q.wd)).setCell ⟨w.heap.size + 1, 3, none⟩ (.slice ao q.pl.length cap)) ∧ Below w.heap.size w ((((w5.setCell ⟨w.heap.size + 1, 0, none⟩ (.int .i64 q.rate)).setCell ⟨w.heap.size + 1, 1, none⟩ (.int .i64 q.ch)).setCell ⟨w.heap.size + 1, 2, none⟩ (.int .i64 q.wd)).setCell ⟨w.heap.size + 1, 3, none⟩ (.slice ao q.pl.length cap)) ∧ Box w.heap.size (sndC7 x) 44 ((((w5.setCell ⟨w.heap.size + 1, 0, none⟩ (.int .i64 q.rate)).setCell ⟨w.heap.size + 1, 1, none⟩ (.int .i64 q.ch)).setCell ⟨w.heap.size + 1, 2, none⟩ (.int .i64 q.wd)).setCell ⟨w.heap.size + 1, 3, none⟩ (.slice ao q.pl.length cap)) ∧ RowsAt ((((w5.setCell ⟨w.heap.size + 1, 0, none⟩ (.int .i64 q.rate)).setCell ⟨w.heap.size + 1, 1, none⟩ (.int .i64 q.ch)).setCell ⟨w.heap.size + 1, 2, none⟩ (.int .i64 q.wd)).setCell ⟨w.heap.size + 1, 3, none⟩ (.slice ao q.pl.length cap)) ao q.pl ∧ Fresh w.heap.size ((((w5.setCell ⟨w.heap.size + 1, 0, none⟩ (.int .i64 q.rate)).setCell ⟨w.heap.size + 1, 1, none⟩ (.int .i64 q.ch)).setCell ⟨w.heap.size + 1, 2, none⟩ (.int .i64 q.wd)).setCell ⟨w.heap.size + 1, 3, none⟩ (.slice ao q.pl.length cap)) ao q.pl) := by
    refine ⟨(((h5.out.res.set 0 _).set 1 _).set 2 _).set 3 _, (((h5.out.below.setCell (Nat.le_succ _) _).setCell (Nat.le_succ _) _).setCell (Nat.le_succ _) _).setCell (Nat.le_succ _) _, ?_, ?_⟩
    · have nn : w.heap.size ≠ w.heap.size + 1 := by omega
      exact ((((h5.out.arg.other (a := ⟨w.heap.size + 1, 0, none⟩) nn _).other (a := ⟨w.heap.size + 1, 1, none⟩) nn _).other (a := ⟨w.heap.size + 1, 2, none⟩) nn _).other (a := ⟨w.heap.size + 1, 3, none⟩) nn _)
    · obtain ⟨a1, a2⟩ := hr5.out.1.setLow hr5.out.2 (a := ⟨w.heap.size + 1, 0, none⟩) (by show w.heap.size + 1 < _; omega) (.int .i64 q.rate)
      obtain ⟨b1, b2⟩ := a1.setLow a2 (a := ⟨w.heap.size + 1, 1, none⟩) (by show w.heap.size + 1 < _; omega) (.int .i64 q.ch)
      obtain ⟨d1, d2⟩ := b1.setLow b2 (a := ⟨w.heap.size + 1, 2, none⟩) (by show w.heap.size + 1 < _; omega) (.int .i64 q.wd)
      obtain ⟨g1, g2⟩ := d1.setLow d2 (a := ⟨w.heap.size + 1, 3, none⟩) (by show w.heap.size + 1 < _; omega) (.slice ao q.pl.length cap)
      exact ⟨g1, g2.mono (by omega)⟩
  refine wpAnyH_ready (rs := [12]) (by kernel_rfl) (by simp) ?_
  refine AllReadyH.cons rfl (fun K hK => ?_) AllReadyH.nil
  go_simp
  refine hK.out _ _ HF.out.2.2.1 (fun hS6 => ?_)
  clear hK K r0 r1 r2 r3 z0 z1 z2 z3
  refine wpAnyH_take (i := 13) (v := .int .i64 n) rfl (by kernel_rfl) (by kernel_rfl) (by kernel_rfl) (fun _ _ _ h => h) (Or.inl ⟨by rfl, fun w hSw => by obtain ⟨s1, s2, s3, s4, s5⟩ := HSS.out _ hSw; go_simp⟩) hS6 ?_
  simp only [Act.put, List.getElem_toArray, List.getElem_cons_succ, List.getElem_cons_zero, List.setIfInBounds_toArray, List.set_cons_zero, List.set_cons_succ]
  refine wpAnyH_done (by kernel_rfl) ?_ _
  go_wp2_with fail
  exact bodyPost_ret (v := .tuple #[pcmV q ao cap, .int .i64 n]) (pcm_ret7 HF.out.1 rfl _ _ rfl rfl) rfl ⟨ao, cap, rfl, HF.out.2.2.2.1, HF.out.2.2.2.2, HF.out.2.1⟩

end Go.Proofs.Ytaepgjheknkojaa
