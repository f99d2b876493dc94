/- Own text: the walks of layout and pcm. the walk of parse. -/
import Derived.Test.YtfnkdahocehilaaGreatQ6read
import Derived.Test.YtfnkdahocehilaaGreatG37x
import Derived.Test.YtfnkdahocehilaaGreatG16x
namespace Go.Proofs.YtfnkdahocehilaaGreat
open Go.RowKit
set_option linter.unusedSimpArgs false
set_option linter.unusedVariables false

theorem infoL : (Tryz.prog.info? 77).map (·.size) = some 2 := by kernel_rfl
set_option maxRecDepth 20000 in
set_option maxHeartbeats 6400000 in
theorem layout_spec (a : Snd) (w : World) :
    Calls Tryz.prog 36 #[sndV a] w fun e w' => e = .returned (.agg #[.bool false, .bool (a.wd == 8)]) ∧ Below w.heap.size w w' := by
  go_enter Tryz.func36, Tryz.ntmps36
  go_wp2_with fail
  generalize hwf : World.alloc (World.alloc w _) _ = wf
  have hrow : wf.heap[w.heap.size + 1]? = some (.cells #[.bool false, .bool (a.wd == 8)] 77 (0, 0)) := by
    rw [← hwf, ← show (w.alloc (.cells (sndC a) 73)).heap.size = w.heap.size + 1 from by simp]
    exact heap_alloc_new _ _
  have hbel : Below w.heap.size w wf := by
    rw [← hwf]
    exact ((Below.refl _ _).alloc (Nat.le_refl _) _).alloc (by simp) _
  refine bodyPost_ret (v := .agg #[.bool false, .bool (a.wd == 8)]) ?_ rfl ⟨rfl, hbel⟩
  rw [res_one rfl]
  have hld := run_loadVar_row (P := Tryz.prog) wf (w.heap.size + 1) 77 77 #[.bool false, .bool (a.wd == 8)] (0, 0) _ hrow Tryz.underlying77 rfl infoL
  simp [asAddr, Result.andThen, hld]

/-- pcm's boxes: the answer's, the sound's; and the file. -/
structure Jq (w0 : World) (b : Nat) (f : Fst) (d : Array Value) (w : World) : Prop where
  fa : Fa b f w
  res : w.heap[w0.heap.size]? = some (.cells d 37 (0, 0))
  sb : w.heap[w0.heap.size + 1]? = some (.cells (sndC f.a) 73 (0, 0))
  lo : b < w0.heap.size
  below : Below w0.heap.size w0 w
theorem Jq.new {w : World} {b : Nat} {f : Fst} (h : Fa b f w) : Jq w b f zeroP ((w.alloc (.cells zeroP 37)).alloc (.cells (sndC f.a) 73)) := by
  have hB : Below w.heap.size w ((w.alloc (.cells zeroP 37)).alloc (.cells (sndC f.a) 73)) := ((Below.refl _ _).alloc (Nat.le_refl _) _).alloc (by simp) _
  refine ⟨h.next hB, ?_, ?_, h.lt, hB⟩
  · exact (((Below.refl _ _).alloc (Nat.le_refl _) _).block _ (by simp)).trans (heap_alloc_new w _)
  · rw [← show (w.alloc (.cells zeroP 37)).heap.size = w.heap.size + 1 from by simp]
    exact heap_alloc_new _ _
theorem Jq.next {w0 w w1 : World} {b : Nat} {f : Fst} {d : Array Value} (h : Jq w0 b f d w) (hB : Below w.heap.size w w1) : Jq w0 b f d w1 :=
  ⟨h.fa.next hB, by rw [hB.block _ (lt_of_block h.res)]; exact h.res, by rw [hB.block _ (lt_of_block h.sb)]; exact h.sb, h.lo, h.below.trans (hB.mono h.below.size)⟩
theorem Jq.set {w0 w : World} {b : Nat} {f : Fst} {d : Array Value} (h : Jq w0 b f d w) (j : Nat) (v : Value) : Jq w0 b f (d.setIfInBounds j v) (w.setCell ⟨w0.heap.size, j, none⟩ v) := by
  have hl := h.lo
  refine ⟨⟨?_⟩, block_set _ _ _ _ _ _ h.res, ?_, hl, h.below.setCell (Nat.le_refl _) _⟩
  · rw [Below.heap_setCell _ _ _ _ (by show b ≠ w0.heap.size; omega)]
    exact h.fa.at'
  · rw [Below.heap_setCell _ _ _ _ (by show w0.heap.size + 1 ≠ w0.heap.size; omega)]
    exact h.sb
theorem Jq.s {w0 w : World} {b : Nat} {f : Fst} {d : Array Value} (h : Jq w0 b f d w) (j : Nat) (v : Value) (hv : (sndC f.a)[j]? = some v) : w.cell? ⟨w0.heap.size + 1, j, none⟩ = some v := by rw [cell_of_row _ _ _ _ _ _ h.sb]; exact hv
theorem Jq.c {w0 w : World} {b : Nat} {f : Fst} {d : Array Value} (h : Jq w0 b f d w) (j : Nat) (v : Value) (hv : d[j]? = some v) : w.cell? ⟨w0.heap.size, j, none⟩ = some v := by rw [cell_of_row _ _ _ _ _ _ h.res]; exact hv
theorem Jq.z {w0 w : World} {b : Nat} {f : Fst} {d : Array Value} (h : Jq w0 b f d w) (j : Nat) : w.frozen? ⟨w0.heap.size, j, none⟩ = false := by
  have := h.res
  simp [World.frozen?, this]
theorem infoP6 : (Tryz.prog.info? 37).map (·.size) = some 4 := by kernel_rfl
theorem pcm_ret {wf : World} {b : Nat} {d : Array Value} (h : wf.heap[b]? = some (.cells d 37 (0, 0))) (hd : d.size = 4) (a' : Act) (n : Value) (h2 : a'.tmps.getD 2 undef = .pointer (some ⟨b, 0, none⟩)) (h3 : a'.tmps.getD 3 undef = n) :
    (results Tryz.f60 a'.tmps).run Tryz.prog wf = .ok (.tuple #[.agg d, n]) wf := by
  rw [res_two_cell rfl]
  have hld := run_loadVar_row (P := Tryz.prog) wf b 37 37 d (0, 0) _ h Tryz.underlying37 rfl (by rw [hd]; exact infoP6)
  simp [h2, h3, asAddr, Result.andThen, hld]
/-- A PCM and an error are answered. -/
def GivesP (w : World) (q : Pcm) (n : Int) (e : Ending) (w' : World) : Prop := ∃ ao cap, e = .returned (.tuple #[pcmV q ao cap, .int .i64 n]) ∧ RowsAt w' ao q.pl ∧ Fresh w.heap.size w' ao q.pl ∧ Below w.heap.size w w'

set_option maxRecDepth 20000 in
set_option maxHeartbeats 6400000 in
theorem fpcm_spec (f : Fst) (b : Nat) (w : World) (h : Fa b f w) (hs : f.smp.size ≤ MM) :
    Calls Tryz.prog 60 #[.pointer (some ⟨b, 0, none⟩)] w fun e w' => GivesP w (uP f.smp f.a.rate f.a.ch f.a.wd false (f.a.wd == 8)) (uE f.smp f.a.rate f.a.ch f.a.wd false (f.a.wd == 8)) e w' := by
  have HJ0 : Hid (Jq w b f zeroP ((w.alloc (.cells zeroP 37)).alloc (.cells (sndC f.a) 73))) := Jq.new h
  have KL : Hid (∀ wx, Hid (Jq w b f zeroP wx) → Calls Tryz.prog 36 #[.agg #[.int .i64 f.a.rate, .int .i64 f.a.ch, .int .i64 f.a.wd]] wx fun e w' => e = .returned (.agg #[.bool false, .bool (f.a.wd == 8)]) ∧ Hid (Jq w b f zeroP w')) := fun wx hx =>
    (layout_spec f.a wx).mono fun e w' q => ⟨q.1, hx.out.next q.2⟩
  have KU : Hid (∀ wx, Hid (Jq w b f zeroP wx) → Calls Tryz.prog 90 #[.string f.smp, .int .i64 f.a.rate, .int .i64 f.a.ch, .int .i64 f.a.wd, .agg #[.bool false, .bool (f.a.wd == 8)]] wx fun e w' => ∃ ao cap, e = .returned (.tuple #[pcmV (uP f.smp f.a.rate f.a.ch f.a.wd false (f.a.wd == 8)) ao cap, .int .i64 (uE f.smp f.a.rate f.a.ch f.a.wd false (f.a.wd == 8))]) ∧ Hid (Jq w b f zeroP w') ∧ Hid (RowsAt w' ao (uP f.smp f.a.rate f.a.ch f.a.wd false (f.a.wd == 8)).pl ∧ Fresh (w.heap.size + 1) w' ao (uP f.smp f.a.rate f.a.ch f.a.wd false (f.a.wd == 8)).pl)) := fun wx hx =>
    (unpack_spec f.smp f.a.rate f.a.ch f.a.wd false (f.a.wd == 8) wx (by have : f.smp.size ≤ 140737488351232 := hs; omega)).mono fun e w' q => by
      obtain ⟨ao, cap, e1, h1, h2, h3⟩ := q
      exact ⟨ao, cap, e1, hx.out.next h3, h1, h2.mono (lt_of_block hx.out.res)⟩
  have HSS : Hid (∀ d wx, Jq w b f d wx → (fun wx => wx.cell? ⟨b, 11, none⟩ = some (.string f.smp) ∧ wx.cell? ⟨w.heap.size + 1, 0, none⟩ = some (.int .i64 f.a.rate) ∧ wx.cell? ⟨w.heap.size + 1, 1, none⟩ = some (.int .i64 f.a.ch) ∧ wx.cell? ⟨w.heap.size + 1, 2, none⟩ = some (.int .i64 f.a.wd)) wx) := fun d wx hx => ⟨hx.fa.c 11 _ rfl, hx.s 0 _ rfl, hx.s 1 _ rfl, hx.s 2 _ rfl⟩
  have c8 := h.c 8 _ rfl
  have c9 := h.c 9 _ rfl
  have c10 := h.c 10 _ rfl
  have lo := h.lt
  generalize uP f.smp f.a.rate f.a.ch f.a.wd false (f.a.wd == 8) = q at *
  generalize uE f.smp f.a.rate f.a.ch f.a.wd false (f.a.wd == 8) = n at *
  generalize (f.a.wd == 8) = u8 at *
  clear h hs
  go_enter Tryz.func60, Tryz.ntmps60
  go_wp2_with fail
  generalize hwa : World.alloc (World.alloc w _) _ = wa
  have HA : Hid (Jq w b f zeroP wa) := by
    rw [← hwa]
    exact HJ0.out
  have HD : Hid (Jq w b f zeroP wa.drew) := HA.out.next ⟨rfl, rfl, rfl, Nat.le_refl _, fun _ _ => rfl⟩
  clear hwa HJ0 HA c8 c9 c10
  refine wp_region_held_drew (S := fun wx => wx.cell? ⟨b, 11, none⟩ = some (.string f.smp) ∧ wx.cell? ⟨w.heap.size + 1, 0, none⟩ = some (.int .i64 f.a.rate) ∧ wx.cell? ⟨w.heap.size + 1, 1, none⟩ = some (.int .i64 f.a.ch) ∧ wx.cell? ⟨w.heap.size + 1, 2, none⟩ = some (.int .i64 f.a.wd)) (by kernel_rfl) (HSS.out _ _ HD.out) (fun hS => ?_)
  refine wpAnyH_take (i := 0) (v := .pointer (some ⟨b, 0, none⟩)) rfl (by kernel_rfl) (by kernel_rfl) (by kernel_rfl) (fun _ _ _ h => h) (Or.inl ⟨by rfl, fun w hSw => by obtain ⟨s1, s2, s3, s4⟩ := hSw; go_simp⟩) hS ?_
  simp only [Act.put, List.getElem_toArray, List.getElem_cons_succ, List.getElem_cons_zero, List.setIfInBounds_toArray, List.set_cons_zero, List.set_cons_succ]
  refine wpAnyH_take (i := 1) (v := .pointer (some ⟨b, 0, none⟩)) rfl (by kernel_rfl) (by kernel_rfl) (by kernel_rfl) (fun _ _ _ h => h) (Or.inl ⟨by rfl, fun w hSw => by obtain ⟨s1, s2, s3, s4⟩ := hSw; go_simp⟩) hS ?_
  simp only [Act.put, List.getElem_toArray, List.getElem_cons_succ, List.getElem_cons_zero, List.setIfInBounds_toArray, List.set_cons_zero, List.set_cons_succ]
  refine wpAnyH_take (i := 2) (v := .pointer (some ⟨b, 11, none⟩)) rfl (by kernel_rfl) (by kernel_rfl) (by kernel_rfl) (fun _ _ _ h => h) (Or.inl ⟨by rfl, fun w hSw => by obtain ⟨s1, s2, s3, s4⟩ := hSw; go_simp⟩) hS ?_
  simp only [Act.put, List.getElem_toArray, List.getElem_cons_succ, List.getElem_cons_zero, List.setIfInBounds_toArray, List.set_cons_zero, List.set_cons_succ]
  refine wpAnyH_take (i := 3) (v := .string f.smp) rfl (by kernel_rfl) (by kernel_rfl) (by kernel_rfl) (fun _ _ _ h => h) (Or.inl ⟨by rfl, fun w hSw => by obtain ⟨s1, s2, s3, s4⟩ := hSw; go_simp⟩) hS ?_
  simp only [Act.put, List.getElem_toArray, List.getElem_cons_succ, List.getElem_cons_zero, List.setIfInBounds_toArray, List.set_cons_zero, List.set_cons_succ]
  refine wpAnyH_take (i := 4) (v := .pointer (some ⟨w.heap.size + 1, 0, none⟩)) rfl (by kernel_rfl) (by kernel_rfl) (by kernel_rfl) (fun _ _ _ h => h) (Or.inl ⟨by rfl, fun w hSw => by obtain ⟨s1, s2, s3, s4⟩ := hSw; go_simp⟩) hS ?_
  simp only [Act.put, List.getElem_toArray, List.getElem_cons_succ, List.getElem_cons_zero, List.setIfInBounds_toArray, List.set_cons_zero, List.set_cons_succ]
  refine wpAnyH_take (i := 5) (v := .int .i64 f.a.rate) rfl (by kernel_rfl) (by kernel_rfl) (by kernel_rfl) (fun _ _ _ h => h) (Or.inl ⟨by rfl, fun w hSw => by obtain ⟨s1, s2, s3, s4⟩ := hSw; go_simp⟩) hS ?_
  simp only [Act.put, List.getElem_toArray, List.getElem_cons_succ, List.getElem_cons_zero, List.setIfInBounds_toArray, List.set_cons_zero, List.set_cons_succ]
  refine wpAnyH_take (i := 6) (v := .pointer (some ⟨w.heap.size + 1, 1, none⟩)) rfl (by kernel_rfl) (by kernel_rfl) (by kernel_rfl) (fun _ _ _ h => h) (Or.inl ⟨by rfl, fun w hSw => by obtain ⟨s1, s2, s3, s4⟩ := hSw; go_simp⟩) hS ?_
  simp only [Act.put, List.getElem_toArray, List.getElem_cons_succ, List.getElem_cons_zero, List.setIfInBounds_toArray, List.set_cons_zero, List.set_cons_succ]
  refine wpAnyH_take (i := 7) (v := .int .i64 f.a.ch) rfl (by kernel_rfl) (by kernel_rfl) (by kernel_rfl) (fun _ _ _ h => h) (Or.inl ⟨by rfl, fun w hSw => by obtain ⟨s1, s2, s3, s4⟩ := hSw; go_simp⟩) hS ?_
  simp only [Act.put, List.getElem_toArray, List.getElem_cons_succ, List.getElem_cons_zero, List.setIfInBounds_toArray, List.set_cons_zero, List.set_cons_succ]
  refine wpAnyH_take (i := 8) (v := .pointer (some ⟨w.heap.size + 1, 2, none⟩)) rfl (by kernel_rfl) (by kernel_rfl) (by kernel_rfl) (fun _ _ _ h => h) (Or.inl ⟨by rfl, fun w hSw => by obtain ⟨s1, s2, s3, s4⟩ := hSw; go_simp⟩) hS ?_
  simp only [Act.put, List.getElem_toArray, List.getElem_cons_succ, List.getElem_cons_zero, List.setIfInBounds_toArray, List.set_cons_zero, List.set_cons_succ]
  refine wpAnyH_take (i := 9) (v := .int .i64 f.a.wd) rfl (by kernel_rfl) (by kernel_rfl) (by kernel_rfl) (fun _ _ _ h => h) (Or.inl ⟨by rfl, fun w hSw => by obtain ⟨s1, s2, s3, s4⟩ := hSw; go_simp⟩) hS ?_
  simp only [Act.put, List.getElem_toArray, List.getElem_cons_succ, List.getElem_cons_zero, List.setIfInBounds_toArray, List.set_cons_zero, List.set_cons_succ]
  refine wpAnyH_take (i := 10) (v := .agg #[.int .i64 f.a.rate, .int .i64 f.a.ch, .int .i64 f.a.wd]) rfl (by kernel_rfl) (by kernel_rfl) (by kernel_rfl) (fun _ _ _ h => h) (Or.inl ⟨by rfl, fun w hSw => by obtain ⟨s1, s2, s3, s4⟩ := hSw; go_simp⟩) hS ?_
  simp only [Act.put, List.getElem_toArray, List.getElem_cons_succ, List.getElem_cons_zero, List.setIfInBounds_toArray, List.set_cons_zero, List.set_cons_succ]
  refine wpAnyH_ready (rs := [11]) (by kernel_rfl) (by simp) ?_
  refine AllReadyH.cons rfl (fun K hK => ?_) AllReadyH.nil
  go_simp
  refine (KL.out _ HD).mono ?_
  rintro e w4 ⟨rfl, h4⟩
  refine hK.out _ _ (HSS.out _ _ h4.out) (fun hS4 => ?_)
  clear hK K KL
  refine wpAnyH_ready (rs := [12]) (by kernel_rfl) (by simp) ?_
  refine AllReadyH.cons rfl (fun K hK => ?_) AllReadyH.nil
  go_simp
  refine (KU.out _ h4).mono ?_
  rintro e w5 ⟨ao, cap, rfl, h5, hr5⟩
  refine hK.out _ _ (HSS.out _ _ h5.out) (fun hS5 => ?_)
  clear hK K KU
  refine wpAnyH_take (i := 13) (v := pcmV q ao cap) rfl (by kernel_rfl) (by kernel_rfl) (by kernel_rfl) (fun _ _ _ h => h) (Or.inl ⟨by rfl, fun w hSw => by obtain ⟨s1, s2, s3, s4⟩ := hSw; go_simp⟩) hS5 ?_
  simp only [Act.put, List.getElem_toArray, List.getElem_cons_succ, List.getElem_cons_zero, List.setIfInBounds_toArray, List.set_cons_zero, List.set_cons_succ]
  refine wpAnyH_take (i := 14) (v := .int .i64 n) rfl (by kernel_rfl) (by kernel_rfl) (by kernel_rfl) (fun _ _ _ h => h) (Or.inl ⟨by rfl, fun w hSw => by obtain ⟨s1, s2, s3, s4⟩ := hSw; go_simp⟩) hS5 ?_
  simp only [Act.put, List.getElem_toArray, List.getElem_cons_succ, List.getElem_cons_zero, List.setIfInBounds_toArray, List.set_cons_zero, List.set_cons_succ]
  have r0 := h5.out.c 0 _ rfl
  have r1 := h5.out.c 1 _ rfl
  have r2 := h5.out.c 2 _ rfl
  have r3 := h5.out.c 3 _ rfl
  have z0 := h5.out.z 0
  have z1 := h5.out.z 1
  have z2 := h5.out.z 2
  have z3 := h5.out.z 3
  have HF : Hid (Jq w b f (pcmC q ao cap) ((((w5.setCell ⟨w.heap.size, 0, none⟩ (.int .i64 q.rate)).setCell ⟨w.heap.size, 1, none⟩ (.int .i64 q.ch)).setCell ⟨w.heap.size, 2, none⟩ (.int .i64 q.wd)).setCell ⟨w.heap.size, 3, none⟩ (.slice ao q.pl.length cap)) ∧ RowsAt ((((w5.setCell ⟨w.heap.size, 0, none⟩ (.int .i64 q.rate)).setCell ⟨w.heap.size, 1, none⟩ (.int .i64 q.ch)).setCell ⟨w.heap.size, 2, none⟩ (.int .i64 q.wd)).setCell ⟨w.heap.size, 3, none⟩ (.slice ao q.pl.length cap)) ao q.pl ∧ Fresh w.heap.size ((((w5.setCell ⟨w.heap.size, 0, none⟩ (.int .i64 q.rate)).setCell ⟨w.heap.size, 1, none⟩ (.int .i64 q.ch)).setCell ⟨w.heap.size, 2, none⟩ (.int .i64 q.wd)).setCell ⟨w.heap.size, 3, none⟩ (.slice ao q.pl.length cap)) ao q.pl) := by
    refine ⟨(((h5.out.set 0 _).set 1 _).set 2 _).set 3 _, ?_⟩
    obtain ⟨a1, a2⟩ := hr5.out.1.setLow hr5.out.2 (a := ⟨w.heap.size, 0, none⟩) (by show w.heap.size < _; omega) (.int .i64 q.rate)
    obtain ⟨b1, b2⟩ := a1.setLow a2 (a := ⟨w.heap.size, 1, none⟩) (by show w.heap.size < _; omega) (.int .i64 q.ch)
    obtain ⟨d1, d2⟩ := b1.setLow b2 (a := ⟨w.heap.size, 2, none⟩) (by show w.heap.size < _; omega) (.int .i64 q.wd)
    obtain ⟨g1, g2⟩ := d1.setLow d2 (a := ⟨w.heap.size, 3, none⟩) (by show w.heap.size < _; omega) (.slice ao q.pl.length cap)
    exact ⟨g1, g2.mono (Nat.le_succ _)⟩
  refine wpAnyH_ready (rs := [15]) (by kernel_rfl) (by simp) ?_
  refine AllReadyH.cons rfl (fun K hK => ?_) AllReadyH.nil
  go_simp
  refine hK.out _ _ (HSS.out _ _ HF.out.1) (fun hS6 => ?_)
  clear hK K r0 r1 r2 r3 z0 z1 z2 z3
  refine wpAnyH_take (i := 16) (v := .int .i64 n) rfl (by kernel_rfl) (by kernel_rfl) (by kernel_rfl) (fun _ _ _ h => h) (Or.inl ⟨by rfl, fun w hSw => by obtain ⟨s1, s2, s3, s4⟩ := hSw; go_simp⟩) hS6 ?_
  simp only [Act.put, List.getElem_toArray, List.getElem_cons_succ, List.getElem_cons_zero, List.setIfInBounds_toArray, List.set_cons_zero, List.set_cons_succ]
  refine wpAnyH_done (by kernel_rfl) ?_ _
  go_wp2_with fail
  exact bodyPost_ret (v := .tuple #[pcmV q ao cap, .int .i64 n]) (pcm_ret HF.out.1.res rfl _ _ rfl rfl) rfl ⟨ao, cap, rfl, HF.out.2.1, HF.out.2.2, HF.out.1.below⟩

end Go.Proofs.YtfnkdahocehilaaGreat

namespace Go.Proofs.YtfnkdahocehilaaGreat
open Go.RowKit
set_option linter.unusedSimpArgs false
set_option linter.unusedVariables false

abbrev zeroW : Array Value := #[.string ⟨#[]⟩, .slice none 0 0]
theorem infoW : (Tryz.prog.info? 39).map (·.size) = some 2 := by kernel_rfl
theorem res_parse {fn : Func} (h : fn.results = #[.cell 2 37, .cell 3 39, .tmp 4]) {wf : World} {b0 b1 : Nat} {dp dw : Array Value} (hp : wf.heap[b0]? = some (.cells dp 37 (0, 0))) (hw : wf.heap[b1]? = some (.cells dw 39 (0, 0))) (hd : dp.size = 4) (he : dw.size = 2) (a' : Act) (n : Value)
    (h2 : a'.tmps.getD 2 undef = .pointer (some ⟨b0, 0, none⟩)) (h3 : a'.tmps.getD 3 undef = .pointer (some ⟨b1, 0, none⟩)) (h4 : a'.tmps.getD 4 undef = n) :
    (results fn a'.tmps).run Tryz.prog wf = .ok (.tuple #[.agg dp, .agg dw, n]) wf := by
  have hld := run_loadVar_row (P := Tryz.prog) wf b0 37 37 dp (0, 0) _ hp Tryz.underlying37 rfl (by rw [hd]; exact infoP6)
  have hlw := run_loadVar_row (P := Tryz.prog) wf b1 39 39 dw (0, 0) _ hw Tryz.underlying39 rfl (by rw [he]; exact infoW)
  have e : (results fn a'.tmps).run Tryz.prog wf = ((asAddr (a'.tmps.getD 2 undef)).run Tryz.prog wf).andThen fun a w₁ => ((loadVar 37 a).run Tryz.prog w₁).andThen fun x w₂ => ((asAddr (a'.tmps.getD 3 undef)).run Tryz.prog w₂).andThen fun a2 w₃ => ((loadVar 39 a2).run Tryz.prog w₃).andThen fun y w₄ => .ok (.tuple #[x, y, a'.tmps.getD 4 undef]) w₄ := by
    simp only [results, h]
    simp [Sem.run_bind, Result.andThen]
  rw [e]
  simp [h2, h3, h4, asAddr, Result.andThen, hld, hlw]
theorem some_ne2 {a b : Nat} (h : a ≠ b) : some a ≠ some b := fun q => h (by simpa using q)
/-- A PCM's box and a skeleton's. -/
structure Jz (w0 : World) (dp dw : Array Value) (w : World) : Prop where
  rp : w.heap[w0.heap.size]? = some (.cells dp 37 (0, 0))
  rw' : w.heap[w0.heap.size + 1]? = some (.cells dw 39 (0, 0))
  below : Below w0.heap.size w0 w
section
variable {w0 w w1 : World} {dp dw : Array Value}
theorem Jz.new (w : World) : Jz w zeroP zeroW ((w.alloc (.cells zeroP 37)).alloc (.cells zeroW 39)) := by
  refine ⟨?_, ?_, ((Below.refl _ _).alloc (Nat.le_refl _) _).alloc (by simp) _⟩
  · exact (((Below.refl _ _).alloc (Nat.le_refl _) _).block _ (by simp)).trans (heap_alloc_new w _)
  · rw [← show (w.alloc (.cells zeroP 37)).heap.size = w.heap.size + 1 from by simp]
    exact heap_alloc_new _ _
theorem Jz.next (h : Jz w0 dp dw w) (hB : Below w.heap.size w w1) : Jz w0 dp dw w1 :=
  ⟨by rw [hB.block _ (lt_of_block h.rp)]; exact h.rp, by rw [hB.block _ (lt_of_block h.rw')]; exact h.rw', h.below.trans (hB.mono h.below.size)⟩
theorem Jz.but (h : Jz w0 dp dw w) {b : Nat} (hb : w0.heap.size + 1 < b) (hB : But b w w1) : Jz w0 dp dw w1 :=
  ⟨(hB.block _ (lt_of_block h.rp) (some_ne2 (by omega))).trans h.rp, (hB.block _ (lt_of_block h.rw') (some_ne2 (by omega))).trans h.rw',
    h.below.trans ⟨hB.os, hB.tape, hB.output, Nat.le_trans (Nat.le_refl _) hB.size, fun k hk => hB.block k (Nat.lt_of_lt_of_le hk h.below.size) (some_ne2 (by omega))⟩⟩
theorem Jz.setP (h : Jz w0 dp dw w) (j : Nat) (v : Value) : Jz w0 (dp.setIfInBounds j v) dw (w.setCell ⟨w0.heap.size, j, none⟩ v) :=
  ⟨block_set _ _ _ _ _ _ h.rp, by rw [Below.heap_setCell _ _ _ _ (by show w0.heap.size + 1 ≠ w0.heap.size; omega)]; exact h.rw', h.below.setCell (Nat.le_refl _) _⟩
theorem Jz.setW (h : Jz w0 dp dw w) (j : Nat) (v : Value) : Jz w0 dp (dw.setIfInBounds j v) (w.setCell ⟨w0.heap.size + 1, j, none⟩ v) :=
  ⟨by rw [Below.heap_setCell _ _ _ _ (by show w0.heap.size ≠ w0.heap.size + 1; omega)]; exact h.rp, block_set _ _ _ _ _ _ h.rw', h.below.setCell (Nat.le_succ _) _⟩
theorem Jz.p (h : Jz w0 dp dw w) (j : Nat) (v : Value) (hv : dp[j]? = some v) : w.cell? ⟨w0.heap.size, j, none⟩ = some v := by rw [cell_of_row _ _ _ _ _ _ h.rp]; exact hv
theorem Jz.sk (h : Jz w0 dp dw w) (j : Nat) (v : Value) (hv : dw[j]? = some v) : w.cell? ⟨w0.heap.size + 1, j, none⟩ = some v := by rw [cell_of_row _ _ _ _ _ _ h.rw']; exact hv
theorem Jz.pz (h : Jz w0 dp dw w) (j : Nat) : w.frozen? ⟨w0.heap.size, j, none⟩ = false := by
  have := h.rp
  simp [World.frozen?, this]
theorem Jz.wz (h : Jz w0 dp dw w) (j : Nat) : w.frozen? ⟨w0.heap.size + 1, j, none⟩ = false := by
  have := h.rw'
  simp [World.frozen?, this]
end
theorem set_same {w : World} {p i : Nat} {cs : Array Value} {t : TypeId} {v : Value} (h : w.heap[p]? = some (.cells cs t (0, 0))) (hv : cs[i]? = some v) : w.setCell ⟨p, i, none⟩ v = w := by
  have e : cs.setIfInBounds i v = cs := by
    apply Array.ext_getElem?
    intro k
    rw [Array.getElem?_setIfInBounds]
    by_cases hk : i = k
    · subst hk
      have hl : i < cs.size := (Array.getElem?_eq_some_iff.1 hv).1
      rw [if_pos rfl, if_pos hl, hv]
    · rw [if_neg hk]
  have e2 : (w.setCell ⟨p, i, none⟩ v).heap = w.heap := by
    apply Array.ext_getElem?
    intro k
    by_cases hk : k = p
    · subst hk
      rw [block_set _ _ _ _ _ _ h, e, h]
    · exact Below.heap_setCell _ _ _ _ hk
  have e3 : w.setCell ⟨p, i, none⟩ v = { w with heap := (w.setCell ⟨p, i, none⟩ v).heap } := rfl
  rw [e3, e2]
theorem Jz.self {w0 w : World} {a b c d x y : Value} (h : Jz w0 #[a, b, c, d] #[x, y] w) :
    ((((((w.setCell ⟨w0.heap.size, 0, none⟩ a).setCell ⟨w0.heap.size, 1, none⟩ b).setCell ⟨w0.heap.size, 2, none⟩ c).setCell ⟨w0.heap.size, 3, none⟩ d).setCell ⟨w0.heap.size + 1, 0, none⟩ x).setCell ⟨w0.heap.size + 1, 1, none⟩ y) = w := by
  rw [set_same h.rp rfl, set_same h.rp rfl, set_same h.rp rfl, set_same h.rp rfl, set_same h.rw' rfl, set_same h.rw' rfl]
def f0 (s : ByteArray) : Fst := ⟨⟨false, ⟨#[]⟩, 0⟩, s.extract 0 4, (s.size : Int) - 8, 0, false, false, ⟨0, 0, 0⟩, ⟨#[]⟩, 0⟩
def readR (s : ByteArray) : Fst × List Chk × Int := readN ((s.extract 12 s.size).size + 1) (f0 s) [] (s.extract 12 s.size)
def fE (f : Fst) : Int := uE f.smp f.a.rate f.a.ch f.a.wd false (f.a.wd == 8)
def fP (f : Fst) : Pcm := uP f.smp f.a.rate f.a.ch f.a.wd false (f.a.wd == 8)
/-- parse's error. -/
def parE (s : ByteArray) : Int :=
  if 67108864 < s.size then 5 else if s.size < 12 then 2 else if (headN (f0 s)).2 && (s.extract 0 12).toList == (headN (f0 s)).1.toList then (if (readR s).2.2 = 0 then fE (readR s).1 else (readR s).2.2) else 2
/-- What parse answers. -/
def GivesA (w : World) (s : ByteArray) (e : Ending) (w' : World) : Prop := ∃ q po pc wf l wo wc, e = .returned (.tuple #[pcmV q po pc, .agg (waveC wf l wo wc), .int .i64 (parE s)]) ∧ Below w.heap.size w w' ∧ (parE s = 0 → q = fP (readR s).1 ∧ RowsAt w' po q.pl ∧ wf = s.extract 0 4 ∧ l = (readR s).2.1 ∧ ChksAt w' wo l ∧ Fresh w.heap.size w' po q.pl ∧ FreshC w.heap.size wo)

set_option maxRecDepth 20000 in
set_option maxHeartbeats 6400000 in
theorem parse_large (s : ByteArray) (w : World) (h : 67108864 < s.size) :
    Calls Tryz.prog 28 #[.string s] w (GivesA w s) := by
  have HE : Hid (parE s = 5) := by show _ = _; unfold parE; rw [if_pos h]
  have HJ : Hid (Jz w zeroP zeroW ((w.alloc (.cells zeroP 37)).alloc (.cells zeroW 39))) := Jz.new w
  go_enter Tryz.func28, Tryz.ntmps28
  go_wp2_with fail
  generalize hwa : World.alloc (World.alloc w _) _ = wa
  have HA : Hid (Jz w zeroP zeroW wa) := by
    rw [← hwa]
    exact HJ.out
  clear hwa HJ
  have p0 := HA.out.p 0 _ rfl
  have p1 := HA.out.p 1 _ rfl
  have p2 := HA.out.p 2 _ rfl
  have p3 := HA.out.p 3 _ rfl
  have w0' := HA.out.sk 0 _ rfl
  have w1' := HA.out.sk 1 _ rfl
  have pz0 := HA.out.pz 0
  have pz1 := HA.out.pz 1
  have pz2 := HA.out.pz 2
  have pz3 := HA.out.pz 3
  have wz0 := HA.out.wz 0
  have wz1 := HA.out.wz 1
  have HW := HA.out.self
  have HWW : Hid _ := HW
  clear HW
  go_region
  all_goals go_wp2_with fail
  all_goals (rw [HWW.out]; exact bodyPost_ret (v := .tuple #[.agg zeroP, .agg zeroW, .int .i64 5]) (res_parse rfl (show wa.drew.heap[w.heap.size]? = _ from HA.out.rp) (show wa.drew.heap[w.heap.size + 1]? = _ from HA.out.rw') rfl rfl _ _ rfl rfl rfl) rfl ⟨⟨0, 0, 0, []⟩, none, 0, ⟨#[]⟩, [], none, 0, by rw [HE.out]; rfl, HA.out.below.trans ⟨rfl, rfl, rfl, Nat.le_refl _, fun _ _ => rfl⟩, fun q => by rw [HE.out] at q; cases q⟩)

set_option maxRecDepth 20000 in
set_option maxHeartbeats 6400000 in
theorem parse_short (s : ByteArray) (w : World) (h : s.size < 12) :
    Calls Tryz.prog 28 #[.string s] w (GivesA w s) := by
  have HE : Hid (parE s = 2) := by show _ = _; unfold parE; rw [if_neg (by omega), if_pos h]
  have HJ : Hid (Jz w zeroP zeroW ((w.alloc (.cells zeroP 37)).alloc (.cells zeroW 39))) := Jz.new w
  go_enter Tryz.func28, Tryz.ntmps28
  go_wp2_with fail
  generalize hwa : World.alloc (World.alloc w _) _ = wa
  have HA : Hid (Jz w zeroP zeroW wa) := by
    rw [← hwa]
    exact HJ.out
  clear hwa HJ
  have p0 := HA.out.p 0 _ rfl
  have p1 := HA.out.p 1 _ rfl
  have p2 := HA.out.p 2 _ rfl
  have p3 := HA.out.p 3 _ rfl
  have w0' := HA.out.sk 0 _ rfl
  have w1' := HA.out.sk 1 _ rfl
  have pz0 := HA.out.pz 0
  have pz1 := HA.out.pz 1
  have pz2 := HA.out.pz 2
  have pz3 := HA.out.pz 3
  have wz0 := HA.out.wz 0
  have wz1 := HA.out.wz 1
  have HW := HA.out.self
  have HWW : Hid _ := HW
  clear HW
  go_region
  all_goals go_wp2_with fail
  all_goals (rw [HWW.out]; exact bodyPost_ret (v := .tuple #[.agg zeroP, .agg zeroW, .int .i64 2]) (res_parse rfl (show wa.drew.heap[w.heap.size]? = _ from HA.out.rp) (show wa.drew.heap[w.heap.size + 1]? = _ from HA.out.rw') rfl rfl _ _ rfl rfl rfl) rfl ⟨⟨0, 0, 0, []⟩, none, 0, ⟨#[]⟩, [], none, 0, by rw [HE.out]; rfl, HA.out.below.trans ⟨rfl, rfl, rfl, Nat.le_refl _, fun _ _ => rfl⟩, fun q => by rw [HE.out] at q; cases q⟩)

end Go.Proofs.YtfnkdahocehilaaGreat
