/- Own text: the walk of the program's Slice. -/
import Derived.Test.YtolmijpecomkcaaQ5slice
import Derived.Test.YtolmijpecomkcaaQ5link
namespace Go.Proofs.Ytolmijpecomkcaa
open Go.RowKit
set_option linter.unusedSimpArgs false
set_option linter.unusedVariables false

theorem mat_cut (xs : List (List Int)) (f t n : Nat) (hn : ∀ i, i < xs.length → (xs.getD i []).length = n) (hft : f ≤ t) (htn : t ≤ n) : matL xs.length (t - f) (fun k j => (xs.getD k []).getD (f + j) 0) = xs.map (cutL f t) := by
  refine list_ext _ _ [] (by rw [matL_length, List.length_map]) fun k hk => ?_
  rw [matL_length] at hk
  rw [matL_at _ _ _ k hk, getD_map_cut xs f t k hk]
  apply List.ext_getElem?
  intro j
  by_cases hj : j < t - f
  · rw [cutL_get f t _ hft (by rw [hn k hk]; exact htn) j hj]
    simp [hj]
  · rw [List.getElem?_eq_none (by simp; omega), List.getElem?_eq_none (by rw [cutL_length f t _ hft (by rw [hn k hk]; exact htn)]; omega)]
theorem rows_range {w : World} {ao : Option Addr} {xs : List (List Int)} (hr : RowsAt w ao xs) (k j : Nat) (hk : k < xs.length) : -9223372036854775808 ≤ (xs.getD k []).getD j 0 ∧ (xs.getD k []).getD j 0 ≤ 9223372036854775807 := by
  by_cases hj : j < (xs.getD k []).length
  · obtain ⟨_, _, _, _, _, _, _, hi⟩ := hr.at k hk
    obtain ⟨_, _, _, _, h1, h2⟩ := hi.at j hj
    exact ⟨h1, h2⟩
  · rw [List.getD_eq_getElem?_getD (l := xs.getD k []), List.getElem?_eq_none (by omega)]
    decide
theorem Mat.setLow {B c n : Nat} {F : Nat → Nat → Int} {w : World} (h : Mat B c n F w) (a : Addr) (v : Value) (ha : a.block < B) : Mat B c n F (w.setCell a v) :=
  ⟨h.outer.setOther (by omega) _, fun k hk => (h.inner k hk).setOther (by omega) _⟩

set_option maxRecDepth 20000 in
set_option maxHeartbeats 6400000 in
theorem slice_yes (p : Pcm) (ao : Option Addr) (cap : Nat) (f t : Int) (w : World) (hr : RowsAt w ao p.pl) (hc : checkN p = 0) (g0 : ¬ f < 0) (g1 : ¬ t < f) (g2 : ¬ (lenP p : Int) < t) : Calls Try.prog 22 #[pcmV p ao cap, .int .i64 f, .int .i64 t] w fun e w' => GivesU w (sliceP p f t) (sliceN p f t) e w' := by
  obtain ⟨f, rfl⟩ := Int.eq_ofNat_of_zero_le (show 0 ≤ f by omega)
  obtain ⟨t, rfl⟩ := Int.eq_ofNat_of_zero_le (show 0 ≤ t by omega)
  obtain ⟨_, hl20, hn, hch, _⟩ := ok_parts p hc
  have hm := check_head_ok p hc
  have HN : Hid (sliceN p (f : Int) (t : Int) = 0) := by
    show _ = _
    unfold sliceN
    rw [if_pos hc, if_pos (by omega)]
  have HP : Hid (sliceP p (f : Int) (t : Int) = ⟨p.rate, p.ch, p.wd, p.pl.map (cutL f t)⟩) := by
    show _ = _
    unfold sliceP
    rw [if_pos (by omega), Int.toNat_natCast, Int.toNat_natCast]
    rfl
  have hll := len_of p hr
  have HR : Hid (RowsAt w ao p.pl) := hr
  have HB0 : Hid (Sl w p ao cap ((w.alloc (.cells (pcmC p ao cap) 24)).alloc (.cells zeroC 24))) := Sl.new w p ao cap
  have d0 := HB0.out.c0
  have d1 := HB0.out.c1
  have d2 := HB0.out.c2
  have d3 := HB0.out.c3
  have kc : Calls Try.prog 8 #[pcmV p ao cap] ((w.alloc (.cells (pcmC p ao cap) 24)).alloc (.cells zeroC 24)) fun e w' => e = .returned (.int .i64 (checkN p)) ∧ Hid (Sl w p ao cap w') :=
    (check_spec p ao cap _ (hr.below HB0.out.below)).mono fun e w' h => ⟨h.1, HB0.out.next h.2⟩
  have KL : Hid (∀ wx, Hid (Sl w p ao cap wx) → Calls Try.prog 12 #[pcmV p ao cap] wx fun e w' => e = .returned (.int .i64 (lenP p : Int)) ∧ Hid (Sl w p ao cap w')) := fun wx hx => (len_spec p ao cap wx (hr.below hx.out.below)).mono fun e w' h => ⟨h.1, hx.out.next h.2⟩
  rw [hc] at kc
  have HMC : Hid (matL p.pl.length (t - f) (fun k j => (p.pl.getD k []).getD (f + j) 0) = p.pl.map (cutL f t)) := mat_cut p.pl f t (lenP p) hn (by omega) (by omega)
  have KCU : Hid (∀ wx, Hid (Sl w p ao cap wx) → Calls Try.prog 49 #[.slice ao p.pl.length cap, .int .i64 (f : Int), .int .i64 (t : Int)] wx fun e w' => e = .returned (.slice (some ⟨wx.heap.size, 0, none⟩) p.pl.length p.pl.length) ∧ Hid (Mat wx.heap.size p.pl.length (t - f) (fun k j => (p.pl.getD k []).getD (f + j) 0) w') ∧ Hid (Below wx.heap.size wx w')) := fun wx hx => (cut_spec p.pl ao cap f t (lenP p) wx (hr.below hx.out.below) (by omega) hn hl20 (by omega) (by omega)).mono fun e w' h => ⟨h.1, h.2.1, h.2.2⟩
  clear hr hc hn hch
  go_enter Try.func22, Try.ntmps22
  go_wp2_with fail
  refine kc.mono ?_
  rintro e w4 ⟨rfl, h4⟩
  clear kc d0 d1 d2 d3
  have e0 := h4.out.c0
  have e1 := h4.out.c1
  have e2 := h4.out.c2
  have e3 := h4.out.c3
  have kl := KL.out w4 h4
  go_wp2_with fail
  refine kl.mono ?_
  rintro e w5 ⟨rfl, h5⟩
  clear kl e0 e1 e2 e3 h4
  have hA : Below w5.heap.size w5 (w5.alloc (.cells (pcmC p ao cap) 24)) := (Below.refl _ _).alloc (Nat.le_refl _) _
  have f0 := h5.out.c0
  have f1 := h5.out.c1
  have f2 := h5.out.c2
  have f3 := h5.out.c3
  have H6 : Hid (Sl w p ao cap (w5.alloc (.cells (pcmC p ao cap) 24))) := h5.out.next hA
  have HQ6 : Hid ((w5.alloc (.cells (pcmC p ao cap) 24)).heap[w5.heap.size]? = some (.cells (pcmC p ao cap) 24 (0, 0))) := heap_alloc_new _ _
  have k3 := H6.out.c3
  have HLT : Hid (w.heap.size + 1 < w5.heap.size) := lt_of_block h5.out.res
  have kcu := KCU.out _ H6
  rw [show (w5.alloc (.cells (pcmC p ao cap) 24)).heap.size = w5.heap.size + 1 from by simp] at kcu
  clear hA h5
  go_wp2_with fail
  refine kcu.mono ?_
  rintro e w7 ⟨rfl, hM7, hB7⟩
  have hB7' : Below (w5.alloc (.cells (pcmC p ao cap) 24)).heap.size (w5.alloc (.cells (pcmC p ao cap) 24)) w7 := by
    rw [show (w5.alloc (.cells (pcmC p ao cap) 24)).heap.size = w5.heap.size + 1 from by simp]
    exact hB7.out
  have H7 : Hid (Sl w p ao cap w7) := H6.out.next hB7'
  have hq7 : w7.heap[w5.heap.size]? = some (.cells (pcmC p ao cap) 24 (0, 0)) := by rw [hB7'.block _ (lt_of_block HQ6.out)]; exact HQ6.out
  have j3 : w7.cell? ⟨w5.heap.size, 3, none⟩ = some (.slice ao p.pl.length cap) := by rw [cell_of_row _ _ _ _ _ _ hq7]; rfl
  have jf : w7.frozen? ⟨w5.heap.size, 3, none⟩ = false := by simp [World.frozen?, hq7]
  have hq8 := blk_set w7 w5.heap.size 3 _ _ (.slice (some ⟨w5.heap.size + 1, 0, none⟩) p.pl.length p.pl.length) hq7
  have hl := HLT.out
  have HM8 : Hid (Mat (w5.heap.size + 1) p.pl.length (t - f) (fun k j => (p.pl.getD k []).getD (f + j) 0) (w7.setCell ⟨w5.heap.size, 3, none⟩ (.slice (some ⟨w5.heap.size + 1, 0, none⟩) p.pl.length p.pl.length))) := hM7.out.setLow _ _ (Nat.lt_succ_self _)
  have HB8 : Hid (Below w.heap.size w (w7.setCell ⟨w5.heap.size, 3, none⟩ (.slice (some ⟨w5.heap.size + 1, 0, none⟩) p.pl.length p.pl.length))) := H7.out.below.setCell (by simp; omega) _
  have HR8 : Hid ((w7.setCell ⟨w5.heap.size, 3, none⟩ (.slice (some ⟨w5.heap.size + 1, 0, none⟩) p.pl.length p.pl.length)).heap[w.heap.size + 1]? = some (.cells zeroC 24 (0, 0))) := by
    show _ = _
    rw [heap_set_other _ _ _ _ (by simp; omega)]
    exact H7.out.res
  generalize hw8 : w7.setCell ⟨w5.heap.size, 3, none⟩ (.slice (some ⟨w5.heap.size + 1, 0, none⟩) p.pl.length p.pl.length) = w8 at *
  have HW8 : Hid (w7.setCell ⟨w5.heap.size, 3, none⟩ (.slice (some ⟨w5.heap.size + 1, 0, none⟩) p.pl.length p.pl.length) = w8) := hw8
  have m0 : w8.cell? ⟨w5.heap.size, 0, none⟩ = some (.int .i64 p.rate) := by rw [cell_of_row _ _ _ _ _ _ hq8]; rfl
  have m1 : w8.cell? ⟨w5.heap.size, 1, none⟩ = some (.int .i64 p.ch) := by rw [cell_of_row _ _ _ _ _ _ hq8]; rfl
  have m2 : w8.cell? ⟨w5.heap.size, 2, none⟩ = some (.int .i64 p.wd) := by rw [cell_of_row _ _ _ _ _ _ hq8]; rfl
  have m3 : w8.cell? ⟨w5.heap.size, 3, none⟩ = some (.slice (some ⟨w5.heap.size + 1, 0, none⟩) p.pl.length p.pl.length) := by rw [cell_of_row _ _ _ _ _ _ hq8]; rfl
  have r0 := HR8.out
  have q0 : w8.cell? ⟨w.heap.size + 1, 0, none⟩ = some (.int .i64 0) := by rw [cell_of_row _ _ _ _ _ _ r0]; rfl
  have z0 : w8.frozen? ⟨w.heap.size + 1, 0, none⟩ = false := by simp [World.frozen?, r0]
  have q1 : w8.cell? ⟨w.heap.size + 1, 1, none⟩ = some (.int .i64 0) := by rw [cell_of_row _ _ _ _ _ _ r0]; rfl
  have z1 : w8.frozen? ⟨w.heap.size + 1, 1, none⟩ = false := by simp [World.frozen?, r0]
  have q2 : w8.cell? ⟨w.heap.size + 1, 2, none⟩ = some (.int .i64 0) := by rw [cell_of_row _ _ _ _ _ _ r0]; rfl
  have z2 : w8.frozen? ⟨w.heap.size + 1, 2, none⟩ = false := by simp [World.frozen?, r0]
  have q3 : w8.cell? ⟨w.heap.size + 1, 3, none⟩ = some (.slice none 0 0) := by rw [cell_of_row _ _ _ _ _ _ r0]; rfl
  have z3 : w8.frozen? ⟨w.heap.size + 1, 3, none⟩ = false := by simp [World.frozen?, r0]
  clear r0 hq7 hq8 hB7 hB7' hM7 H6 HQ6 f0 f1 f2 f3 k3 kcu KCU KL HLT
  go_wp2_with fail
  generalize hwf : (((w8.setCell ⟨w.heap.size + 1, 0, none⟩ (.int .i64 p.rate)).setCell ⟨w.heap.size + 1, 1, none⟩ (.int .i64 p.ch)).setCell ⟨w.heap.size + 1, 2, none⟩ (.int .i64 p.wd)).setCell ⟨w.heap.size + 1, 3, none⟩ (.slice (some ⟨w5.heap.size + 1, 0, none⟩) p.pl.length p.pl.length) = wf
  have hrow : wf.heap[w.heap.size + 1]? = some (.cells #[.int .i64 p.rate, .int .i64 p.ch, .int .i64 p.wd, .slice (some ⟨w5.heap.size + 1, 0, none⟩) p.pl.length p.pl.length] 24 (0, 0)) := by
    rw [← hwf, blk_set _ _ _ _ _ _ (blk_set _ _ _ _ _ _ (blk_set _ _ _ _ _ _ (blk_set _ _ _ _ _ _ HR8.out)))]
    rfl
  have hbel : Below w.heap.size w wf := by
    rw [← hwf]
    exact (((HB8.out.setCell (by simp) _).setCell (by simp) _).setCell (by simp) _).setCell (by simp) _
  have hmat : Mat (w5.heap.size + 1) p.pl.length (t - f) (fun k j => (p.pl.getD k []).getD (f + j) 0) wf := by
    rw [← hwf]
    exact (((HM8.out.setLow _ _ (by simp; omega)).setLow _ _ (by simp; omega)).setLow _ _ (by simp; omega)).setLow _ _ (by simp; omega)
  obtain ⟨hrows, hfr⟩ := mat_rows hmat (by omega) (by omega) (fun k i hk hi => rows_range HR.out k (f + i) hk)
  rw [HMC.out] at hrows hfr
  have hlen : (p.pl.map (cutL f t)).length = p.pl.length := List.length_map _
  refine bodyPost_ret (v := .tuple #[.agg #[.int .i64 p.rate, .int .i64 p.ch, .int .i64 p.wd, .slice (some ⟨w5.heap.size + 1, 0, none⟩) p.pl.length p.pl.length], .int .i64 0]) ?_ rfl ⟨some ⟨w5.heap.size + 1, 0, none⟩, p.pl.length, by rw [HP.out, HN.out]; show _ = Ending.returned (.tuple #[.agg #[.int .i64 p.rate, .int .i64 p.ch, .int .i64 p.wd, .slice (some ⟨w5.heap.size + 1, 0, none⟩) (p.pl.map (cutL f t)).length p.pl.length], .int .i64 0]); rw [hlen], by rw [HP.out]; exact hrows, by rw [HP.out]; exact hfr.mono2 (by omega), hbel⟩
  rw [res_two rfl]
  have hld := run_loadVar_row (P := Try.prog) wf (w.heap.size + 1) 24 24 #[.int .i64 p.rate, .int .i64 p.ch, .int .i64 p.wd, .slice (some ⟨w5.heap.size + 1, 0, none⟩) p.pl.length p.pl.length] (0, 0) _ hrow Try.underlying24 rfl infPcm
  simp [asAddr, Result.andThen, hld]

theorem slice_spec (p : Pcm) (ao : Option Addr) (cap : Nat) (f t : Int) (w : World) (hr : RowsAt w ao p.pl) : Calls Try.prog 22 #[pcmV p ao cap, .int .i64 f, .int .i64 t] w fun e w' => GivesU w (sliceP p f t) (sliceN p f t) e w' := by
  by_cases hc : checkN p = 0
  · by_cases g0 : f < 0
    · exact slice_neg p ao cap f t w hr hc g0
    · by_cases g1 : t < f
      · exact slice_back p ao cap f t w hr hc g0 g1
      · by_cases g2 : (lenP p : Int) < t
        · exact slice_past p ao cap f t w hr hc g0 g1 g2
        · exact slice_yes p ao cap f t w hr hc g0 g1 g2
  · exact slice_no p ao cap f t w hr hc

end Go.Proofs.Ytolmijpecomkcaa
