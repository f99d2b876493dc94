/- Own text: the walk of the document's Slice. -/
import Derived.Test.YtolmijpecomkcaaP5cut
namespace Go.Proofs.Ytolmijpecomkcaa
open Go.RowKit
set_option linter.unusedSimpArgs false
set_option linter.unusedVariables false

def noP : Pcm := ⟨0, 0, 0, []⟩
theorem rows_none (w : World) (ao : Option Addr) : RowsAt w ao noP.pl := ⟨by decide, fun h => absurd h (by decide)⟩
theorem fresh_none (B : Nat) (w : World) (ao : Option Addr) : Fresh B w ao noP.pl := ⟨fun b off e h => absurd h (by decide), fun b off e i hi => absurd hi (Nat.not_lt_zero _)⟩
def sliceN (p : Pcm) (f t : Int) : Int := if checkN p = 0 then (if 0 ≤ f ∧ f ≤ t ∧ t ≤ lenP p then 0 else 1) else checkN p
def sliceP (p : Pcm) (f t : Int) : Pcm := if checkN p = 0 ∧ 0 ≤ f ∧ f ≤ t ∧ t ≤ lenP p then cutP p f.toNat t.toNat else noP
theorem results_two {fn : Func} {p t : Tmp} {ty : TypeId} (h : fn.results = #[.cell p ty, .tmp t]) (tmps : Array Value) (P : Program) (w : World) :
    (results fn tmps).run P w = ((asAddr (tmps.getD p undef)).run P w).andThen fun a w₁ => ((loadVar ty a).run P w₁).andThen fun x w₂ => .ok (.tuple #[x, tmps.getD t undef]) w₂ := by
  simp only [results, h]
  simp [Sem.run_bind, Result.andThen]

theorem RowsAt.setLow {B : Nat} {w : World} {ao : Option Addr} {xs : List (List Int)} (h : RowsAt w ao xs) (hf : Fresh B w ao xs) {a : Addr} (ha : a.block < B) (u : Value) : RowsAt (w.setCell a u) ao xs ∧ Fresh B (w.setCell a u) ao xs := by
  have hout : ∀ b off, ao = some ⟨b, off, none⟩ → 0 < xs.length → ∀ o, (w.setCell a u).cell? ⟨b, o, none⟩ = w.cell? ⟨b, o, none⟩ := fun b off e h0 o => by
    have := hf.own b off e h0
    exact World.cell?_of_block (w := w) (a := ⟨b, o, none⟩) (Below.heap_setCell w a u b (by omega))
  refine ⟨⟨h.len, fun h0 => ?_⟩, ⟨hf.own, fun b off e i hi a' n c hc ba oa hba => ?_⟩⟩
  · obtain ⟨b, off, e, hc⟩ := h.lies h0
    refine ⟨b, off, e, fun i hi => ?_⟩
    obtain ⟨a', c, h1, h2, h3, h4⟩ := hc i hi
    refine ⟨a', c, by rw [hout b off e h0]; exact h1, h2, h3, ⟨h4.len, h4.num, fun h5 => ?_⟩⟩
    obtain ⟨ba, oa, e2, hc2⟩ := h4.lies h5
    have hb2 := (hf.rows b off e i hi a' _ c h1 ba oa e2).1
    refine ⟨ba, oa, e2, fun j hj => ?_⟩
    rw [World.cell?_of_block (w := w) (a := ⟨ba, oa + j, none⟩) (Below.heap_setCell w a u ba (by omega))]
    exact hc2 j hj
  · rw [hout b off e (by omega)] at hc
    obtain ⟨g1, g2⟩ := hf.rows b off e i hi a' n c hc ba oa hba
    exact ⟨g1, fun j => by rw [World.frozen?_setCell]; exact g2 j⟩

structure Sl (w0 : World) (p : Pcm) (ao : Option Addr) (cap : Nat) (w : World) : Prop where
  box : w.heap[w0.heap.size]? = some (.cells (pcmC p ao cap) 24 (0, 0))
  res : w.heap[w0.heap.size + 1]? = some (.cells zeroP 24 (0, 0))
  below : Below w0.heap.size w0 w
section
variable {w0 w w' : World} {p : Pcm} {ao : Option Addr} {cap : Nat}
theorem Sl.next (h : Sl w0 p ao cap w) (hB : Below w.heap.size w w') : Sl w0 p ao cap w' :=
  ⟨by rw [hB.block _ (lt_of_block h.box)]; exact h.box, by rw [hB.block _ (lt_of_block h.res)]; exact h.res, h.below.trans (hB.mono h.below.size)⟩
theorem Sl.new (w : World) (p : Pcm) (ao : Option Addr) (cap : Nat) : Sl w p ao cap ((w.alloc (.cells (pcmC p ao cap) 24)).alloc (.cells zeroP 24)) := by
  refine ⟨?_, ?_, ((Below.refl w.heap.size w).alloc (Nat.le_refl _) _).alloc (by simp) _⟩
  · rw [Below.heap_alloc _ _ _ (by simp)]
    exact heap_alloc_new _ _
  · have h := heap_alloc_new (w.alloc (.cells (pcmC p ao cap) 24)) (.cells zeroP 24)
    have e : (w.alloc (.cells (pcmC p ao cap) 24)).heap.size = w.heap.size + 1 := by simp
    rw [e] at h
    exact h
theorem Sl.c0 (h : Sl w0 p ao cap w) : w.cell? ⟨w0.heap.size, 0, none⟩ = some (.int .i64 p.rate) := by rw [cell_of_row _ _ _ _ _ _ h.box]; rfl
theorem Sl.c1 (h : Sl w0 p ao cap w) : w.cell? ⟨w0.heap.size, 1, none⟩ = some (.int .i64 p.ch) := by rw [cell_of_row _ _ _ _ _ _ h.box]; rfl
theorem Sl.c2 (h : Sl w0 p ao cap w) : w.cell? ⟨w0.heap.size, 2, none⟩ = some (.int .i64 p.wd) := by rw [cell_of_row _ _ _ _ _ _ h.box]; rfl
theorem Sl.c3 (h : Sl w0 p ao cap w) : w.cell? ⟨w0.heap.size, 3, none⟩ = some (.slice ao p.pl.length cap) := by rw [cell_of_row _ _ _ _ _ _ h.box]; rfl
theorem Sl.r0 (h : Sl w0 p ao cap w) : w.cell? ⟨w0.heap.size + 1, 0, none⟩ = some (.int .i64 0) := by rw [cell_of_row _ _ _ _ _ _ h.res]; rfl
theorem Sl.r1 (h : Sl w0 p ao cap w) : w.cell? ⟨w0.heap.size + 1, 1, none⟩ = some (.int .i64 0) := by rw [cell_of_row _ _ _ _ _ _ h.res]; rfl
theorem Sl.r2 (h : Sl w0 p ao cap w) : w.cell? ⟨w0.heap.size + 1, 2, none⟩ = some (.int .i64 0) := by rw [cell_of_row _ _ _ _ _ _ h.res]; rfl
theorem Sl.r3 (h : Sl w0 p ao cap w) : w.cell? ⟨w0.heap.size + 1, 3, none⟩ = some (.slice none 0 0) := by rw [cell_of_row _ _ _ _ _ _ h.res]; rfl
theorem Sl.fz (h : Sl w0 p ao cap w) (o : Nat) : w.frozen? ⟨w0.heap.size + 1, o, none⟩ = false := by
  have := h.res
  simp [World.frozen?, this]
end

set_option maxRecDepth 20000 in
set_option maxHeartbeats 6400000 in
theorem rslice_spec (p : Pcm) (ao : Option Addr) (cap : Nat) (f t : Int) (w : World) (hr : RowsAt w ao p.pl) :
    Calls Try.prog 23 #[pcmV p ao cap, .int .i64 f, .int .i64 t] w fun e w' => ∃ ao' cap', e = .returned (.tuple #[pcmV (sliceP p f t) ao' cap', .int .i64 (sliceN p f t)]) ∧ RowsAt w' ao' (sliceP p f t).pl ∧ Fresh w.heap.size w' ao' (sliceP p f t).pl ∧ Below w.heap.size w w' := by
  have HS : Hid (Sl w p ao cap ((w.alloc (.cells (pcmC p ao cap) 24)).alloc (.cells zeroP 24))) := Sl.new w p ao cap
  have KC : Hid (∀ wx, Hid (Sl w p ao cap wx) → Calls Try.prog 9 #[pcmV p ao cap] wx fun e w' => e = .returned (.int .i64 (checkN p)) ∧ Hid (Sl w p ao cap w')) := fun wx hx =>
    (rcheck_spec p ao cap wx (hr.below hx.out.below)).mono fun e w' h => ⟨h.1, hx.out.next h.2⟩
  have KL : Hid (∀ wx, Hid (Sl w p ao cap wx) → Calls Try.prog 13 #[pcmV p ao cap] wx fun e w' => e = .returned (.int .i64 (lenP p : Int)) ∧ Hid (Sl w p ao cap w')) := fun wx hx =>
    (rlen_spec p ao cap wx (hr.below hx.out.below)).mono fun e w' h => ⟨h.1, hx.out.next h.2⟩
  have HR : Hid (RowsAt w ao p.pl) := hr
  clear hr
  by_cases hc : checkN p = 0
  · have HC0 : Hid (checkN p = 0) := hc
    rw [hc] at KC
    by_cases h1 : f < 0
    · have HN : Hid (sliceN p f t = 1) := by
        show _ = _
        unfold sliceN
        rw [if_pos hc, if_neg (by omega)]
      have HP : Hid (sliceP p f t = noP) := by
        show _ = _
        unfold sliceP
        rw [if_neg (by omega)]
      clear hc
      go_enter Try.func23, Try.ntmps23
      go_wp2_with fail
      generalize hwa : World.alloc _ _ = wa
      have HA : Hid (Sl w p ao cap wa) := by
        rw [← hwa]
        exact HS.out
      clear hwa HS
      refine (KC.out wa HA).mono ?_
      rintro e w4 ⟨rfl, h4⟩
      have r0 := h4.out.r0
      have r1 := h4.out.r1
      have r2 := h4.out.r2
      have r3 := h4.out.r3
      have z0 := h4.out.fz 0
      have z1 := h4.out.fz 1
      have z2 := h4.out.fz 2
      have z3 := h4.out.fz 3
      have d0 := h4.out.c0
      have d1 := h4.out.c1
      have d2 := h4.out.c2
      have d3 := h4.out.c3
      go_wp2
      generalize hwf : ((((w4).setCell ⟨w.heap.size + 1, 0, none⟩ (.int .i64 0)).setCell ⟨w.heap.size + 1, 1, none⟩ (.int .i64 0)).setCell ⟨w.heap.size + 1, 2, none⟩ (.int .i64 0)).setCell ⟨w.heap.size + 1, 3, none⟩ (.slice none 0 0) = wf
      have hrow : wf.heap[w.heap.size + 1]? = some (.cells zeroP 24 (0, 0)) := by
        rw [← hwf, block_set _ _ _ _ _ _ (block_set _ _ _ _ _ _ (block_set _ _ _ _ _ _ (block_set _ _ _ _ _ _ h4.out.res)))]
        rfl
      have hbel : Below w.heap.size w wf := by
        rw [← hwf]
        exact (((h4.out.below.setCell (by simp) _).setCell (by simp) _).setCell (by simp) _).setCell (by simp) _
      refine bodyPost_ret (v := .tuple #[.agg zeroP, .int .i64 (1)]) ?_ rfl ⟨none, 0, by rw [HP.out, HN.out]; rfl, by rw [HP.out]; exact rows_none _ _, by rw [HP.out]; exact fresh_none _ _ _, hbel⟩
      rw [results_two rfl]
      have hld := run_loadVar_row (P := Try.prog) wf (w.heap.size + 1) 24 24 zeroP (0, 0) _ hrow Try.underlying24 rfl infoP
      simp [asAddr, Result.andThen, hld]
    · by_cases h2 : t < f
      · have HN : Hid (sliceN p f t = 1) := by
          show _ = _
          unfold sliceN
          rw [if_pos hc, if_neg (by omega)]
        have HP : Hid (sliceP p f t = noP) := by
          show _ = _
          unfold sliceP
          rw [if_neg (by omega)]
        clear hc
        go_enter Try.func23, Try.ntmps23
        go_wp2_with fail
        generalize hwa : World.alloc _ _ = wa
        have HA : Hid (Sl w p ao cap wa) := by
          rw [← hwa]
          exact HS.out
        clear hwa HS
        refine (KC.out wa HA).mono ?_
        rintro e w4 ⟨rfl, h4⟩
        have r0 := h4.out.r0
        have r1 := h4.out.r1
        have r2 := h4.out.r2
        have r3 := h4.out.r3
        have z0 := h4.out.fz 0
        have z1 := h4.out.fz 1
        have z2 := h4.out.fz 2
        have z3 := h4.out.fz 3
        have d0 := h4.out.c0
        have d1 := h4.out.c1
        have d2 := h4.out.c2
        have d3 := h4.out.c3
        go_wp2
        generalize hwf : ((((w4).setCell ⟨w.heap.size + 1, 0, none⟩ (.int .i64 0)).setCell ⟨w.heap.size + 1, 1, none⟩ (.int .i64 0)).setCell ⟨w.heap.size + 1, 2, none⟩ (.int .i64 0)).setCell ⟨w.heap.size + 1, 3, none⟩ (.slice none 0 0) = wf
        have hrow : wf.heap[w.heap.size + 1]? = some (.cells zeroP 24 (0, 0)) := by
          rw [← hwf, block_set _ _ _ _ _ _ (block_set _ _ _ _ _ _ (block_set _ _ _ _ _ _ (block_set _ _ _ _ _ _ h4.out.res)))]
          rfl
        have hbel : Below w.heap.size w wf := by
          rw [← hwf]
          exact (((h4.out.below.setCell (by simp) _).setCell (by simp) _).setCell (by simp) _).setCell (by simp) _
        refine bodyPost_ret (v := .tuple #[.agg zeroP, .int .i64 (1)]) ?_ rfl ⟨none, 0, by rw [HP.out, HN.out]; rfl, by rw [HP.out]; exact rows_none _ _, by rw [HP.out]; exact fresh_none _ _ _, hbel⟩
        rw [results_two rfl]
        have hld := run_loadVar_row (P := Try.prog) wf (w.heap.size + 1) 24 24 zeroP (0, 0) _ hrow Try.underlying24 rfl infoP
        simp [asAddr, Result.andThen, hld]
      · by_cases h3 : (lenP p : Int) < t
        · have HN : Hid (sliceN p f t = 1) := by
            show _ = _
            unfold sliceN
            rw [if_pos hc, if_neg (by omega)]
          have HP : Hid (sliceP p f t = noP) := by
            show _ = _
            unfold sliceP
            rw [if_neg (by omega)]
          clear hc
          go_enter Try.func23, Try.ntmps23
          go_wp2_with fail
          generalize hwa : World.alloc _ _ = wa
          have HA : Hid (Sl w p ao cap wa) := by
            rw [← hwa]
            exact HS.out
          clear hwa HS
          refine (KC.out wa HA).mono ?_
          rintro e w4 ⟨rfl, h4⟩
          have r0 := h4.out.r0
          have r1 := h4.out.r1
          have r2 := h4.out.r2
          have r3 := h4.out.r3
          have z0 := h4.out.fz 0
          have z1 := h4.out.fz 1
          have z2 := h4.out.fz 2
          have z3 := h4.out.fz 3
          have d0 := h4.out.c0
          have d1 := h4.out.c1
          have d2 := h4.out.c2
          have d3 := h4.out.c3
          clear r0 r1 r2 r3 z0 z1 z2 z3
          go_wp2_with fail
          refine (KL.out w4 h4).mono ?_
          rintro e w5 ⟨rfl, h5⟩
          have r0 := h5.out.r0
          have r1 := h5.out.r1
          have r2 := h5.out.r2
          have r3 := h5.out.r3
          have z0 := h5.out.fz 0
          have z1 := h5.out.fz 1
          have z2 := h5.out.fz 2
          have z3 := h5.out.fz 3
          go_wp2
          generalize hwf : ((((w5).setCell ⟨w.heap.size + 1, 0, none⟩ (.int .i64 0)).setCell ⟨w.heap.size + 1, 1, none⟩ (.int .i64 0)).setCell ⟨w.heap.size + 1, 2, none⟩ (.int .i64 0)).setCell ⟨w.heap.size + 1, 3, none⟩ (.slice none 0 0) = wf
          have hrow : wf.heap[w.heap.size + 1]? = some (.cells zeroP 24 (0, 0)) := by
            rw [← hwf, block_set _ _ _ _ _ _ (block_set _ _ _ _ _ _ (block_set _ _ _ _ _ _ (block_set _ _ _ _ _ _ h5.out.res)))]
            rfl
          have hbel : Below w.heap.size w wf := by
            rw [← hwf]
            exact (((h5.out.below.setCell (by simp) _).setCell (by simp) _).setCell (by simp) _).setCell (by simp) _
          refine bodyPost_ret (v := .tuple #[.agg zeroP, .int .i64 (1)]) ?_ rfl ⟨none, 0, by rw [HP.out, HN.out]; rfl, by rw [HP.out]; exact rows_none _ _, by rw [HP.out]; exact fresh_none _ _ _, hbel⟩
          rw [results_two rfl]
          have hld := run_loadVar_row (P := Try.prog) wf (w.heap.size + 1) 24 24 zeroP (0, 0) _ hrow Try.underlying24 rfl infoP
          simp [asAddr, Result.andThen, hld]
        · obtain ⟨hh, hlp, hpl⟩ := check_zero p hc
          obtain ⟨_, _, _, c2, _, _, hlen⟩ := head_parts p hh
          obtain ⟨F, hF⟩ : ∃ F : Nat, f = (F : Int) := ⟨f.toNat, by omega⟩
          obtain ⟨T, hT⟩ : ∃ T : Nat, t = (T : Int) := ⟨t.toNat, by omega⟩
          subst hF hT
          have HN : Hid (sliceN p F T = 0) := by
            show _ = _
            unfold sliceN
            rw [if_pos hc, if_pos (by omega)]
          have HP : Hid (sliceP p F T = cutP p F T) := by
            show _ = _
            unfold sliceP
            rw [if_pos ⟨hc, by omega, by omega, by omega⟩]
            rfl
          have KK : Hid (∀ wx, Hid (Sl w p ao cap wx) → Calls Try.prog 48 #[pcmV p ao cap, .int .i64 (F : Int), .int .i64 (T : Int)] wx fun e w' => ∃ ao' cap', e = .returned (pcmV (cutP p F T) ao' cap') ∧ Hid (RowsAt w' ao' (cutP p F T).pl ∧ Fresh wx.heap.size w' ao' (cutP p F T).pl) ∧ Hid (Sl w p ao cap w')) := fun wx hx =>
            (rcut_spec p ao cap F T (lenP p) wx (HR.out.below hx.out.below) (by omega) (fun i hi => by
              have := hpl i hi
              unfold planeB at this
              exact of_decide_eq_true (Bool.and_eq_true_iff.1 this).1) hlp (by omega) (by omega)).mono fun e w' h => by
                obtain ⟨ao', cap', h1, h2, h3, h4⟩ := h
                exact ⟨ao', cap', h1, ⟨h2, h3⟩, hx.out.next h4⟩
          clear hc hh hpl
          go_enter Try.func23, Try.ntmps23
          go_wp2_with fail
          generalize hwa : World.alloc _ _ = wa
          have HA : Hid (Sl w p ao cap wa) := by
            rw [← hwa]
            exact HS.out
          clear hwa HS
          refine (KC.out wa HA).mono ?_
          rintro e w4 ⟨rfl, h4⟩
          have r0 := h4.out.r0
          have r1 := h4.out.r1
          have r2 := h4.out.r2
          have r3 := h4.out.r3
          have z0 := h4.out.fz 0
          have z1 := h4.out.fz 1
          have z2 := h4.out.fz 2
          have z3 := h4.out.fz 3
          have d0 := h4.out.c0
          have d1 := h4.out.c1
          have d2 := h4.out.c2
          have d3 := h4.out.c3
          clear r0 r1 r2 r3 z0 z1 z2 z3
          go_wp2_with fail
          refine (KL.out w4 h4).mono ?_
          rintro e w5 ⟨rfl, h5⟩
          have d0 := h5.out.c0
          have d1 := h5.out.c1
          have d2 := h5.out.c2
          have d3 := h5.out.c3
          go_wp2_with fail
          refine (KK.out w5 h5).mono ?_
          rintro e w6 ⟨ao', cap', rfl, hrf, h6⟩
          have r0 := h6.out.r0
          have r1 := h6.out.r1
          have r2 := h6.out.r2
          have r3 := h6.out.r3
          have z0 := h6.out.fz 0
          have z1 := h6.out.fz 1
          have z2 := h6.out.fz 2
          have z3 := h6.out.fz 3
          have H5 : Hid (w.heap.size + 2 ≤ w5.heap.size) := by
            have := lt_of_block h5.out.res
            show _ ≤ _
            omega
          generalize hcp : cutP p F T = cp at *
          have HCP : Hid (cutP p F T = cp) := hcp
          clear hcp
          go_wp2
          generalize hwf : (((w6.setCell ⟨w.heap.size + 1, 0, none⟩ (.int .i64 cp.rate)).setCell ⟨w.heap.size + 1, 1, none⟩ (.int .i64 cp.ch)).setCell ⟨w.heap.size + 1, 2, none⟩ (.int .i64 cp.wd)).setCell ⟨w.heap.size + 1, 3, none⟩ (.slice ao' cp.pl.length cap') = wf
          have hrow : wf.heap[w.heap.size + 1]? = some (.cells (pcmC cp ao' cap') 24 (0, 0)) := by
            rw [← hwf, block_set _ _ _ _ _ _ (block_set _ _ _ _ _ _ (block_set _ _ _ _ _ _ (block_set _ _ _ _ _ _ h6.out.res)))]
            rfl
          have hbel : Below w.heap.size w wf := by
            rw [← hwf]
            exact (((h6.out.below.setCell (by simp) _).setCell (by simp) _).setCell (by simp) _).setCell (by simp) _
          have hrr : RowsAt wf ao' cp.pl ∧ Fresh w5.heap.size wf ao' cp.pl := by
            have hlow : w.heap.size + 1 < w5.heap.size := by have := H5.out; omega
            obtain ⟨a1, b1⟩ := hrf.out.1.setLow hrf.out.2 (a := ⟨w.heap.size + 1, 0, none⟩) hlow (.int .i64 cp.rate)
            obtain ⟨a2, b2⟩ := a1.setLow b1 (a := ⟨w.heap.size + 1, 1, none⟩) hlow (.int .i64 cp.ch)
            obtain ⟨a3, b3⟩ := a2.setLow b2 (a := ⟨w.heap.size + 1, 2, none⟩) hlow (.int .i64 cp.wd)
            obtain ⟨a4, b4⟩ := a3.setLow b3 (a := ⟨w.heap.size + 1, 3, none⟩) hlow (.slice ao' cp.pl.length cap')
            rw [← hwf]
            exact ⟨a4, b4⟩
          refine bodyPost_ret (v := .tuple #[pcmV cp ao' cap', .int .i64 0]) ?_ rfl ⟨ao', cap', by rw [HP.out, HN.out], by rw [HP.out]; exact hrr.1, by rw [HP.out]; exact hrr.2.mono (by have := H5.out; omega), hbel⟩
          rw [results_two rfl]
          have hld := run_loadVar_row (P := Try.prog) wf (w.heap.size + 1) 24 24 (pcmC cp ao' cap') (0, 0) _ hrow Try.underlying24 rfl infoP
          simp [asAddr, Result.andThen, hld]
  · have HN : Hid (sliceN p f t = checkN p) := by
      show _ = _
      unfold sliceN
      rw [if_neg hc]
    have HP : Hid (sliceP p f t = noP) := by
      show _ = _
      unfold sliceP
      rw [if_neg (fun h => hc h.1)]
    go_enter Try.func23, Try.ntmps23
    go_wp2_with fail
    generalize hwa : World.alloc _ _ = wa
    have HA : Hid (Sl w p ao cap wa) := by
      rw [← hwa]
      exact HS.out
    clear hwa HS
    refine (KC.out wa HA).mono ?_
    rintro e w4 ⟨rfl, h4⟩
    have r0 := h4.out.r0
    have r1 := h4.out.r1
    have r2 := h4.out.r2
    have r3 := h4.out.r3
    have z0 := h4.out.fz 0
    have z1 := h4.out.fz 1
    have z2 := h4.out.fz 2
    have z3 := h4.out.fz 3
    have d0 := h4.out.c0
    have d1 := h4.out.c1
    have d2 := h4.out.c2
    have d3 := h4.out.c3
    go_wp2
    generalize hwf : ((((w4).setCell ⟨w.heap.size + 1, 0, none⟩ (.int .i64 0)).setCell ⟨w.heap.size + 1, 1, none⟩ (.int .i64 0)).setCell ⟨w.heap.size + 1, 2, none⟩ (.int .i64 0)).setCell ⟨w.heap.size + 1, 3, none⟩ (.slice none 0 0) = wf
    have hrow : wf.heap[w.heap.size + 1]? = some (.cells zeroP 24 (0, 0)) := by
      rw [← hwf, block_set _ _ _ _ _ _ (block_set _ _ _ _ _ _ (block_set _ _ _ _ _ _ (block_set _ _ _ _ _ _ h4.out.res)))]
      rfl
    have hbel : Below w.heap.size w wf := by
      rw [← hwf]
      exact (((h4.out.below.setCell (by simp) _).setCell (by simp) _).setCell (by simp) _).setCell (by simp) _
    refine bodyPost_ret (v := .tuple #[.agg zeroP, .int .i64 (checkN p)]) ?_ rfl ⟨none, 0, by rw [HP.out, HN.out]; rfl, by rw [HP.out]; exact rows_none _ _, by rw [HP.out]; exact fresh_none _ _ _, hbel⟩
    rw [results_two rfl]
    have hld := run_loadVar_row (P := Try.prog) wf (w.heap.size + 1) 24 24 zeroP (0, 0) _ hrow Try.underlying24 rfl infoP
    simp [asAddr, Result.andThen, hld]

end Go.Proofs.Ytolmijpecomkcaa
