/- Own text: the walk of the document's Join, its early ends. -/
import Derived.Test.YtolmijpecomkcaaP5join
import Derived.Test.YtolmijpecomkcaaP5args2
import Derived.Test.YtolmijpecomkcaaP5unpack3
namespace Go.Proofs.Ytolmijpecomkcaa
open Go.RowKit
set_option linter.unusedSimpArgs false
set_option linter.unusedVariables false

/-- The box of Join's answer. -/
structure Jn (w0 w : World) : Prop where
  res : w.heap[w0.heap.size]? = some (.cells zeroP 24 (0, 0))
  below : Below w0.heap.size w0 w
section
variable {w0 w w1 : World}
theorem Jn.new (w : World) : Jn w (w.alloc (.cells zeroP 24)) := ⟨heap_alloc_new _ _, (Below.refl _ _).alloc (Nat.le_refl _) _⟩
theorem Jn.next (h : Jn w0 w) (hB : Below w.heap.size w w1) : Jn w0 w1 := ⟨by rw [hB.block _ (lt_of_block h.res)]; exact h.res, h.below.trans (hB.mono h.below.size)⟩
theorem Jn.drew (h : Jn w0 w) : Jn w0 w.drew := h.next ⟨rfl, rfl, rfl, Nat.le_refl _, fun _ _ => rfl⟩
theorem Jn.drewN (h : Jn w0 w) (n : Nat) : Jn w0 (w.drewN n) :=
  ⟨h.res, ⟨h.below.os, h.below.tape, h.below.output, h.below.size, h.below.block⟩⟩
theorem Jn.r0 (h : Jn w0 w) : w.cell? ⟨w0.heap.size, 0, none⟩ = some (.int .i64 0) := by rw [cell_of_row _ _ _ _ _ _ h.res]; rfl
theorem Jn.r1 (h : Jn w0 w) : w.cell? ⟨w0.heap.size, 1, none⟩ = some (.int .i64 0) := by rw [cell_of_row _ _ _ _ _ _ h.res]; rfl
theorem Jn.r2 (h : Jn w0 w) : w.cell? ⟨w0.heap.size, 2, none⟩ = some (.int .i64 0) := by rw [cell_of_row _ _ _ _ _ _ h.res]; rfl
theorem Jn.r3 (h : Jn w0 w) : w.cell? ⟨w0.heap.size, 3, none⟩ = some (.slice none 0 0) := by rw [cell_of_row _ _ _ _ _ _ h.res]; rfl
theorem Jn.z (h : Jn w0 w) (j : Nat) : w.frozen? ⟨w0.heap.size, j, none⟩ = false := by
  have hrs := h.res
  simp [World.frozen?, hrs]
end
/-- One of the parts, where it lies. -/
theorem PcmsAt.at {w0 : World} {ao : Option Addr} {ps : List Pcm} (h : PcmsAt w0 ao ps) (i : Nat) (p : Pcm) (hi : ps[i]? = some p) :
    ∃ b off a c, ao = some ⟨b, off, none⟩ ∧ (∀ w, Below w0.heap.size w0 w → w.cell? ⟨b, off + i * 4, none⟩ = some (.int .i64 p.rate) ∧ w.cell? ⟨b, off + i * 4 + 1, none⟩ = some (.int .i64 p.ch) ∧ w.cell? ⟨b, off + i * 4 + 2, none⟩ = some (.int .i64 p.wd) ∧ w.cell? ⟨b, off + i * 4 + 3, none⟩ = some (.slice a p.pl.length c)) ∧ RowsAt w0 a p.pl ∧ Fair p := by
  obtain ⟨b, off, e, hc⟩ := h.lies (by have := (List.getElem?_eq_some_iff.1 hi).1; omega)
  obtain ⟨a, c, h0, h1, h2, h3, h4, h5⟩ := hc i p hi
  refine ⟨b, off, a, c, e, fun w hw => ?_, h4, h5⟩
  have hlt := lt_cell h0
  have hk : ∀ j, w.cell? ⟨b, j, none⟩ = w0.cell? ⟨b, j, none⟩ := fun j => World.cell?_of_block (w := w0) (hw.block b hlt)
  rw [hk, hk, hk, hk, Nat.add_assoc, Nat.add_assoc, Nat.add_assoc]
  exact ⟨h0, h1, h2, h3⟩

set_option maxRecDepth 20000 in
set_option maxHeartbeats 6400000 in
theorem rjoin_empty (ao : Option Addr) (cap : Nat) (w : World) :
    Calls Try.prog 21 #[.slice ao 0 cap] w fun e w' => Gives w (joinP []) (joinE []) e w' := by
  have HN : Hid (joinE [] = 280) := rfl
  have HP : Hid (joinP [] = noP) := rfl
  have HJ : Hid (Jn w (w.alloc (.cells zeroP 24))) := Jn.new w
  go_enter Try.func21, Try.ntmps21
  go_wp2
  generalize hwf : World.alloc _ _ = wf
  have hj : Jn w wf := by
    rw [← hwf]
    exact HJ.out
  refine bodyPost_ret (v := .tuple #[.agg zeroP, .int .i64 280]) ?_ rfl ⟨none, 0, by rw [HP.out, HN.out]; rfl, by rw [HP.out]; exact rows_none _ _, by rw [HP.out]; exact fresh_none _ _ _, hj.below⟩
  rw [results_two rfl]
  have hld := run_loadVar_row (P := Try.prog) wf (w.heap.size) 24 24 zeroP (0, 0) _ hj.res Try.underlying24 rfl infoP
  simp [asAddr, Result.andThen, hld]

set_option maxRecDepth 20000 in
set_option maxHeartbeats 6400000 in
theorem rjoin_no (p0 : Pcm) (tl : List Pcm) (ao : Option Addr) (cap : Nat) (w : World) (h : PcmsAt w ao (p0 :: tl)) (hne : joinE (p0 :: tl) ≠ 0) :
    Calls Try.prog 21 #[.slice ao (p0 :: tl).length cap] w fun e w' => Gives w (joinP (p0 :: tl)) (joinE (p0 :: tl)) e w' := by
  have HP : Hid (joinP (p0 :: tl) = noP) := by
    show _ = _
    unfold joinP
    rw [if_neg hne]
  have HJ : Hid (Jn w (w.alloc (.cells zeroP 24))) := Jn.new w
  have HS : Hid (sumL (p0 :: tl) ≤ 5000000000000000000 ∨ True) := .inr trivial
  obtain ⟨ps, hps⟩ : ∃ ps, p0 :: tl = ps := ⟨_, rfl⟩
  have h0 : ps[0]? = some p0 := by rw [← hps]; rfl
  have HJE : Hid (joinE ps = if partsE p0 ps = 0 then (if 1048576 < sumL ps then 5 else 0) else partsE p0 ps) := by
    rw [← hps]
    exact rfl
  have HB0 : Hid (∀ (i : Nat) (p : Pcm), ps[i]? = some p → partE p0 p ≠ 0 → (∀ (j : Nat) (q : Pcm), j < i → ps[j]? = some q → partE p0 q = 0) → joinE ps = partE p0 p) := fun i p hi hp hj => by
    have e := partsE_first p0 ps i p hi hp hj
    rw [HJE.out, e, if_neg hp]
  have HB1 : Hid ((∀ (j : Nat) (q : Pcm), ps[j]? = some q → partE p0 q = 0) → joinE ps = 5 ∧ 1048576 < sumL ps) := fun hj => by
    have e := (partsE_zero p0 ps).2 hj
    rw [hps, HJE.out, e, if_pos rfl] at hne
    rw [HJE.out, e, if_pos rfl]
    by_cases q : 1048576 < sumL ps
    · exact ⟨if_pos q, q⟩
    · rw [if_neg q] at hne
      exact absurd rfl hne
  rw [hps] at h hne HP ⊢
  have hlen : ps.length ≤ 2932031007403 := h.len
  have hpos : 0 < ps.length := by rw [← hps]; simp
  have HH : Hid (PcmsAt w ao ps) := h
  obtain ⟨b, off, a0, c0, rfl, hz, hr0, hf0⟩ := h.at 0 p0 h0
  rw [Nat.zero_mul] at hz
  have HZ : Hid (∀ wx, Below w.heap.size w wx → wx.cell? ⟨b, off, none⟩ = some (.int .i64 p0.rate) ∧ wx.cell? ⟨b, off + 1, none⟩ = some (.int .i64 p0.ch) ∧ wx.cell? ⟨b, off + 2, none⟩ = some (.int .i64 p0.wd)) := fun wx hx => ⟨(hz wx hx).1, (hz wx hx).2.1, (hz wx hx).2.2.1⟩
  clear h hz hr0 h0 hne
  clear hps
  go_enter Try.func21, Try.ntmps21
  go_wp2_with fail
  generalize hwa : World.alloc _ _ = wa
  have HA : Hid (Jn w wa) := by
    rw [← hwa]
    exact HJ.out
  clear hwa HJ
  generalize Value.bool ((ps.length : Int) == 0) = v12
  go_loopw [4, 5] (fun n t wr => ∃ i : Nat, i ≤ ps.length ∧ t = .int .i64 (i : Int) ∧ n = .int .i64 (sumL (ps.take i) : Int) ∧ sumL (ps.take i) ≤ i * 1048576 ∧ Jn w wr ∧ ∀ (j : Nat) (q : Pcm), j < i → ps[j]? = some q → partE p0 q = 0) (fun _ t _ => ps.length - (intOf t).toNat)
  case atStart => exact ⟨0, Nat.zero_le _, rfl, rfl, Nat.le_refl _, HA.out, fun j q hj => absurd hj (Nat.not_lt_zero _)⟩
  case round =>
    clear HA
    obtain ⟨i, hi, rfl, rfl, hsum, hj, hall⟩ := hrel
    have HJ : Hid (Jn w wr) := hj
    have HALL : Hid (∀ (j : Nat) (q : Pcm), j < i → ps[j]? = some q → partE p0 q = 0) := hall
    clear hj hall
    obtain ⟨N, hN⟩ : ∃ N, sumL (ps.take i) = N := ⟨_, rfl⟩
    rw [hN] at hsum ⊢
    have HNN : Hid (sumL (ps.take i) = N) := hN
    clear hN
    by_cases hlt : i < ps.length
    · obtain ⟨p, hp⟩ : ∃ p, ps[i]? = some p := ⟨ps[i], List.getElem?_eq_getElem hlt⟩
      obtain ⟨b', off', a, c, he, hcell, hrow, hfair⟩ := HH.out.at i p hp
      cases he
      obtain ⟨d0, d1, d2, d3⟩ := hcell wr HJ.out.below
      have kc := rcheck_spec p a c wr (hrow.below HJ.out.below)
      have HRW : Hid (RowsAt w a p.pl) := hrow
      have KL : Hid (∀ wx, Hid (Jn w wx) → Calls Try.prog 13 #[pcmV p a c] wx fun e w' => e = .returned (.int .i64 (lenP p : Int)) ∧ Hid (Jn w w')) := fun wx hx => (rlen_spec p a c wx (hrow.below hx.out.below)).mono fun e w' h => ⟨h.1, hx.out.next h.2⟩
      have HCL : Hid (∀ wx, Below w.heap.size w wx → wx.cell? ⟨b, off + i * 4, none⟩ = some (.int .i64 p.rate) ∧ wx.cell? ⟨b, off + i * 4 + 1, none⟩ = some (.int .i64 p.ch) ∧ wx.cell? ⟨b, off + i * 4 + 2, none⟩ = some (.int .i64 p.wd) ∧ wx.cell? ⟨b, off + i * 4 + 3, none⟩ = some (.slice a p.pl.length c)) := hcell
      clear hrow hcell hfair
      by_cases hc : checkN p = 0
      · rw [hc] at kc
        obtain ⟨_, hl20, _⟩ := check_zero p hc
        go_wp2_with fail
        refine kc.mono ?_
        rintro e w5 ⟨rfl, hB5⟩
        have HJ5 : Hid (Jn w w5) := HJ.out.next hB5
        obtain ⟨g0, g1, g2, g3⟩ := HCL.out w5 HJ5.out.below
        obtain ⟨y0, y1, y2⟩ := HZ.out w5 HJ5.out.below
        clear hB5 d0 d1 d2 d3 kc HJ
        have HJ := HJ5
        clear HJ5
        have HEQ : Hid (partE p0 p = if p.rate = p0.rate ∧ p.ch = p0.ch ∧ p.wd = p0.wd then 0 else 280) := by
          show _ = _
          unfold partE
          rw [if_pos hc]
        by_cases q0 : p.rate = p0.rate
        · by_cases q1 : p.ch = p0.ch
          · by_cases q2 : p.wd = p0.wd
            · have HPZ : Hid (partE p0 p = 0) := by
                show _ = _
                rw [HEQ.out, if_pos ⟨q0, q1, q2⟩]
              have b0 : (p.rate != p0.rate) = false := by simp [q0]
              have b1 : (p.ch != p0.ch) = false := by simp [q1]
              have b2 : (p.wd != p0.wd) = false := by simp [q2]
              have HST : Hid (sumL (ps.take (i + 1)) = N + lenP p) := by
                show _ = _
                rw [sumL_take ps i p hp, HNN.out]
              have HAL : Hid (∀ (j : Nat) (q : Pcm), j < i + 1 → ps[j]? = some q → partE p0 q = 0) := fun j q hj hq => by
                by_cases e : j = i
                · rw [e, hp] at hq
                  cases hq
                  exact HPZ.out
                · exact HALL.out j q (by omega) hq
              clear HALL q0 q1 q2
              go_wp2_with fail
              go_quiet (fail)
              go_wp2_with fail
              refine (KL.out _ ?_).mono ?_
              · exact HJ.out.drewN _
              rintro e w6 ⟨rfl, hj6⟩
              go_wp2_with fail
              go_roundw
              case rel => exact ⟨i + 1, by omega, by go_num, by rw [HST.out]; go_num, by rw [HST.out]; omega, hj6.out, HAL.out⟩
              case measure => simp [intOf]; omega
            · skip
              have HN : Hid (joinE ps = 280) := by
                have e : partE p0 p = 280 := by
                  rw [HEQ.out, if_neg (fun q => q2 q.2.2)]
                show _ = _
                rw [← e]
                exact HB0.out i p hp (by rw [e]; decide) HALL.out
              have b0 : (p.rate != p0.rate) = false := by simp [q0]
              have b1 : (p.ch != p0.ch) = false := by simp [q1]
              have b2 : (p.wd != p0.wd) = true := by simp [q2]
              clear q0 q1 q2
              go_wp2_with fail
              go_quiet (fail)
              generalize hwd : World.drewN _ _ = wd
              have HJ2 : Hid (Jn w wd) := by
                rw [← hwd]
                exact HJ.out.drewN _
              clear hwd HJ g0 g1 g2 g3 y0 y1 y2
              have HJ := HJ2
              clear HJ2
              have r0 := HJ.out.r0
              have r1 := HJ.out.r1
              have r2 := HJ.out.r2
              have r3 := HJ.out.r3
              have z0 := HJ.out.z 0
              have z1 := HJ.out.z 1
              have z2 := HJ.out.z 2
              have z3 := HJ.out.z 3
              go_wp2_with fail
              generalize hwf : ((((wd).setCell ⟨w.heap.size, 0, none⟩ (.int .i64 0)).setCell ⟨w.heap.size, 1, none⟩ (.int .i64 0)).setCell ⟨w.heap.size, 2, none⟩ (.int .i64 0)).setCell ⟨w.heap.size, 3, none⟩ (.slice none 0 0) = wf
              have hrow : wf.heap[w.heap.size]? = some (.cells zeroP 24 (0, 0)) := by
                rw [← hwf, block_set _ _ _ _ _ _ (block_set _ _ _ _ _ _ (block_set _ _ _ _ _ _ (block_set _ _ _ _ _ _ HJ.out.res)))]
                rfl
              have hbel : Below w.heap.size w wf := by
                rw [← hwf]
                exact (((HJ.out.below.setCell (by simp) _).setCell (by simp) _).setCell (by simp) _).setCell (by simp) _
              refine bodyPost_ret (v := .tuple #[.agg zeroP, .int .i64 280]) ?_ rfl ⟨none, 0, by rw [HP.out, HN.out]; rfl, by rw [HP.out]; exact rows_none _ _, by rw [HP.out]; exact fresh_none _ _ _, hbel⟩
              rw [results_two rfl]
              have hld := run_loadVar_row (P := Try.prog) wf (w.heap.size) 24 24 zeroP (0, 0) _ hrow Try.underlying24 rfl infoP
              simp [asAddr, Result.andThen, hld]
          · skip
            have HN : Hid (joinE ps = 280) := by
              have e : partE p0 p = 280 := by
                rw [HEQ.out, if_neg (fun q => q1 q.2.1)]
              show _ = _
              rw [← e]
              exact HB0.out i p hp (by rw [e]; decide) HALL.out
            have b0 : (p.rate != p0.rate) = false := by simp [q0]
            have b1 : (p.ch != p0.ch) = true := by simp [q1]
            clear q0 q1
            go_wp2_with fail
            go_quiet (fail)
            generalize hwd : World.drewN _ _ = wd
            have HJ2 : Hid (Jn w wd) := by
              rw [← hwd]
              exact HJ.out.drewN _
            clear hwd HJ g0 g1 g2 g3 y0 y1 y2
            have HJ := HJ2
            clear HJ2
            have r0 := HJ.out.r0
            have r1 := HJ.out.r1
            have r2 := HJ.out.r2
            have r3 := HJ.out.r3
            have z0 := HJ.out.z 0
            have z1 := HJ.out.z 1
            have z2 := HJ.out.z 2
            have z3 := HJ.out.z 3
            go_wp2_with fail
            generalize hwf : ((((wd).setCell ⟨w.heap.size, 0, none⟩ (.int .i64 0)).setCell ⟨w.heap.size, 1, none⟩ (.int .i64 0)).setCell ⟨w.heap.size, 2, none⟩ (.int .i64 0)).setCell ⟨w.heap.size, 3, none⟩ (.slice none 0 0) = wf
            have hrow : wf.heap[w.heap.size]? = some (.cells zeroP 24 (0, 0)) := by
              rw [← hwf, block_set _ _ _ _ _ _ (block_set _ _ _ _ _ _ (block_set _ _ _ _ _ _ (block_set _ _ _ _ _ _ HJ.out.res)))]
              rfl
            have hbel : Below w.heap.size w wf := by
              rw [← hwf]
              exact (((HJ.out.below.setCell (by simp) _).setCell (by simp) _).setCell (by simp) _).setCell (by simp) _
            refine bodyPost_ret (v := .tuple #[.agg zeroP, .int .i64 280]) ?_ rfl ⟨none, 0, by rw [HP.out, HN.out]; rfl, by rw [HP.out]; exact rows_none _ _, by rw [HP.out]; exact fresh_none _ _ _, hbel⟩
            rw [results_two rfl]
            have hld := run_loadVar_row (P := Try.prog) wf (w.heap.size) 24 24 zeroP (0, 0) _ hrow Try.underlying24 rfl infoP
            simp [asAddr, Result.andThen, hld]
        · skip
          have HN : Hid (joinE ps = 280) := by
            have e : partE p0 p = 280 := by
              rw [HEQ.out, if_neg (fun q => q0 q.1)]
            show _ = _
            rw [← e]
            exact HB0.out i p hp (by rw [e]; decide) HALL.out
          have b0 : (p.rate != p0.rate) = true := by simp [q0]
          clear q0
          go_wp2_with fail
          go_quiet (fail)
          generalize hwd : World.drewN _ _ = wd
          have HJ2 : Hid (Jn w wd) := by
            rw [← hwd]
            exact HJ.out.drewN _
          clear hwd HJ g0 g1 g2 g3 y0 y1 y2
          have HJ := HJ2
          clear HJ2
          have r0 := HJ.out.r0
          have r1 := HJ.out.r1
          have r2 := HJ.out.r2
          have r3 := HJ.out.r3
          have z0 := HJ.out.z 0
          have z1 := HJ.out.z 1
          have z2 := HJ.out.z 2
          have z3 := HJ.out.z 3
          go_wp2_with fail
          generalize hwf : ((((wd).setCell ⟨w.heap.size, 0, none⟩ (.int .i64 0)).setCell ⟨w.heap.size, 1, none⟩ (.int .i64 0)).setCell ⟨w.heap.size, 2, none⟩ (.int .i64 0)).setCell ⟨w.heap.size, 3, none⟩ (.slice none 0 0) = wf
          have hrow : wf.heap[w.heap.size]? = some (.cells zeroP 24 (0, 0)) := by
            rw [← hwf, block_set _ _ _ _ _ _ (block_set _ _ _ _ _ _ (block_set _ _ _ _ _ _ (block_set _ _ _ _ _ _ HJ.out.res)))]
            rfl
          have hbel : Below w.heap.size w wf := by
            rw [← hwf]
            exact (((HJ.out.below.setCell (by simp) _).setCell (by simp) _).setCell (by simp) _).setCell (by simp) _
          refine bodyPost_ret (v := .tuple #[.agg zeroP, .int .i64 280]) ?_ rfl ⟨none, 0, by rw [HP.out, HN.out]; rfl, by rw [HP.out]; exact rows_none _ _, by rw [HP.out]; exact fresh_none _ _ _, hbel⟩
          rw [results_two rfl]
          have hld := run_loadVar_row (P := Try.prog) wf (w.heap.size) 24 24 zeroP (0, 0) _ hrow Try.underlying24 rfl infoP
          simp [asAddr, Result.andThen, hld]
      · have HN : Hid (joinE ps = checkN p) := by
          have e : partE p0 p = checkN p := by
            unfold partE
            rw [if_neg hc]
          show _ = _
          rw [← e]
          exact HB0.out i p hp (by rw [e]; exact hc) HALL.out
        go_wp2_with fail
        refine kc.mono ?_
        rintro e w5 ⟨rfl, hB5⟩
        have HJ5 : Hid (Jn w w5) := HJ.out.next hB5
        clear hB5 d0 d1 d2 d3 kc HJ
        have HJ := HJ5
        clear HJ5
        have hcb : (checkN p != 0) = true := by simp [hc]
        generalize hE : checkN p = E at *
        have r0 := HJ.out.r0
        have r1 := HJ.out.r1
        have r2 := HJ.out.r2
        have r3 := HJ.out.r3
        have z0 := HJ.out.z 0
        have z1 := HJ.out.z 1
        have z2 := HJ.out.z 2
        have z3 := HJ.out.z 3
        go_wp2_with fail
        generalize hwf : ((((w5).setCell ⟨w.heap.size, 0, none⟩ (.int .i64 0)).setCell ⟨w.heap.size, 1, none⟩ (.int .i64 0)).setCell ⟨w.heap.size, 2, none⟩ (.int .i64 0)).setCell ⟨w.heap.size, 3, none⟩ (.slice none 0 0) = wf
        have hrow : wf.heap[w.heap.size]? = some (.cells zeroP 24 (0, 0)) := by
          rw [← hwf, block_set _ _ _ _ _ _ (block_set _ _ _ _ _ _ (block_set _ _ _ _ _ _ (block_set _ _ _ _ _ _ HJ.out.res)))]
          rfl
        have hbel : Below w.heap.size w wf := by
          rw [← hwf]
          exact (((HJ.out.below.setCell (by simp) _).setCell (by simp) _).setCell (by simp) _).setCell (by simp) _
        refine bodyPost_ret (v := .tuple #[.agg zeroP, .int .i64 E]) ?_ rfl ⟨none, 0, by rw [HP.out, HN.out]; rfl, by rw [HP.out]; exact rows_none _ _, by rw [HP.out]; exact fresh_none _ _ _, hbel⟩
        rw [results_two rfl]
        have hld := run_loadVar_row (P := Try.prog) wf (w.heap.size) 24 24 zeroP (0, 0) _ hrow Try.underlying24 rfl infoP
        simp [asAddr, Result.andThen, hld]
    · have hie : i = ps.length := by omega
      obtain ⟨hN5, hgt⟩ := HB1.out (fun j q hq => HALL.out j q (by have := (List.getElem?_eq_some_iff.1 hq).1; omega) hq)
      have HN : Hid (joinE ps = 5) := hN5
      have hNg : 1048576 < N := by
        have := HNN.out
        rw [hie, List.take_length] at this
        omega
      clear hN5 hgt
      have r0 := HJ.out.r0
      have r1 := HJ.out.r1
      have r2 := HJ.out.r2
      have r3 := HJ.out.r3
      have z0 := HJ.out.z 0
      have z1 := HJ.out.z 1
      have z2 := HJ.out.z 2
      have z3 := HJ.out.z 3
      go_wp2_with fail
      generalize hwf : ((((wr).setCell ⟨w.heap.size, 0, none⟩ (.int .i64 0)).setCell ⟨w.heap.size, 1, none⟩ (.int .i64 0)).setCell ⟨w.heap.size, 2, none⟩ (.int .i64 0)).setCell ⟨w.heap.size, 3, none⟩ (.slice none 0 0) = wf
      have hrow : wf.heap[w.heap.size]? = some (.cells zeroP 24 (0, 0)) := by
        rw [← hwf, block_set _ _ _ _ _ _ (block_set _ _ _ _ _ _ (block_set _ _ _ _ _ _ (block_set _ _ _ _ _ _ HJ.out.res)))]
        rfl
      have hbel : Below w.heap.size w wf := by
        rw [← hwf]
        exact (((HJ.out.below.setCell (by simp) _).setCell (by simp) _).setCell (by simp) _).setCell (by simp) _
      refine bodyPost_ret (v := .tuple #[.agg zeroP, .int .i64 5]) ?_ rfl ⟨none, 0, by rw [HP.out, HN.out]; rfl, by rw [HP.out]; exact rows_none _ _, by rw [HP.out]; exact fresh_none _ _ _, hbel⟩
      rw [results_two rfl]
      have hld := run_loadVar_row (P := Try.prog) wf (w.heap.size) 24 24 zeroP (0, 0) _ hrow Try.underlying24 rfl infoP
      simp [asAddr, Result.andThen, hld]

end Go.Proofs.Ytolmijpecomkcaa
