/- Own text: the walk of the program's Join, its early ends. -/
import Derived.Test.YtolmijpecomkcaaQ5join2
namespace Go.Proofs.Ytolmijpecomkcaa
open Go.RowKit
set_option linter.unusedSimpArgs false
set_option linter.unusedVariables false

set_option maxRecDepth 20000 in
set_option maxHeartbeats 1600000 in
theorem join_empty (ao : Option Addr) (cap : Nat) (w : World) :
    Calls Try.prog 20 #[.slice ao 0 cap] w fun e w' => GivesU w (joinP []) (joinE []) e w' := by
  have HN : Hid (joinE [] = 280) := rfl
  have HP : Hid (joinP [] = noP) := rfl
  have HJ : Hid (Jn w (w.alloc (.cells zeroC 24))) := Jn.new w
  go_enter Try.func20, Try.ntmps20
  go_wp2_with fail
  refine bodyPost_ret (v := .tuple #[.agg zeroC, .int .i64 280]) ?_ rfl ⟨none, 0, by rw [HP.out, HN.out]; rfl, by rw [HP.out]; exact rows_none _ _, by rw [HP.out]; exact fresh_none _ _ _, HJ.out.below⟩
  rw [res_two rfl]
  have hld := run_loadVar_row (P := Try.prog) (w.alloc (.cells zeroC 24)) w.heap.size 24 24 zeroC (0, 0) _ HJ.out.res Try.underlying24 rfl infPcm
  simp [asAddr, Result.andThen, hld]

set_option maxRecDepth 20000 in
set_option maxHeartbeats 6400000 in
theorem join_no (p0 : Pcm) (tl : List Pcm) (ao : Option Addr) (cap : Nat) (w : World) (h : PcmsAt w ao (p0 :: tl)) (hne : joinE (p0 :: tl) ≠ 0) :
    Calls Try.prog 20 #[.slice ao (p0 :: tl).length cap] w fun e w' => GivesU w (joinP (p0 :: tl)) (joinE (p0 :: tl)) e w' := by
  have HP : Hid (joinP (p0 :: tl) = noP) := by
    show _ = _
    unfold joinP
    rw [if_neg hne]
  obtain ⟨ps, hps⟩ : ∃ ps, p0 :: tl = ps := ⟨_, rfl⟩
  have h0 : ps[0]? = some p0 := by rw [← hps]; rfl
  have hJ : joinE ps = if partsE p0 ps = 0 then (if 1048576 < sumL ps then 5 else 0) else partsE p0 ps := by rw [← hps]; exact rfl
  rw [hps] at h hne HP ⊢
  have HB0 : Hid (∀ (i : Nat) (p : Pcm), ps[i]? = some p → partE p0 p ≠ 0 → (∀ (j : Nat) (q : Pcm), j < i → ps[j]? = some q → partE p0 q = 0) → joinE ps = partE p0 p) := fun i p hi hp hj => by
    have e := partsE_first p0 ps i p hi hp hj
    rw [hJ, e, if_neg hp]
  have HB1 : Hid ((∀ (j : Nat) (q : Pcm), ps[j]? = some q → partE p0 q = 0) → joinE ps = 5 ∧ 1048576 < sumL ps) := fun hj => by
    have e := (partsE_zero p0 ps).2 hj
    rw [hJ, e, if_pos rfl] at hne
    rw [hJ, e, if_pos rfl]
    by_cases q : 1048576 < sumL ps
    · exact ⟨if_pos q, q⟩
    · rw [if_neg q] at hne
      exact absurd rfl hne
  have HJ : Hid (Jn w (w.alloc (.cells zeroC 24))) := Jn.new w
  have hlen : ps.length ≤ 2932031007403 := h.len
  have hpos : 0 < ps.length := by rw [← hps]; simp
  have HH : Hid (PcmsAt w ao ps) := h
  obtain ⟨b, off, a0, c0, rfl, hz, hr0, hf0⟩ := h.at 0 p0 h0
  rw [Nat.zero_mul] at hz
  have HZ : Hid (∀ wx, Below w.heap.size w wx → wx.cell? ⟨b, off, none⟩ = some (.int .i64 p0.rate) ∧ wx.cell? ⟨b, off + 1, none⟩ = some (.int .i64 p0.ch) ∧ wx.cell? ⟨b, off + 2, none⟩ = some (.int .i64 p0.wd) ∧ wx.cell? ⟨b, off + 3, none⟩ = some (.slice a0 p0.pl.length c0)) := fun wx hx => ⟨(hz wx hx).1, (hz wx hx).2.1, (hz wx hx).2.2.1, (hz wx hx).2.2.2⟩
  have hpb : ((ps.length : Int) == 0) = false := by rw [beq_eq_false_iff_ne]; omega
  clear h hz hr0 h0 hne hJ hps hf0
  go_enter Try.func20, Try.ntmps20
  go_wp2_with fail
  generalize hwa : World.alloc _ _ = wa
  have HA : Hid (Jn w wa) := by
    rw [← hwa]
    exact HJ.out
  clear hwa HJ
  go_loopw [4, 6, 7, 18] (fun n s6 s7 t wr => ∃ i : Nat, i ≤ ps.length ∧ t = .int .i64 (i : Int) ∧ n = .int .i64 (sumL (ps.take i) : Int) ∧ sumL (ps.take i) ≤ i * 1048576 ∧ Jn w wr ∧ ∀ (j : Nat) (q : Pcm), j < i → ps[j]? = some q → partE p0 q = 0) (fun _ _ _ t _ => ps.length - (intOf t).toNat)
  case atStart => exact ⟨0, Nat.zero_le _, rfl, rfl, Nat.le_refl _, HA.out, fun j q hj => absurd hj (Nat.not_lt_zero _)⟩
  case round =>
    clear HA
    obtain ⟨i, hi, rfl, rfl, hsum, hj, hall⟩ := hrel
    have HJ : Hid (Jn w wr) := hj
    have HALL : Hid (∀ (j : Nat) (q : Pcm), j < i → ps[j]? = some q → partE p0 q = 0) := hall
    clear hj hall
    by_cases hlt : i < ps.length
    · obtain ⟨p, hp⟩ : ∃ p, ps[i]? = some p := ⟨_, List.getElem?_eq_getElem hlt⟩
      obtain ⟨b', off', a, cq, e, hcell, hr, hf⟩ := HH.out.at i p hp
      have e' : b = b' ∧ off = off' := by
        injection e with e
        injection e with e1 e2
        exact ⟨e1, e2⟩
      obtain ⟨rfl, rfl⟩ := e'
      have hw := hcell wr HJ.out.below
      have x0 := hw.1
      have x1 := hw.2.1
      have x2 := hw.2.2.1
      have x3 := hw.2.2.2
      have HQ : Hid (JB w wr.heap.size p a cq (wr.alloc (.cells (pcmC p a cq) 24))) := ⟨HJ.out.next ((Below.refl _ _).alloc (Nat.le_refl _) _), heap_alloc_new _ _⟩
      have HRP : Hid (RowsAt w a p.pl) := hr
      have kc : Calls Try.prog 8 #[pcmV p a cq] (wr.alloc (.cells (pcmC p a cq) 24)) fun e w' => e = .returned (.int .i64 (checkN p)) ∧ Hid (JB w wr.heap.size p a cq w') := (check_spec p a cq _ (HRP.out.below HQ.out.jn.below)).mono fun e w' h => ⟨h.1, HQ.out.next h.2⟩
      have KI : Hid (∀ wx, Hid (JB w wr.heap.size p a cq wx) → Calls Try.prog 44 #[pcmV p a cq, pcmV p0 a0 c0] wx fun e w' => e = .returned (.bool (alikeB p p0)) ∧ Hid (JB w wr.heap.size p a cq w')) := fun wx hx => (isAlike_spec p p0 a a0 cq c0 wx).mono fun e w' h => ⟨h.1, hx.out.next h.2⟩
      have KL : Hid (∀ wx, Hid (JB w wr.heap.size p a cq wx) → Calls Try.prog 12 #[pcmV p a cq] wx fun e w' => e = .returned (.int .i64 (lenP p : Int)) ∧ Hid (JB w wr.heap.size p a cq w')) := fun wx hx => (len_spec p a cq wx (HRP.out.below hx.out.jn.below)).mono fun e w' h => ⟨h.1, hx.out.next h.2⟩
      have HSS : Hid (∀ wx, Hid (JB w wr.heap.size p a cq wx) → wx.cell? ⟨wr.heap.size, 0, none⟩ = some (.int .i64 p.rate) ∧ wx.cell? ⟨wr.heap.size, 1, none⟩ = some (.int .i64 p.ch) ∧ wx.cell? ⟨wr.heap.size, 2, none⟩ = some (.int .i64 p.wd) ∧ wx.cell? ⟨wr.heap.size, 3, none⟩ = some (.slice a p.pl.length cq) ∧ wx.cell? ⟨b, off, none⟩ = some (.int .i64 p0.rate) ∧ wx.cell? ⟨b, off + 1, none⟩ = some (.int .i64 p0.ch) ∧ wx.cell? ⟨b, off + 2, none⟩ = some (.int .i64 p0.wd) ∧ wx.cell? ⟨b, off + 3, none⟩ = some (.slice a0 p0.pl.length c0)) := fun wx hx =>
        have hz := HZ.out wx hx.out.jn.below
        ⟨by rw [cell_of_row _ _ _ _ _ _ hx.out.bq]; rfl, by rw [cell_of_row _ _ _ _ _ _ hx.out.bq]; rfl, by rw [cell_of_row _ _ _ _ _ _ hx.out.bq]; rfl, by rw [cell_of_row _ _ _ _ _ _ hx.out.bq]; rfl, hz.1, hz.2.1, hz.2.2.1, hz.2.2.2⟩
      clear hw hcell hr hf e
      by_cases hc : checkN p = 0
      · rw [hc] at kc
        have hl20 := (ok_parts p hc).2.1
        cases hal : alikeB p p0
        · have HN : Hid (joinE ps = 280) := by
            have e : partE p0 p = 280 := by
              unfold partE
              rw [if_pos hc, if_neg (fun q => by rw [show alikeB p p0 = true from decide_eq_true q] at hal; cases hal)]
            show _ = _
            rw [← e]
            exact HB0.out i p hp (by rw [e]; decide) HALL.out
          rw [hal] at KI
          clear hal hc hp
          go_wp2_with fail
          refine kc.mono ?_
          rintro e w7 ⟨rfl, h7⟩
          clear kc x0 x1 x2 x3 HQ
          have h7d : Hid (JB w wr.heap.size p a cq w7.drew) := h7.out.next ⟨rfl, rfl, rfl, Nat.le_refl _, fun _ _ => rfl⟩
          go_wp2_with fail
          go_region_held3 (fun wx => wx.cell? ⟨wr.heap.size, 0, none⟩ = some (.int .i64 p.rate) ∧ wx.cell? ⟨wr.heap.size, 1, none⟩ = some (.int .i64 p.ch) ∧ wx.cell? ⟨wr.heap.size, 2, none⟩ = some (.int .i64 p.wd) ∧ wx.cell? ⟨wr.heap.size, 3, none⟩ = some (.slice a p.pl.length cq) ∧ wx.cell? ⟨b, off, none⟩ = some (.int .i64 p0.rate) ∧ wx.cell? ⟨b, off + 1, none⟩ = some (.int .i64 p0.ch) ∧ wx.cell? ⟨b, off + 2, none⟩ = some (.int .i64 p0.wd) ∧ wx.cell? ⟨b, off + 3, none⟩ = some (.slice a0 p0.pl.length c0)) (exact HSS.out _ (by assumption))
            (first
              | (go_at_call 44; refine (KI.out _ (by assumption)).mono ?_; rintro e w8 ⟨rfl, h8⟩))
          clear h7 h7d
          have rz0 := h8.out.jn.res
          have q0 : w8.cell? ⟨w.heap.size, 0, none⟩ = some (.int .i64 0) := by rw [cell_of_row _ _ _ _ _ _ rz0]; rfl
          have q1 : w8.cell? ⟨w.heap.size, 1, none⟩ = some (.int .i64 0) := by rw [cell_of_row _ _ _ _ _ _ rz0]; rfl
          have q2 : w8.cell? ⟨w.heap.size, 2, none⟩ = some (.int .i64 0) := by rw [cell_of_row _ _ _ _ _ _ rz0]; rfl
          have q3 : w8.cell? ⟨w.heap.size, 3, none⟩ = some (.slice none 0 0) := by rw [cell_of_row _ _ _ _ _ _ rz0]; rfl
          have z0 : w8.frozen? ⟨w.heap.size, 0, none⟩ = false := by simp [World.frozen?, rz0]
          have z1 : w8.frozen? ⟨w.heap.size, 1, none⟩ = false := by simp [World.frozen?, rz0]
          have z2 : w8.frozen? ⟨w.heap.size, 2, none⟩ = false := by simp [World.frozen?, rz0]
          have z3 : w8.frozen? ⟨w.heap.size, 3, none⟩ = false := by simp [World.frozen?, rz0]
          have HRZ : Hid (w8.heap[w.heap.size]? = some (.cells zeroC 24 (0, 0))) := rz0
          have HBZ : Hid (Below w.heap.size w w8) := h8.out.jn.below
          clear rz0 h8
          go_wp2_with fail
          generalize hwf : (((w8.setCell ⟨w.heap.size, 0, none⟩ (.int .i64 0)).setCell ⟨w.heap.size, 1, none⟩ (.int .i64 0)).setCell ⟨w.heap.size, 2, none⟩ (.int .i64 0)).setCell ⟨w.heap.size, 3, none⟩ (.slice none 0 0) = wf
          have hrow : wf.heap[w.heap.size]? = some (.cells zeroC 24 (0, 0)) := by
            rw [← hwf, blk_set _ _ _ _ _ _ (blk_set _ _ _ _ _ _ (blk_set _ _ _ _ _ _ (blk_set _ _ _ _ _ _ HRZ.out)))]
            rfl
          have hbel : Below w.heap.size w wf := by
            rw [← hwf]
            exact (((HBZ.out.setCell (Nat.le_refl _) _).setCell (Nat.le_refl _) _).setCell (Nat.le_refl _) _).setCell (Nat.le_refl _) _
          refine bodyPost_ret (v := .tuple #[.agg zeroC, .int .i64 280]) ?_ rfl ⟨none, 0, by rw [HP.out, HN.out]; rfl, by rw [HP.out]; exact rows_none _ _, by rw [HP.out]; exact fresh_none _ _ _, hbel⟩
          rw [res_two rfl]
          have hld := run_loadVar_row (P := Try.prog) wf w.heap.size 24 24 zeroC (0, 0) _ hrow Try.underlying24 rfl infPcm
          simp [asAddr, Result.andThen, hld]
        · have HPZ : Hid (partE p0 p = 0) := by
            show _ = _
            unfold partE
            rw [if_pos hc, if_pos (of_decide_eq_true hal)]
          have hst := sumL_take ps i p hp
          have HST : Hid (sumL (ps.take (i + 1)) = sumL (ps.take i) + lenP p) := hst
          have HAL : Hid (∀ (j : Nat) (q : Pcm), j < i + 1 → ps[j]? = some q → partE p0 q = 0) := fun j q hj hq => by
            by_cases e : j = i
            · rw [e, hp] at hq
              cases hq
              exact HPZ.out
            · exact HALL.out j q (by omega) hq
          rw [hal] at KI
          clear hal hc hp hst HALL
          go_wp2_with fail
          refine kc.mono ?_
          rintro e w7 ⟨rfl, h7⟩
          clear kc x0 x1 x2 x3 HQ
          have h7d : Hid (JB w wr.heap.size p a cq w7.drew) := h7.out.next ⟨rfl, rfl, rfl, Nat.le_refl _, fun _ _ => rfl⟩
          go_wp2_with fail
          go_region_held3 (fun wx => wx.cell? ⟨wr.heap.size, 0, none⟩ = some (.int .i64 p.rate) ∧ wx.cell? ⟨wr.heap.size, 1, none⟩ = some (.int .i64 p.ch) ∧ wx.cell? ⟨wr.heap.size, 2, none⟩ = some (.int .i64 p.wd) ∧ wx.cell? ⟨wr.heap.size, 3, none⟩ = some (.slice a p.pl.length cq) ∧ wx.cell? ⟨b, off, none⟩ = some (.int .i64 p0.rate) ∧ wx.cell? ⟨b, off + 1, none⟩ = some (.int .i64 p0.ch) ∧ wx.cell? ⟨b, off + 2, none⟩ = some (.int .i64 p0.wd) ∧ wx.cell? ⟨b, off + 3, none⟩ = some (.slice a0 p0.pl.length c0)) (exact HSS.out _ (by assumption))
            (first
              | (go_at_call 44; refine (KI.out _ (by assumption)).mono ?_; rintro e w8 ⟨rfl, h8⟩))
          have h8s := HSS.out w8 h8
          have y0 := h8s.1
          have y1 := h8s.2.1
          have y2 := h8s.2.2.1
          have y3 := h8s.2.2.2.1
          have kl := KL.out w8 h8
          clear h8s h7 h7d
          go_wp2_with fail
          refine kl.mono ?_
          rintro e w9 ⟨rfl, h9⟩
          clear kl y0 y1 y2 y3 h8
          go_wp2_with fail
          go_roundw
          case rel => exact ⟨i + 1, by omega, by go_num, by rw [HST.out]; go_num, by rw [HST.out]; omega, h9.out.jn, HAL.out⟩
          case measure => simp [intOf]; omega
      · have HN : Hid (joinE ps = checkN p) := by
          have e : partE p0 p = checkN p := by
            unfold partE
            rw [if_neg hc]
          show _ = _
          rw [← e]
          exact HB0.out i p hp (by rw [e]; exact hc) HALL.out
        have hcb : (checkN p != 0) = true := by simp [hc]
        clear hp hc
        generalize checkN p = E at *
        go_wp2_with fail
        refine kc.mono ?_
        rintro e w7 ⟨rfl, h7⟩
        clear kc x0 x1 x2 x3 HQ
        have rz0 := h7.out.jn.res
        have q0 : w7.cell? ⟨w.heap.size, 0, none⟩ = some (.int .i64 0) := by rw [cell_of_row _ _ _ _ _ _ rz0]; rfl
        have q1 : w7.cell? ⟨w.heap.size, 1, none⟩ = some (.int .i64 0) := by rw [cell_of_row _ _ _ _ _ _ rz0]; rfl
        have q2 : w7.cell? ⟨w.heap.size, 2, none⟩ = some (.int .i64 0) := by rw [cell_of_row _ _ _ _ _ _ rz0]; rfl
        have q3 : w7.cell? ⟨w.heap.size, 3, none⟩ = some (.slice none 0 0) := by rw [cell_of_row _ _ _ _ _ _ rz0]; rfl
        have z0 : w7.frozen? ⟨w.heap.size, 0, none⟩ = false := by simp [World.frozen?, rz0]
        have z1 : w7.frozen? ⟨w.heap.size, 1, none⟩ = false := by simp [World.frozen?, rz0]
        have z2 : w7.frozen? ⟨w.heap.size, 2, none⟩ = false := by simp [World.frozen?, rz0]
        have z3 : w7.frozen? ⟨w.heap.size, 3, none⟩ = false := by simp [World.frozen?, rz0]
        have HRZ : Hid (w7.heap[w.heap.size]? = some (.cells zeroC 24 (0, 0))) := rz0
        have HBZ : Hid (Below w.heap.size w w7) := h7.out.jn.below
        clear rz0 h7
        go_wp2_with fail
        generalize hwf : (((w7.setCell ⟨w.heap.size, 0, none⟩ (.int .i64 0)).setCell ⟨w.heap.size, 1, none⟩ (.int .i64 0)).setCell ⟨w.heap.size, 2, none⟩ (.int .i64 0)).setCell ⟨w.heap.size, 3, none⟩ (.slice none 0 0) = wf
        have hrow : wf.heap[w.heap.size]? = some (.cells zeroC 24 (0, 0)) := by
          rw [← hwf, blk_set _ _ _ _ _ _ (blk_set _ _ _ _ _ _ (blk_set _ _ _ _ _ _ (blk_set _ _ _ _ _ _ HRZ.out)))]
          rfl
        have hbel : Below w.heap.size w wf := by
          rw [← hwf]
          exact (((HBZ.out.setCell (Nat.le_refl _) _).setCell (Nat.le_refl _) _).setCell (Nat.le_refl _) _).setCell (Nat.le_refl _) _
        refine bodyPost_ret (v := .tuple #[.agg zeroC, .int .i64 E]) ?_ rfl ⟨none, 0, by rw [HP.out, HN.out]; rfl, by rw [HP.out]; exact rows_none _ _, by rw [HP.out]; exact fresh_none _ _ _, hbel⟩
        rw [res_two rfl]
        have hld := run_loadVar_row (P := Try.prog) wf w.heap.size 24 24 zeroC (0, 0) _ hrow Try.underlying24 rfl infPcm
        simp [asAddr, Result.andThen, hld]
    · have hie : i = ps.length := by omega
      subst hie
      obtain ⟨hN5, hgt⟩ := HB1.out (fun j q hq => HALL.out j q (by have := (List.getElem?_eq_some_iff.1 hq).1; omega) hq)
      rw [List.take_length] at *
      have HN : Hid (joinE ps = 5) := hN5
      obtain ⟨N, hN⟩ : ∃ N, sumL ps = N := ⟨_, rfl⟩
      rw [hN] at hsum hgt ⊢
      clear hN5 hN HALL
      have rz0 := HJ.out.res
      have q0 : wr.cell? ⟨w.heap.size, 0, none⟩ = some (.int .i64 0) := by rw [cell_of_row _ _ _ _ _ _ rz0]; rfl
      have q1 : wr.cell? ⟨w.heap.size, 1, none⟩ = some (.int .i64 0) := by rw [cell_of_row _ _ _ _ _ _ rz0]; rfl
      have q2 : wr.cell? ⟨w.heap.size, 2, none⟩ = some (.int .i64 0) := by rw [cell_of_row _ _ _ _ _ _ rz0]; rfl
      have q3 : wr.cell? ⟨w.heap.size, 3, none⟩ = some (.slice none 0 0) := by rw [cell_of_row _ _ _ _ _ _ rz0]; rfl
      have z0 : wr.frozen? ⟨w.heap.size, 0, none⟩ = false := by simp [World.frozen?, rz0]
      have z1 : wr.frozen? ⟨w.heap.size, 1, none⟩ = false := by simp [World.frozen?, rz0]
      have z2 : wr.frozen? ⟨w.heap.size, 2, none⟩ = false := by simp [World.frozen?, rz0]
      have z3 : wr.frozen? ⟨w.heap.size, 3, none⟩ = false := by simp [World.frozen?, rz0]
      have HRZ : Hid (wr.heap[w.heap.size]? = some (.cells zeroC 24 (0, 0))) := rz0
      have HBZ : Hid (Below w.heap.size w wr) := HJ.out.below
      clear rz0 
      go_wp2_with fail
      generalize hwf : (((wr.setCell ⟨w.heap.size, 0, none⟩ (.int .i64 0)).setCell ⟨w.heap.size, 1, none⟩ (.int .i64 0)).setCell ⟨w.heap.size, 2, none⟩ (.int .i64 0)).setCell ⟨w.heap.size, 3, none⟩ (.slice none 0 0) = wf
      have hrow : wf.heap[w.heap.size]? = some (.cells zeroC 24 (0, 0)) := by
        rw [← hwf, blk_set _ _ _ _ _ _ (blk_set _ _ _ _ _ _ (blk_set _ _ _ _ _ _ (blk_set _ _ _ _ _ _ HRZ.out)))]
        rfl
      have hbel : Below w.heap.size w wf := by
        rw [← hwf]
        exact (((HBZ.out.setCell (Nat.le_refl _) _).setCell (Nat.le_refl _) _).setCell (Nat.le_refl _) _).setCell (Nat.le_refl _) _
      refine bodyPost_ret (v := .tuple #[.agg zeroC, .int .i64 5]) ?_ rfl ⟨none, 0, by rw [HP.out, HN.out]; rfl, by rw [HP.out]; exact rows_none _ _, by rw [HP.out]; exact fresh_none _ _ _, hbel⟩
      rw [res_two rfl]
      have hld := run_loadVar_row (P := Try.prog) wf w.heap.size 24 24 zeroC (0, 0) _ hrow Try.underlying24 rfl infPcm
      simp [asAddr, Result.andThen, hld]

/-- The program's Join, whatever it is handed. -/
theorem join_spec (ps : List Pcm) (ao : Option Addr) (cap : Nat) (w : World) (h : PcmsAt w ao ps) :
    Calls Try.prog 20 #[.slice ao ps.length cap] w fun e w' => GivesU w (joinP ps) (joinE ps) e w' := by
  cases ps with
  | nil => exact join_empty ao cap w
  | cons p0 tl =>
    by_cases hne : joinE (p0 :: tl) = 0
    · exact join_yes p0 tl ao cap w h hne
    · exact join_no p0 tl ao cap w h hne

end Go.Proofs.Ytolmijpecomkcaa
