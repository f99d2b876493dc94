/- Own text: the walk of the document's Join, its second half. -/
import Derived.Test.YtolmijpecomkcaaP5join4
import Derived.Test.YtolmijpecomkcaaQ5join2
namespace Go.Proofs.Ytolmijpecomkcaa
open Go.RowKit
set_option linter.unusedSimpArgs false
set_option linter.unusedVariables false
set_option maxRecDepth 20000 in
set_option maxHeartbeats 6400000 in
theorem rjoin_yes (p0 : Pcm) (tl : List Pcm) (ao : Option Addr) (cap : Nat) (w : World) (h : PcmsAt w ao (p0 :: tl)) (hne : joinE (p0 :: tl) = 0) :
    Calls Try.prog 21 #[.slice ao (p0 :: tl).length cap] w fun e w' => Gives w (joinP (p0 :: tl)) (joinE (p0 :: tl)) e w' := by
  have HJ : Hid (Jn w (w.alloc (.cells zeroP 24))) := Jn.new w
  obtain ⟨ps, hps⟩ : ∃ ps, p0 :: tl = ps := ⟨_, rfl⟩
  have h0 : ps[0]? = some p0 := by rw [← hps]; rfl
  have hd0 : ps.getD 0 noP = p0 := by rw [← hps]; rfl
  have hje : joinE ps = if partsE p0 ps = 0 then (if 1048576 < sumL ps then 5 else 0) else partsE p0 ps := by
    rw [← hps]
    exact rfl
  rw [hps] at h hne ⊢
  have hz : partsE p0 ps = 0 := by
    rw [hne] at hje
    by_cases e : partsE p0 ps = 0
    · exact e
    · rw [if_neg e] at hje
      exact hje.symm
  have hsm : sumL ps ≤ 1048576 := by
    rw [hne, if_pos hz] at hje
    by_cases e : 1048576 < sumL ps
    · rw [if_pos e] at hje
      cases hje
    · omega
  have HALL : Hid (∀ (j : Nat) (q : Pcm), ps[j]? = some q → partE p0 q = 0) := (partsE_zero p0 ps).1 hz
  have HN : Hid (joinE ps = 0) := hne
  have HP : Hid (joinP ps = ⟨p0.rate, p0.ch, p0.wd, (List.range p0.pl.length).map (joinL ps)⟩) := by
    show _ = _
    unfold joinP
    rw [if_pos hne, hd0]
  have hlen : ps.length ≤ 2932031007403 := h.len
  have hpos : 0 < ps.length := by rw [← hps]; simp
  have HH : Hid (PcmsAt w ao ps) := h
  obtain ⟨hc0, _⟩ := part_zero p0 p0 (HALL.out 0 p0 h0)
  obtain ⟨hh0, hl0, hpl0⟩ := check_zero p0 hc0
  obtain ⟨pr1, pr2, pc1, pc2, pw1, pw2, hplen⟩ := head_parts p0 hh0
  obtain ⟨b, off, a0, c0, rfl, hcz, hr0, hf0⟩ := h.at 0 p0 h0
  rw [Nat.zero_mul] at hcz
  have HZ : Hid (∀ wx, Below w.heap.size w wx → wx.cell? ⟨b, off, none⟩ = some (.int .i64 p0.rate) ∧ wx.cell? ⟨b, off + 1, none⟩ = some (.int .i64 p0.ch) ∧ wx.cell? ⟨b, off + 2, none⟩ = some (.int .i64 p0.wd) ∧ wx.cell? ⟨b, off + 3, none⟩ = some (.slice a0 p0.pl.length c0)) := fun wx hx => hcz wx hx
  have KL0 : Hid (∀ q wx, Hid (JZ w q wx) → Calls Try.prog 13 #[.agg #[.int .i64 p0.rate, .int .i64 p0.ch, .int .i64 p0.wd, .slice a0 p0.pl.length c0]] wx fun e w' => e = .returned (.int .i64 (lenP p0 : Int)) ∧ Hid (JZ w q w')) := fun q wx hx => (rlen_spec p0 a0 c0 wx (hr0.below hx.out.jn.below)).mono fun e w' h => ⟨h.1, hx.out.next h.2⟩
  have KLn : Hid (∀ wx, Hid (Jn w wx) → Calls Try.prog 13 #[.agg #[.int .i64 p0.rate, .int .i64 p0.ch, .int .i64 p0.wd, .slice a0 p0.pl.length c0]] wx fun e w' => e = .returned (.int .i64 (lenP p0 : Int)) ∧ Hid (Jn w w')) := fun wx hx => (rlen_spec p0 a0 c0 wx (hr0.below hx.out.below)).mono fun e w' h => ⟨h.1, hx.out.next h.2⟩
  have KC : ∀ wx, Jn w wx → Calls Try.prog 48 #[.agg #[.int .i64 p0.rate, .int .i64 p0.ch, .int .i64 p0.wd, .slice a0 p0.pl.length c0], .int .i64 0, .int .i64 (lenP p0 : Int)] wx fun e w' => ∃ g cap' vs, e = .returned (.agg #[.int .i64 p0.rate, .int .i64 p0.ch, .int .i64 p0.wd, .slice (some ⟨g, 0, none⟩) p0.pl.length cap']) ∧ OwnMat 45 (w.heap.size + 1) w' (.slice (some ⟨g, 0, none⟩) p0.pl.length cap') vs p0.pl ∧ Below wx.heap.size wx w' ∧ wx.heap.size ≤ g ∧ ∀ k, k < p0.pl.length → ∀ b, (vs.getD k noS).ownBlock = some b → wx.heap.size ≤ b := fun wx hjs => by
    refine (rcut_own p0 a0 c0 0 (lenP p0) (lenP p0) wx (hr0.below hjs.below) (by omega) (fun i hi => ?_) hl0 (Nat.zero_le _) (Nat.le_refl _)).mono ?_
    · have := hpl0 i hi
      unfold planeB at this
      exact of_decide_eq_true (Bool.and_eq_true_iff.1 this).1
    · rintro e w' ⟨ao', cap', e1, e2, e3, e4, vs, e5⟩
      rw [cut_all p0 hc0] at e1 e5
      have hw : w.heap.size + 1 ≤ wx.heap.size := by have := lt_of_block hjs.res; omega
      have hin : ∀ k, k < p0.pl.length → ∀ b, (vs.getD k noS).ownBlock = some b → wx.heap.size ≤ b := fun k hk b hb => by
        have := ((e5.inner k hk).lt b hb).1
        omega
      rcases e5.outer.2 with ⟨q1, q2⟩ | ⟨g, c, cur, q1, q2, _⟩
      · exact absurd q2 (by omega)
      · cases q1
        exact ⟨g, cap', vs, e1, e5.lower (by omega), e4, by omega, hin⟩
  have KCn : Hid (∀ wx, Hid (Jn w wx) → Calls Try.prog 48 #[.agg #[.int .i64 p0.rate, .int .i64 p0.ch, .int .i64 p0.wd, .slice a0 p0.pl.length c0], .int .i64 0, .int .i64 (lenP p0 : Int)] wx fun e w' => ∃ g cap' vs, e = .returned (.agg #[.int .i64 p0.rate, .int .i64 p0.ch, .int .i64 p0.wd, .slice (some ⟨g, 0, none⟩) p0.pl.length cap']) ∧ Hid (Jn w w') ∧ Hid (Jo w p0 w'.heap.size g p0.pl.length cap' vs p0.pl (w'.alloc (.cells #[.int .i64 p0.rate, .int .i64 p0.ch, .int .i64 p0.wd, .slice (some ⟨g, 0, none⟩) p0.pl.length cap'] 24)))) := fun wx hx => (KC wx hx.out).mono fun e w' h => by
    obtain ⟨g, cap', vs, h1, h2, h3, _, _⟩ := h
    exact ⟨g, cap', vs, h1, hx.out.next h3, Jo.of1 (hx.out.next h3) h2⟩
  have KCz : Hid (∀ q wx, Hid (JZ w q wx) → Calls Try.prog 48 #[.agg #[.int .i64 p0.rate, .int .i64 p0.ch, .int .i64 p0.wd, .slice a0 p0.pl.length c0], .int .i64 0, .int .i64 (lenP p0 : Int)] wx fun e w' => ∃ g cap' vs, e = .returned (.agg #[.int .i64 p0.rate, .int .i64 p0.ch, .int .i64 p0.wd, .slice (some ⟨g, 0, none⟩) p0.pl.length cap']) ∧ Hid (JZ w q w') ∧ Hid (CutAt w p0 q g cap' vs w')) := fun q wx hx => (KC wx hx.out.jn).mono fun e w' h => by
    obtain ⟨g, cap', vs, h1, h2, h3, h4, h5⟩ := h
    have hq := lt_of_block hx.out.bz
    exact ⟨g, cap', vs, h1, hx.out.next h3, h2, by omega, fun k hk e => by have := h5 k hk q e; omega⟩
  have HJX : Hid (jx ps p0.pl.length 1 0 = p0.pl) := jx_first ps _ p0 h0 rfl
  obtain ⟨i3, h30, h31, h32, h33⟩ := info_parts info3'
  have H3 : Hid (Try.prog.info? 3 = some i3 ∧ i3.zero = some (.int .i64 0) ∧ i3.size = 1 ∧ i3.bytes = 8) := ⟨h30, h31, h32, h33⟩
  clear h30 h31 h32 h33
  have HRG : Hid (∀ k, k < ((List.range p0.pl.length).map (joinL ps)).length → (((List.range p0.pl.length).map (joinL ps)).getD k []).length ≤ 17592186044415 ∧ ∀ n ∈ ((List.range p0.pl.length).map (joinL ps)).getD k [], -9223372036854775808 ≤ n ∧ n ≤ 9223372036854775807) := fun k hk => by
    rw [List.length_map, List.length_range] at hk
    have e : ((List.range p0.pl.length).map (joinL ps)).getD k [] = joinL ps k := by
      rw [List.getD_eq_getElem?_getD, List.getElem?_map, List.getElem?_range hk]
      rfl
    have hch : ∀ r ∈ ps, checkN r = 0 ∧ k < r.pl.length ∧ (r.pl.getD k []).length = lenP r := fun r hr => by
      obtain ⟨j, hj⟩ := List.mem_iff_getElem?.1 hr
      obtain ⟨hcr, u0, u1, u2⟩ := part_zero p0 r (HALL.out j r hj)
      have hkr := ok_parts r hcr
      have hhr := check_head_ok r hcr
      have hkl : k < r.pl.length := by omega
      exact ⟨hcr, hkl, hkr.2.2.1 k hkl⟩
    rw [e]
    refine ⟨by rw [joinL_len ps k (fun r hr => (hch r hr).2.2)]; omega, fun n hn => ?_⟩
    obtain ⟨j, hj, rfl⟩ := List.mem_iff_getElem.1 hn
    have := join_range ps k j (fun r hr => ⟨(hch r hr).1, (hch r hr).2.1⟩)
    rwa [List.getD_eq_getElem?_getD, List.getElem?_eq_getElem hj] at this
  clear KC
  have HPL : Hid ((p0.pl.length : Int) = p0.ch ∧ 1 ≤ p0.ch ∧ p0.ch ≤ 8) := ⟨hplen, pc1, pc2⟩
  have HL0 : Hid (lenP p0 ≤ 1048576) := hl0
  have HSM : Hid (sumL ps ≤ 1048576) := hsm
  clear h hcz hr0 hne hje hz hc0 hh0 hpl0 hps hd0 hplen h0 pr1 pr2 pc1 pc2 pw1 pw2 hf0 hl0 hsm
  go_enter Try.func21, Try.ntmps21
  go_wp2_with fail
  generalize hwa : World.alloc _ _ = wa
  have HA : Hid (Jn w wa) := by
    rw [← hwa]
    exact HJ.out
  clear hwa HJ
  generalize Value.bool ((ps.length : Int) == 0) = v12
  go_loopw [4, 5] (fun n t wr => ∃ i : Nat, i ≤ ps.length ∧ t = .int .i64 (i : Int) ∧ n = .int .i64 (sumL (ps.take i) : Int) ∧ sumL (ps.take i) ≤ i * 1048576 ∧ Jn w wr) (fun _ t _ => ps.length - (intOf t).toNat)
  case atStart => exact ⟨0, Nat.zero_le _, rfl, rfl, Nat.le_refl _, HA.out⟩
  case round =>
    clear HA
    obtain ⟨i, hi, rfl, rfl, hsum, hj⟩ := hrel
    have HJ : Hid (Jn w wr) := hj
    clear hj
    obtain ⟨N, hN⟩ : ∃ N, sumL (ps.take i) = N := ⟨_, rfl⟩
    rw [hN] at hsum ⊢
    have HNN : Hid (sumL (ps.take i) = N) := hN
    clear hN
    by_cases hlt : i < ps.length
    · obtain ⟨p, hp⟩ : ∃ p, ps[i]? = some p := ⟨ps[i], List.getElem?_eq_getElem hlt⟩
      obtain ⟨b', off', a, c, he, hcell, hrow, hfair⟩ := HH.out.at i p hp
      cases he
      obtain ⟨d0, d1, d2, d3⟩ := hcell wr HJ.out.below
      have kc := rcheck_spec p a c wr (hrow.below HJ.out.below)
      have KL : Hid (∀ wx, Hid (Jn w wx) → Calls Try.prog 13 #[pcmV p a c] wx fun e w' => e = .returned (.int .i64 (lenP p : Int)) ∧ Hid (Jn w w')) := fun wx hx => (rlen_spec p a c wx (hrow.below hx.out.below)).mono fun e w' h => ⟨h.1, hx.out.next h.2⟩
      have HCL : Hid (∀ wx, Below w.heap.size w wx → wx.cell? ⟨b, off + i * 4, none⟩ = some (.int .i64 p.rate) ∧ wx.cell? ⟨b, off + i * 4 + 1, none⟩ = some (.int .i64 p.ch) ∧ wx.cell? ⟨b, off + i * 4 + 2, none⟩ = some (.int .i64 p.wd) ∧ wx.cell? ⟨b, off + i * 4 + 3, none⟩ = some (.slice a p.pl.length c)) := hcell
      obtain ⟨hc, q0, q1, q2⟩ := part_zero p0 p (HALL.out i p hp)
      obtain ⟨_, hl20, _⟩ := check_zero p hc
      have HST : Hid (sumL (ps.take (i + 1)) = N + lenP p) := by
        show _ = _
        rw [sumL_take ps i p hp, HNN.out]
      rw [hc] at kc
      have b0 : (p.rate != p0.rate) = false := by simp [q0]
      have b1 : (p.ch != p0.ch) = false := by simp [q1]
      have b2 : (p.wd != p0.wd) = false := by simp [q2]
      clear hrow hcell hfair hc hp HNN q0 q1 q2
      go_wp2_with fail
      refine kc.mono ?_
      rintro e w5 ⟨rfl, hB5⟩
      have HJ5 : Hid (Jn w w5) := HJ.out.next hB5
      obtain ⟨g0, g1, g2, g3⟩ := HCL.out w5 HJ5.out.below
      obtain ⟨y0, y1, y2, _⟩ := HZ.out w5 HJ5.out.below
      clear hB5 d0 d1 d2 d3 kc HJ
      have HJ := HJ5
      clear HJ5
      go_wp2_with fail
      go_quiet (fail)
      go_wp2_with fail
      refine (KL.out _ ?_).mono ?_
      · exact HJ.out.drewN _
      rintro e w6 ⟨rfl, hj6⟩
      go_wp2_with fail
      go_roundw
      case rel => exact ⟨i + 1, by omega, by go_num, by rw [HST.out]; go_num, by rw [HST.out]; omega, hj6.out⟩
      case measure => simp [intOf]; omega
    · have hie : i = ps.length := by omega
      have hNg : N ≤ 1048576 := by
        have := HNN.out
        have hs := HSM.out
        rw [hie, List.take_length] at this
        omega
      have HJD : Hid (Jn w wr.drew) := HJ.out.drew
      have HSS : Hid (∀ wx, Hid (Jn w wx) → wx.cell? ⟨b, off, none⟩ = some (.int .i64 p0.rate) ∧ wx.cell? ⟨b, off + 1, none⟩ = some (.int .i64 p0.ch) ∧ wx.cell? ⟨b, off + 2, none⟩ = some (.int .i64 p0.wd) ∧ wx.cell? ⟨b, off + 3, none⟩ = some (.slice a0 p0.pl.length c0)) := fun wx hx => HZ.out wx hx.out.below
      clear HNN HJ
      go_wp2_with fail
      refine wp_region_held_drew (S := fun wx => wx.cell? ⟨b, off, none⟩ = some (.int .i64 p0.rate) ∧ wx.cell? ⟨b, off + 1, none⟩ = some (.int .i64 p0.ch) ∧ wx.cell? ⟨b, off + 2, none⟩ = some (.int .i64 p0.wd) ∧ wx.cell? ⟨b, off + 3, none⟩ = some (.slice a0 p0.pl.length c0)) (by kernel_rfl) (HSS.out _ HJD) (fun hS => ?_)
      refine wpAnyH_take (i := 0) (v := .slice (some ⟨b, off, none⟩) ps.length cap) rfl (by kernel_rfl) (by kernel_rfl) (by kernel_rfl) (fun _ _ _ h => h) (Or.inl ⟨by rfl, fun w hSw => by obtain ⟨s1, s2, s3, s4⟩ := hSw; go_simp⟩) hS ?_
      simp only [Act.put, List.getElem_toArray, List.getElem_cons_succ, List.getElem_cons_zero, List.setIfInBounds_toArray, List.set_cons_zero, List.set_cons_succ]
      refine wpAnyH_take (i := 1) (v := .pointer (some ⟨b, off, none⟩)) rfl (by kernel_rfl) (by kernel_rfl) (by kernel_rfl) (fun _ _ _ h => h) (Or.inl ⟨by rfl, fun w hSw => by obtain ⟨s1, s2, s3, s4⟩ := hSw; go_simp⟩) hS ?_
      simp only [Act.put, List.getElem_toArray, List.getElem_cons_succ, List.getElem_cons_zero, List.setIfInBounds_toArray, List.set_cons_zero, List.set_cons_succ]
      refine wpAnyH_take (i := 2) (v := .agg #[.int .i64 p0.rate, .int .i64 p0.ch, .int .i64 p0.wd, .slice a0 p0.pl.length c0]) rfl (by kernel_rfl) (by kernel_rfl) (by kernel_rfl) (fun _ _ _ h => h) (Or.inl ⟨by rfl, fun w hSw => by obtain ⟨s1, s2, s3, s4⟩ := hSw; go_simp⟩) hS ?_
      simp only [Act.put, List.getElem_toArray, List.getElem_cons_succ, List.getElem_cons_zero, List.setIfInBounds_toArray, List.set_cons_zero, List.set_cons_succ]
      refine wpAnyH_take (i := 3) (v := .slice (some ⟨b, off, none⟩) ps.length cap) rfl (by kernel_rfl) (by kernel_rfl) (by kernel_rfl) (fun _ _ _ h => h) (Or.inl ⟨by rfl, fun w hSw => by obtain ⟨s1, s2, s3, s4⟩ := hSw; go_simp⟩) hS ?_
      simp only [Act.put, List.getElem_toArray, List.getElem_cons_succ, List.getElem_cons_zero, List.setIfInBounds_toArray, List.set_cons_zero, List.set_cons_succ]
      refine wpAnyH_take (i := 4) (v := .pointer (some ⟨b, off, none⟩)) rfl (by kernel_rfl) (by kernel_rfl) (by kernel_rfl) (fun _ _ _ h => h) (Or.inl ⟨by rfl, fun w hSw => by obtain ⟨s1, s2, s3, s4⟩ := hSw; go_simp⟩) hS ?_
      simp only [Act.put, List.getElem_toArray, List.getElem_cons_succ, List.getElem_cons_zero, List.setIfInBounds_toArray, List.set_cons_zero, List.set_cons_succ]
      refine wpAnyH_take (i := 5) (v := .agg #[.int .i64 p0.rate, .int .i64 p0.ch, .int .i64 p0.wd, .slice a0 p0.pl.length c0]) rfl (by kernel_rfl) (by kernel_rfl) (by kernel_rfl) (fun _ _ _ h => h) (Or.inl ⟨by rfl, fun w hSw => by obtain ⟨s1, s2, s3, s4⟩ := hSw; go_simp⟩) hS ?_
      simp only [Act.put, List.getElem_toArray, List.getElem_cons_succ, List.getElem_cons_zero, List.setIfInBounds_toArray, List.set_cons_zero, List.set_cons_succ]
      refine wpAnyH_ready (rs := [6, 8]) (by kernel_rfl) (by simp) ?_
      refine AllReadyH.cons rfl (fun K hK => ?_) ?_
      · go_simp
        refine (KLn.out _ HJD).mono ?_
        rintro e w4 ⟨rfl, h4⟩
        refine hK.out _ _ (HSS.out _ h4) (fun hS4 => ?_)
        clear hK K
        refine wpAnyH_ready (rs := [7, 8]) (by kernel_rfl) (by simp) ?_
        refine AllReadyH.cons rfl (fun K hK => ?_) ?_
        · go_simp
          refine (KCn.out _ h4).mono ?_
          rintro e w5 ⟨g, cap', vs, rfl, j5, o5⟩
          refine hK.out _ _ (HSS.out _ j5) (fun hS5 => ?_)
          clear hK K
          refine wpAnyH_ready (rs := [8]) (by kernel_rfl) (by simp) ?_
          refine AllReadyH.cons rfl (fun K hK => ?_) AllReadyH.nil
          go_simp
          refine hK.out _ _ (HSS.out _ (show Hid (Jn w _) from (JZ.new j5.out).jn)) (fun hS6 => ?_)
          clear hK K
          refine wpAnyH_ready (rs := [9]) (by kernel_rfl) (by simp) ?_
          refine AllReadyH.cons rfl (fun K hK => ?_) AllReadyH.nil
          go_simp
          generalize hwj : World.alloc _ _ = wj
          have HJO : Hid (Jo w p0 w5.heap.size g p0.pl.length cap' vs p0.pl wj) := by
            rw [← hwj]
            exact o5.out
          clear hwj
          refine hK.out _ _ (HZ.out _ HJO.out.below) (fun hS7 => ?_)
          refine wpAnyH_done (by kernel_rfl) ?_ _
          clear hK K
          generalize hQQ : w5.heap.size = QQ at *
          clear hQQ
          go_wp2_with fail
          go_loopw [8, 9] (fun t s9 wr' => ∃ i : Nat, 1 ≤ i ∧ i ≤ ps.length ∧ t = .int .i64 (i : Int) ∧ ∃ vs, Jo w p0 QQ g p0.pl.length cap' vs (jx ps p0.pl.length i 0) wr') (fun t _ _ => ps.length - (intOf t).toNat)
          case atStart => exact ⟨1, by omega, by omega, rfl, vs, by rw [HJX.out]; exact HJO.out⟩
          case round =>
            clear HJO
            obtain ⟨i, hi1, hi, rfl, vs, hjo⟩ := hrel
            have HO : Hid (Jo w p0 QQ g p0.pl.length cap' vs (jx ps p0.pl.length i 0) wr) := hjo
            clear hjo
            by_cases hlt : i < ps.length
            · obtain ⟨p, hp⟩ : ∃ p, ps[i]? = some p := ⟨ps[i], List.getElem?_eq_getElem hlt⟩
              obtain ⟨b', off', a, c, he, hcell, hrow, hfair⟩ := HH.out.at i p hp
              cases he
              obtain ⟨hcp, q0, q1, q2⟩ := part_zero p0 p (HALL.out i p hp)
              have hkp := ok_parts p hcp
              have hhp := check_head_ok p hcp
              have HPP : Hid (p.pl.length = p0.pl.length) := by
                have := HPL.out
                show _ = _
                omega
              have HROW : Hid (RowsAt w a p.pl) := hrow
              have HCEL : Hid (∀ wx, Below w.heap.size w wx → wx.cell? ⟨b, off + i * 4 + 3, none⟩ = some (.slice a p.pl.length c)) := fun wx hx => (hcell wx hx).2.2.2
              have HLEN : Hid (∀ k, k < p0.pl.length → (p.pl.getD k []).length = lenP p ∧ (joinL (ps.take i) k).length + lenP p ≤ 1048576) := fun k hk => by
                have h1 := hkp.2.2.1 k (by rw [HPP.out]; exact hk)
                have h2 := joinL_len (ps.take i) k (fun r hr => by
                  obtain ⟨j, hj⟩ := List.mem_iff_getElem?.1 (List.mem_of_mem_take hr)
                  obtain ⟨hcr, u0, u1, u2⟩ := part_zero p0 r (HALL.out j r hj)
                  have hkr := ok_parts r hcr
                  have hhr := check_head_ok r hcr
                  have := HPL.out
                  exact hkr.2.2.1 k (by omega))
                have h3 := sumL_take ps i p hp
                have h4 := sumL_pre ps (i + 1)
                have h5 := HSM.out
                exact ⟨h1, by omega⟩
              have HJS : Hid (∀ k, k < p0.pl.length → jx ps p0.pl.length i (k + 1) = (jx ps p0.pl.length i k).set k ((jx ps p0.pl.length i k).getD k [] ++ p.pl.getD k [])) := fun k hk => jx_step ps _ i k p hk hp
              have HJG : Hid (∀ k, k < p0.pl.length → (jx ps p0.pl.length i k).getD k [] = joinL (ps.take i) k) := fun k hk => by rw [jx_get _ _ _ _ _ hk, if_neg (Nat.lt_irrefl _)]
              clear hcell hrow hfair hcp q0 q1 q2 hkp hhp
              go_wp2_with fail
              go_loopw [9] (fun t wr' => ∃ k : Nat, k ≤ p0.pl.length ∧ t = .int .i64 (k : Int) ∧ ∃ vs, Jo w p0 QQ g p0.pl.length cap' vs (jx ps p0.pl.length i k) wr') (fun t _ => p0.pl.length - (intOf t).toNat)
              case atStart => exact ⟨0, Nat.zero_le _, rfl, vs, HO.out⟩
              case round =>
                clear HO
                obtain ⟨k, hk, rfl, vs, hjo⟩ := hrel
                have HO : Hid (Jo w p0 QQ g p0.pl.length cap' vs (jx ps p0.pl.length i k) wr) := hjo
                clear hjo
                have y3 : wr.cell? ⟨QQ, 3, none⟩ = some (.slice (some ⟨g, 0, none⟩) p0.pl.length cap') := HO.out.qc 3 _ rfl
                have hk8 : p0.pl.length ≤ 8 := by have := HPL.out; omega
                by_cases hlk : k < p0.pl.length
                · obtain ⟨ba, oa, xa, xc, ea, hlc, hnc, hcc, hin⟩ := HROW.out.at2 k (by rw [HPP.out]; exact hlk)
                  subst ea
                  obtain ⟨hl1, hl2⟩ := HLEN.out k hlk
                  obtain ⟨lk, hlkk⟩ : ∃ lk, joinL (ps.take i) k = lk := ⟨_, rfl⟩
                  obtain ⟨lq, hlq⟩ : ∃ lq, p.pl.getD k [] = lq := ⟨_, rfl⟩
                  rw [hlkk] at hl2
                  rw [hlq] at hlc hcc hin hl1
                  obtain ⟨lp, hlp⟩ : ∃ lp, lq.length = lp := ⟨_, rfl⟩
                  rw [hlp] at hlc hcc hl1
                  rw [← hl1] at hl2
                  have HLP : Hid (lq.length = lp) := hlp
                  have HLK : Hid (lk.length + lp ≤ 1048576) := hl2
                  have HX0 : Hid (xa = none → lp = 0 ∧ xc = 0) := fun q => by
                    have := hnc q
                    exact ⟨by omega, this⟩
                  have HGD : Hid ((jx ps p0.pl.length i k).getD k [] = lk) := (HJG.out k hlk).trans hlkk
                  have HST : Hid (jx ps p0.pl.length i (k + 1) = (jx ps p0.pl.length i k).set k (lk ++ lq)) := by
                    have := HJS.out k hlk
                    rwa [HGD.out, hlq] at this
                  have HNW : Hid (∀ wx, Below w.heap.size w wx → ∀ ad, xa = some ad → ∀ j u, (intsC lq)[j]? = some u → wx.cell? (ad.add j) = some u) := fun wx hwx ad ha j u hj => ints_news hin wx hwx ad ha j u hj
                  have HSS2 : Hid (∀ wx, Below w.heap.size w wx → wx.cell? ⟨b, off + i * 4 + 3, none⟩ = some (.slice (some ⟨ba, oa, none⟩) p.pl.length c) ∧ wx.cell? ⟨ba, oa + k, none⟩ = some (.slice xa lp xc)) := fun wx hwx => ⟨HCEL.out wx hwx, hcc wx hwx⟩
                  have HOD : Hid (Jo w p0 QQ g p0.pl.length cap' vs (jx ps p0.pl.length i k) wr.drew) := HO.out.drew
                  have ho : wr.drew.ownsRow (w.heap.size + 1) 3 1 (vs.getD k noS) lk.length (intsC lk) := by
                    have := HOD.out.mat.inner k (by rw [jx_len]; exact hlk)
                    rwa [HGD.out] at this
                  obtain ⟨ua, un, uc, hu⟩ := owns_shape ho
                  have HUD : Hid (vs.getD k noS = .slice ua un uc) := hu
                  rw [hu] at ho
                  have HOW : Hid (wr.drew.ownsRow (w.heap.size + 1) 3 1 (.slice ua un uc) lk.length (intsC lk)) := ho
                  have o0 : wr.drew.cell? ⟨g, k, none⟩ = some (.slice ua un uc) := by
                    have := (HOD.out.row k hlk).1
                    rwa [hu] at this
                  have HSZ : Hid (w.heap.size + 1 ≤ wr.drew.heap.size) := by
                    have := HOD.out.g1
                    show _ ≤ _
                    omega
                  have HPU : Hid (∀ v8 w8, wr.drew.grownBy w8 (Value.slice ua un uc).ownBlock → w8.ownsRow (w.heap.size + 1) 3 1 v8 (lk.length + lp) (intsC lk ++ intsC lq) → (v8.ownBlock = (Value.slice ua un uc).ownBlock ∨ v8.ownBlock = some wr.drew.heap.size) →
                      w8.cell? ⟨QQ, 3, none⟩ = some (.slice (some ⟨g, 0, none⟩) p0.pl.length cap') ∧ w8.cell? ⟨g, k, none⟩ = some (.slice ua un uc) ∧ w8.frozen? ⟨g, k, none⟩ = false ∧ Below w.heap.size w w8 ∧ Jo w p0 QQ g p0.pl.length cap' (vs.set k v8) (jx ps p0.pl.length i (k + 1)) (w8.setCell ⟨g, k, none⟩ v8)) := fun v8 w8 hg hw hb => by
                    rw [← HUD.out] at hg hb ⊢
                    rw [← HGD.out] at hw
                    obtain ⟨t1, t2, t3⟩ := HOD.out.kept2 k hlk hg
                    have h5 := HOD.out.push k hlk hg HLP.out hw hb
                    rw [HGD.out, ← HST.out] at h5
                    exact ⟨t1, t2, t3, HOD.out.grown k hlk hg, h5⟩
                  have hS0 : wr.drew.cell? ⟨QQ, 3, none⟩ = some (.slice (some ⟨g, 0, none⟩) p0.pl.length cap') ∧ wr.drew.cell? ⟨b, off + i * 4 + 3, none⟩ = some (.slice (some ⟨ba, oa, none⟩) p.pl.length c) ∧ wr.drew.cell? ⟨ba, oa + k, none⟩ = some (.slice xa lp xc) := ⟨HOD.out.qc 3 _ rfl, HSS2.out _ HOD.out.below⟩
                  have hpk : k < p.pl.length := by rw [HPP.out]; exact hlk
                  have HKL : Hid (k + 1 ≤ p0.pl.length) := hlk
                  clear hlc hnc hcc hin hl1 hl2 hlkk hlq hlp hu ho HO
                  go_wp2_with fail
                  refine wp_region_held_drew (S := fun wx => wx.cell? ⟨QQ, 3, none⟩ = some (.slice (some ⟨g, 0, none⟩) p0.pl.length cap') ∧ wx.cell? ⟨b, off + i * 4 + 3, none⟩ = some (.slice (some ⟨ba, oa, none⟩) p.pl.length c) ∧ wx.cell? ⟨ba, oa + k, none⟩ = some (.slice xa lp xc)) (by kernel_rfl) hS0 (fun hS => ?_)
                  refine wpAnyH_take (i := 0) (v := .pointer (some ⟨QQ, 3, none⟩)) rfl (by kernel_rfl) (by kernel_rfl) (by kernel_rfl) (fun _ _ _ h => h) (Or.inl ⟨by rfl, fun w hSw => by obtain ⟨s1, s2, s3⟩ := hSw; go_simp⟩) hS ?_
                  simp only [Act.put, List.getElem_toArray, List.getElem_cons_succ, List.getElem_cons_zero, List.setIfInBounds_toArray, List.set_cons_zero, List.set_cons_succ]
                  refine wpAnyH_take (i := 1) (v := .slice (some ⟨g, 0, none⟩) p0.pl.length cap') rfl (by kernel_rfl) (by kernel_rfl) (by kernel_rfl) (fun _ _ _ h => h) (Or.inl ⟨by rfl, fun w hSw => by obtain ⟨s1, s2, s3⟩ := hSw; go_simp⟩) hS ?_
                  simp only [Act.put, List.getElem_toArray, List.getElem_cons_succ, List.getElem_cons_zero, List.setIfInBounds_toArray, List.set_cons_zero, List.set_cons_succ]
                  refine wpAnyH_take (i := 2) (v := .int .i64 (k : Int)) rfl (by kernel_rfl) (by kernel_rfl) (by kernel_rfl) (fun _ _ _ h => h) (Or.inl ⟨by rfl, fun w hSw => by obtain ⟨s1, s2, s3⟩ := hSw; go_simp⟩) hS ?_
                  simp only [Act.put, List.getElem_toArray, List.getElem_cons_succ, List.getElem_cons_zero, List.setIfInBounds_toArray, List.set_cons_zero, List.set_cons_succ]
                  refine wpAnyH_take (i := 3) (v := .pointer (some ⟨QQ, 3, none⟩)) rfl (by kernel_rfl) (by kernel_rfl) (by kernel_rfl) (fun _ _ _ h => h) (Or.inl ⟨by rfl, fun w hSw => by obtain ⟨s1, s2, s3⟩ := hSw; go_simp⟩) hS ?_
                  simp only [Act.put, List.getElem_toArray, List.getElem_cons_succ, List.getElem_cons_zero, List.setIfInBounds_toArray, List.set_cons_zero, List.set_cons_succ]
                  refine wpAnyH_take (i := 4) (v := .slice (some ⟨g, 0, none⟩) p0.pl.length cap') rfl (by kernel_rfl) (by kernel_rfl) (by kernel_rfl) (fun _ _ _ h => h) (Or.inl ⟨by rfl, fun w hSw => by obtain ⟨s1, s2, s3⟩ := hSw; go_simp⟩) hS ?_
                  simp only [Act.put, List.getElem_toArray, List.getElem_cons_succ, List.getElem_cons_zero, List.setIfInBounds_toArray, List.set_cons_zero, List.set_cons_succ]
                  refine wpAnyH_take (i := 5) (v := .int .i64 (k : Int)) rfl (by kernel_rfl) (by kernel_rfl) (by kernel_rfl) (fun _ _ _ h => h) (Or.inl ⟨by rfl, fun w hSw => by obtain ⟨s1, s2, s3⟩ := hSw; go_simp⟩) hS ?_
                  simp only [Act.put, List.getElem_toArray, List.getElem_cons_succ, List.getElem_cons_zero, List.setIfInBounds_toArray, List.set_cons_zero, List.set_cons_succ]
                  refine wpAnyH_take (i := 6) (v := .pointer (some ⟨g, k, none⟩)) rfl (by kernel_rfl) (by kernel_rfl) (by kernel_rfl) (fun _ _ _ h => h) (Or.inl ⟨by rfl, fun w hSw => by obtain ⟨s1, s2, s3⟩ := hSw; go_simp⟩) hS ?_
                  simp only [Act.put, List.getElem_toArray, List.getElem_cons_succ, List.getElem_cons_zero, List.setIfInBounds_toArray, List.set_cons_zero, List.set_cons_succ]
                  refine wpAnyH_take (i := 8) (v := .slice (some ⟨b, off, none⟩) ps.length cap) rfl (by kernel_rfl) (by kernel_rfl) (by kernel_rfl) (fun _ _ _ h => h) (Or.inl ⟨by rfl, fun w hSw => by obtain ⟨s1, s2, s3⟩ := hSw; go_simp⟩) hS ?_
                  simp only [Act.put, List.getElem_toArray, List.getElem_cons_succ, List.getElem_cons_zero, List.setIfInBounds_toArray, List.set_cons_zero, List.set_cons_succ]
                  refine wpAnyH_take (i := 9) (v := .int .i64 (i : Int)) rfl (by kernel_rfl) (by kernel_rfl) (by kernel_rfl) (fun _ _ _ h => h) (Or.inl ⟨by rfl, fun w hSw => by obtain ⟨s1, s2, s3⟩ := hSw; go_simp⟩) hS ?_
                  simp only [Act.put, List.getElem_toArray, List.getElem_cons_succ, List.getElem_cons_zero, List.setIfInBounds_toArray, List.set_cons_zero, List.set_cons_succ]
                  refine wpAnyH_take (i := 10) (v := .pointer (some ⟨b, off + i * 4, none⟩)) rfl (by kernel_rfl) (by kernel_rfl) (by kernel_rfl) (fun _ _ _ h => h) (Or.inl ⟨by rfl, fun w hSw => by obtain ⟨s1, s2, s3⟩ := hSw; go_simp⟩) hS ?_
                  simp only [Act.put, List.getElem_toArray, List.getElem_cons_succ, List.getElem_cons_zero, List.setIfInBounds_toArray, List.set_cons_zero, List.set_cons_succ]
                  refine wpAnyH_take (i := 11) (v := .pointer (some ⟨b, off + i * 4 + 3, none⟩)) rfl (by kernel_rfl) (by kernel_rfl) (by kernel_rfl) (fun _ _ _ h => h) (Or.inl ⟨by rfl, fun w hSw => by obtain ⟨s1, s2, s3⟩ := hSw; go_simp⟩) hS ?_
                  simp only [Act.put, List.getElem_toArray, List.getElem_cons_succ, List.getElem_cons_zero, List.setIfInBounds_toArray, List.set_cons_zero, List.set_cons_succ]
                  refine wpAnyH_take (i := 12) (v := .slice (some ⟨ba, oa, none⟩) p.pl.length c) rfl (by kernel_rfl) (by kernel_rfl) (by kernel_rfl) (fun _ _ _ h => h) (Or.inl ⟨by rfl, fun w hSw => by obtain ⟨s1, s2, s3⟩ := hSw; go_simp⟩) hS ?_
                  simp only [Act.put, List.getElem_toArray, List.getElem_cons_succ, List.getElem_cons_zero, List.setIfInBounds_toArray, List.set_cons_zero, List.set_cons_succ]
                  refine wpAnyH_take (i := 13) (v := .int .i64 (k : Int)) rfl (by kernel_rfl) (by kernel_rfl) (by kernel_rfl) (fun _ _ _ h => h) (Or.inl ⟨by rfl, fun w hSw => by obtain ⟨s1, s2, s3⟩ := hSw; go_simp⟩) hS ?_
                  simp only [Act.put, List.getElem_toArray, List.getElem_cons_succ, List.getElem_cons_zero, List.setIfInBounds_toArray, List.set_cons_zero, List.set_cons_succ]
                  refine wpAnyH_take (i := 14) (v := .pointer (some ⟨ba, oa + k, none⟩)) rfl (by kernel_rfl) (by kernel_rfl) (by kernel_rfl) (fun _ _ _ h => h) (Or.inl ⟨by rfl, fun w hSw => by obtain ⟨s1, s2, s3⟩ := hSw; go_simp⟩) hS ?_
                  simp only [Act.put, List.getElem_toArray, List.getElem_cons_succ, List.getElem_cons_zero, List.setIfInBounds_toArray, List.set_cons_zero, List.set_cons_succ]
                  refine wpAnyH_take (i := 15) (v := .slice xa lp xc) rfl (by kernel_rfl) (by kernel_rfl) (by kernel_rfl) (fun _ _ _ h => h) (Or.inl ⟨by rfl, fun w hSw => by obtain ⟨s1, s2, s3⟩ := hSw; go_simp⟩) hS ?_
                  simp only [Act.put, List.getElem_toArray, List.getElem_cons_succ, List.getElem_cons_zero, List.setIfInBounds_toArray, List.set_cons_zero, List.set_cons_succ]
                  refine wpAnyH_ready (rs := [7]) (by kernel_rfl) (by simp) ?_
                  refine AllReadyH.cons rfl (fun K hK => ?_) AllReadyH.nil
                  go_simp
                  refine hK.out _ _ hS (fun hSa => ?_)
                  clear hK K
                  refine wpAnyH_ready (rs := [16]) (by kernel_rfl) (by simp) ?_
                  refine AllReadyH.cons rfl (fun K hK => ?_) AllReadyH.nil
                  refine step_append_src _ rfl (.tmp 102) (.tmp 110) 45 rfl (w.heap.size + 1) 3 i3 (.int .i64 0) 8 Try.underlying45 H3.out.1 H3.out.2.1 H3.out.2.2.1 H3.out.2.2.2 rfl (.slice ua un uc) lk.length (intsC lk) rfl HOW.out xa lp xc (intsC lq) rfl HX0.out (by rw [intsC_length]; exact HLP.out) (HNW.out _ HOD.out.below) (intsC_one _) (by have := HLK.out; simp only [maxLen]; omega) (by have := HLK.out; omega) HSZ.out ?_
                  intro v8 w8 ho8 hg8 hb8
                  obtain ⟨va, vn, vc, rfl⟩ := owns_shape ho8.out
                  obtain ⟨C81, C82, C83, C85, C84⟩ := HPU.out _ _ hg8.out ho8.out hb8.out
                  have HC8 : Hid (Jo w p0 QQ g p0.pl.length cap' (vs.set k (.slice va vn vc)) (jx ps p0.pl.length i (k + 1)) (w8.setCell ⟨g, k, none⟩ (.slice va vn vc))) := C84
                  refine hK.out _ _ ⟨C81, HSS2.out _ C85⟩ (fun hS8 => ?_)
                  clear hK K C84
                  refine wpAnyH_take (i := 17) (v := .pointer (some ⟨g, k, none⟩)) rfl (by kernel_rfl) (by kernel_rfl) (by kernel_rfl) (fun _ _ _ h => h) (Or.inl ⟨by rfl, fun w hSw => by obtain ⟨s1, s2, s3⟩ := hSw; go_simp⟩) hS8 ?_
                  simp only [Act.put, List.getElem_toArray, List.getElem_cons_succ, List.getElem_cons_zero, List.setIfInBounds_toArray, List.set_cons_zero, List.set_cons_succ]
                  refine wpAnyH_ready (rs := [18]) (by kernel_rfl) (by simp) ?_
                  refine AllReadyH.cons rfl (fun K hK => ?_) AllReadyH.nil
                  go_simp
                  refine hK.out _ _ ⟨HC8.out.qc 3 _ rfl, HSS2.out _ HC8.out.below⟩ (fun hS9 => ?_)
                  refine wpAnyH_done (by kernel_rfl) ?_ _
                  clear hK K
                  go_wp2_with fail
                  go_roundw
                  case rel => exact ⟨k + 1, HKL.out, by go_num, vs.set k (.slice va vn vc), HC8.out⟩
                  case measure =>
                    have := HKL.out
                    simp [intOf]
                    omega
                · have hkn : k = p0.pl.length := by omega
                  subst hkn
                  have HN2 : Hid (Jo w p0 QQ g p0.pl.length cap' vs (jx ps p0.pl.length (i + 1) 0) wr) := by
                    have := HO.out
                    rwa [jx_next] at this
                  clear HO
                  go_wp2_with fail
                  go_roundw
                  case rel => exact ⟨i + 1, by omega, by omega, by go_num, vs, HN2.out⟩
                  case measure => simp [intOf]; omega
            · have hie : i = ps.length := by omega
              subst hie
              have HMT : Hid (OwnMat 45 (w.heap.size + 1) wr (.slice (some ⟨g, 0, none⟩) p0.pl.length cap') vs ((List.range p0.pl.length).map (joinL ps))) := by
                have := HO.out.mat
                rwa [jx_last] at this
              have HRS : Hid (wr.heap[w.heap.size]? = some (.cells zeroP 24 (0, 0))) := HO.out.res
              have HBL : Hid (Below w.heap.size w wr) := HO.out.below
              have m0 : wr.cell? ⟨QQ, 0, none⟩ = some (.int .i64 p0.rate) := HO.out.qc 0 _ rfl
              have m1 : wr.cell? ⟨QQ, 1, none⟩ = some (.int .i64 p0.ch) := HO.out.qc 1 _ rfl
              have m2 : wr.cell? ⟨QQ, 2, none⟩ = some (.int .i64 p0.wd) := HO.out.qc 2 _ rfl
              have m3 : wr.cell? ⟨QQ, 3, none⟩ = some (.slice (some ⟨g, 0, none⟩) p0.pl.length cap') := HO.out.qc 3 _ rfl
              have r0 : wr.cell? ⟨w.heap.size, 0, none⟩ = some (.int .i64 0) := by rw [cell_of_row _ _ _ _ _ _ HRS.out]; rfl
              have r1 : wr.cell? ⟨w.heap.size, 1, none⟩ = some (.int .i64 0) := by rw [cell_of_row _ _ _ _ _ _ HRS.out]; rfl
              have r2 : wr.cell? ⟨w.heap.size, 2, none⟩ = some (.int .i64 0) := by rw [cell_of_row _ _ _ _ _ _ HRS.out]; rfl
              have r3 : wr.cell? ⟨w.heap.size, 3, none⟩ = some (.slice none 0 0) := by rw [cell_of_row _ _ _ _ _ _ HRS.out]; rfl
              have hrs := HRS.out
              have z0 : wr.frozen? ⟨w.heap.size, 0, none⟩ = false := by simp [World.frozen?, hrs]
              have z1 : wr.frozen? ⟨w.heap.size, 1, none⟩ = false := by simp [World.frozen?, hrs]
              have z2 : wr.frozen? ⟨w.heap.size, 2, none⟩ = false := by simp [World.frozen?, hrs]
              have z3 : wr.frozen? ⟨w.heap.size, 3, none⟩ = false := by simp [World.frozen?, hrs]
              clear hrs HO hi hi1 hlt
              go_wp2_with fail
              generalize hwf : (((wr.setCell ⟨w.heap.size, 0, none⟩ (.int .i64 p0.rate)).setCell ⟨w.heap.size, 1, none⟩ (.int .i64 p0.ch)).setCell ⟨w.heap.size, 2, none⟩ (.int .i64 p0.wd)).setCell ⟨w.heap.size, 3, none⟩ (.slice (some ⟨g, 0, none⟩) p0.pl.length cap') = wf
              have hrow : wf.heap[w.heap.size]? = some (.cells #[.int .i64 p0.rate, .int .i64 p0.ch, .int .i64 p0.wd, .slice (some ⟨g, 0, none⟩) p0.pl.length cap'] 24 (0, 0)) := by
                rw [← hwf, block_set _ _ _ _ _ _ (block_set _ _ _ _ _ _ (block_set _ _ _ _ _ _ (block_set _ _ _ _ _ _ HRS.out)))]
                rfl
              have hbel : Below w.heap.size w wf := by
                rw [← hwf]
                exact (((HBL.out.setCell (by simp) _).setCell (by simp) _).setCell (by simp) _).setCell (by simp) _
              have hmat : OwnMat 45 (w.heap.size + 1) wf (.slice (some ⟨g, 0, none⟩) p0.pl.length cap') vs ((List.range p0.pl.length).map (joinL ps)) := by
                rw [← hwf]
                exact (((HMT.out.setOther (by simp) _).setOther (by simp) _).setOther (by simp) _).setOther (by simp) _
              obtain ⟨ao2, cap2, hv2, hrows2, hfr2⟩ := hmat.rows (by have := HPL.out; simp; omega) HRG.out
              have hlen2 : ((List.range p0.pl.length).map (joinL ps)).length = p0.pl.length := by simp
              rw [hlen2] at hv2
              cases hv2
              refine bodyPost_ret (v := .tuple #[.agg #[.int .i64 p0.rate, .int .i64 p0.ch, .int .i64 p0.wd, .slice (some ⟨g, 0, none⟩) p0.pl.length cap'], .int .i64 0]) ?_ rfl ⟨some ⟨g, 0, none⟩, cap', by rw [HP.out, HN.out]; show _ = Ending.returned (.tuple #[.agg #[.int .i64 p0.rate, .int .i64 p0.ch, .int .i64 p0.wd, .slice (some ⟨g, 0, none⟩) ((List.range p0.pl.length).map (joinL ps)).length cap'], .int .i64 0]); rw [hlen2], by rw [HP.out]; exact hrows2, by rw [HP.out]; exact hfr2.mono (Nat.le_add_right _ _), hbel⟩
              rw [results_two rfl]
              have hld := run_loadVar_row (P := Try.prog) wf w.heap.size 24 24 #[.int .i64 p0.rate, .int .i64 p0.ch, .int .i64 p0.wd, .slice (some ⟨g, 0, none⟩) p0.pl.length cap'] (0, 0) _ hrow Try.underlying24 rfl infoP
              simp [asAddr, Result.andThen, hld]
        · refine AllReadyH.cons rfl (fun K hK => ?_) AllReadyH.nil
          go_simp
          have j4 : Hid (JZ w w4.heap.size (w4.alloc (.cells zeroP 24))) := JZ.new h4.out
          refine hK.out _ _ (HSS.out _ (show Hid (Jn w _) from j4.out.jn)) (fun hS5 => ?_)
          clear hK K
          refine wpAnyH_ready (rs := [7]) (by kernel_rfl) (by simp) ?_
          refine AllReadyH.cons rfl (fun K hK => ?_) AllReadyH.nil
          go_simp
          refine (KCz.out _ _ j4).mono ?_
          rintro e w5 ⟨g, cap', vs, rfl, z5, c5⟩
          refine hK.out _ _ (HSS.out _ (show Hid (Jn w _) from z5.out.jn)) (fun hS6 => ?_)
          clear hK K
          refine wpAnyH_ready (rs := [9]) (by kernel_rfl) (by simp) ?_
          refine AllReadyH.cons rfl (fun K hK => ?_) AllReadyH.nil
          have r0 := z5.out.c0
          have r1 := z5.out.c1
          have r2 := z5.out.c2
          have r3 := z5.out.c3
          have z0 := z5.out.z 0
          have z1 := z5.out.z 1
          have z2 := z5.out.z 2
          have z3 := z5.out.z 3
          have HJ0 := Jo.of z5.out c5.out
          have HJ1 : Hid (Jo w p0 w4.heap.size g p0.pl.length cap' vs p0.pl _) := HJ0
          clear HJ0
          go_simp
          generalize hwj : World.setCell _ _ _ = wj
          have HJO : Hid (Jo w p0 w4.heap.size g p0.pl.length cap' vs p0.pl wj) := by
            rw [← hwj]
            exact HJ1.out
          clear hwj
          refine hK.out _ _ (HZ.out _ HJO.out.below) (fun hS7 => ?_)
          refine wpAnyH_done (by kernel_rfl) ?_ _
          clear hK K
          generalize hQQ : w4.heap.size = QQ at *
          clear hQQ
          go_wp2_with fail
          go_loopw [8, 9] (fun t s9 wr' => ∃ i : Nat, 1 ≤ i ∧ i ≤ ps.length ∧ t = .int .i64 (i : Int) ∧ ∃ vs, Jo w p0 QQ g p0.pl.length cap' vs (jx ps p0.pl.length i 0) wr') (fun t _ _ => ps.length - (intOf t).toNat)
          case atStart => exact ⟨1, by omega, by omega, rfl, vs, by rw [HJX.out]; exact HJO.out⟩
          case round =>
            clear HJO
            obtain ⟨i, hi1, hi, rfl, vs, hjo⟩ := hrel
            have HO : Hid (Jo w p0 QQ g p0.pl.length cap' vs (jx ps p0.pl.length i 0) wr) := hjo
            clear hjo
            by_cases hlt : i < ps.length
            · obtain ⟨p, hp⟩ : ∃ p, ps[i]? = some p := ⟨ps[i], List.getElem?_eq_getElem hlt⟩
              obtain ⟨b', off', a, c, he, hcell, hrow, hfair⟩ := HH.out.at i p hp
              cases he
              obtain ⟨hcp, q0, q1, q2⟩ := part_zero p0 p (HALL.out i p hp)
              have hkp := ok_parts p hcp
              have hhp := check_head_ok p hcp
              have HPP : Hid (p.pl.length = p0.pl.length) := by
                have := HPL.out
                show _ = _
                omega
              have HROW : Hid (RowsAt w a p.pl) := hrow
              have HCEL : Hid (∀ wx, Below w.heap.size w wx → wx.cell? ⟨b, off + i * 4 + 3, none⟩ = some (.slice a p.pl.length c)) := fun wx hx => (hcell wx hx).2.2.2
              have HLEN : Hid (∀ k, k < p0.pl.length → (p.pl.getD k []).length = lenP p ∧ (joinL (ps.take i) k).length + lenP p ≤ 1048576) := fun k hk => by
                have h1 := hkp.2.2.1 k (by rw [HPP.out]; exact hk)
                have h2 := joinL_len (ps.take i) k (fun r hr => by
                  obtain ⟨j, hj⟩ := List.mem_iff_getElem?.1 (List.mem_of_mem_take hr)
                  obtain ⟨hcr, u0, u1, u2⟩ := part_zero p0 r (HALL.out j r hj)
                  have hkr := ok_parts r hcr
                  have hhr := check_head_ok r hcr
                  have := HPL.out
                  exact hkr.2.2.1 k (by omega))
                have h3 := sumL_take ps i p hp
                have h4 := sumL_pre ps (i + 1)
                have h5 := HSM.out
                exact ⟨h1, by omega⟩
              have HJS : Hid (∀ k, k < p0.pl.length → jx ps p0.pl.length i (k + 1) = (jx ps p0.pl.length i k).set k ((jx ps p0.pl.length i k).getD k [] ++ p.pl.getD k [])) := fun k hk => jx_step ps _ i k p hk hp
              have HJG : Hid (∀ k, k < p0.pl.length → (jx ps p0.pl.length i k).getD k [] = joinL (ps.take i) k) := fun k hk => by rw [jx_get _ _ _ _ _ hk, if_neg (Nat.lt_irrefl _)]
              clear hcell hrow hfair hcp q0 q1 q2 hkp hhp
              go_wp2_with fail
              go_loopw [9] (fun t wr' => ∃ k : Nat, k ≤ p0.pl.length ∧ t = .int .i64 (k : Int) ∧ ∃ vs, Jo w p0 QQ g p0.pl.length cap' vs (jx ps p0.pl.length i k) wr') (fun t _ => p0.pl.length - (intOf t).toNat)
              case atStart => exact ⟨0, Nat.zero_le _, rfl, vs, HO.out⟩
              case round =>
                clear HO
                obtain ⟨k, hk, rfl, vs, hjo⟩ := hrel
                have HO : Hid (Jo w p0 QQ g p0.pl.length cap' vs (jx ps p0.pl.length i k) wr) := hjo
                clear hjo
                have y3 : wr.cell? ⟨QQ, 3, none⟩ = some (.slice (some ⟨g, 0, none⟩) p0.pl.length cap') := HO.out.qc 3 _ rfl
                have hk8 : p0.pl.length ≤ 8 := by have := HPL.out; omega
                by_cases hlk : k < p0.pl.length
                · obtain ⟨ba, oa, xa, xc, ea, hlc, hnc, hcc, hin⟩ := HROW.out.at2 k (by rw [HPP.out]; exact hlk)
                  subst ea
                  obtain ⟨hl1, hl2⟩ := HLEN.out k hlk
                  obtain ⟨lk, hlkk⟩ : ∃ lk, joinL (ps.take i) k = lk := ⟨_, rfl⟩
                  obtain ⟨lq, hlq⟩ : ∃ lq, p.pl.getD k [] = lq := ⟨_, rfl⟩
                  rw [hlkk] at hl2
                  rw [hlq] at hlc hcc hin hl1
                  obtain ⟨lp, hlp⟩ : ∃ lp, lq.length = lp := ⟨_, rfl⟩
                  rw [hlp] at hlc hcc hl1
                  rw [← hl1] at hl2
                  have HLP : Hid (lq.length = lp) := hlp
                  have HLK : Hid (lk.length + lp ≤ 1048576) := hl2
                  have HX0 : Hid (xa = none → lp = 0 ∧ xc = 0) := fun q => by
                    have := hnc q
                    exact ⟨by omega, this⟩
                  have HGD : Hid ((jx ps p0.pl.length i k).getD k [] = lk) := (HJG.out k hlk).trans hlkk
                  have HST : Hid (jx ps p0.pl.length i (k + 1) = (jx ps p0.pl.length i k).set k (lk ++ lq)) := by
                    have := HJS.out k hlk
                    rwa [HGD.out, hlq] at this
                  have HNW : Hid (∀ wx, Below w.heap.size w wx → ∀ ad, xa = some ad → ∀ j u, (intsC lq)[j]? = some u → wx.cell? (ad.add j) = some u) := fun wx hwx ad ha j u hj => ints_news hin wx hwx ad ha j u hj
                  have HSS2 : Hid (∀ wx, Below w.heap.size w wx → wx.cell? ⟨b, off + i * 4 + 3, none⟩ = some (.slice (some ⟨ba, oa, none⟩) p.pl.length c) ∧ wx.cell? ⟨ba, oa + k, none⟩ = some (.slice xa lp xc)) := fun wx hwx => ⟨HCEL.out wx hwx, hcc wx hwx⟩
                  have HOD : Hid (Jo w p0 QQ g p0.pl.length cap' vs (jx ps p0.pl.length i k) wr.drew) := HO.out.drew
                  have ho : wr.drew.ownsRow (w.heap.size + 1) 3 1 (vs.getD k noS) lk.length (intsC lk) := by
                    have := HOD.out.mat.inner k (by rw [jx_len]; exact hlk)
                    rwa [HGD.out] at this
                  obtain ⟨ua, un, uc, hu⟩ := owns_shape ho
                  have HUD : Hid (vs.getD k noS = .slice ua un uc) := hu
                  rw [hu] at ho
                  have HOW : Hid (wr.drew.ownsRow (w.heap.size + 1) 3 1 (.slice ua un uc) lk.length (intsC lk)) := ho
                  have o0 : wr.drew.cell? ⟨g, k, none⟩ = some (.slice ua un uc) := by
                    have := (HOD.out.row k hlk).1
                    rwa [hu] at this
                  have HSZ : Hid (w.heap.size + 1 ≤ wr.drew.heap.size) := by
                    have := HOD.out.g1
                    show _ ≤ _
                    omega
                  have HPU : Hid (∀ v8 w8, wr.drew.grownBy w8 (Value.slice ua un uc).ownBlock → w8.ownsRow (w.heap.size + 1) 3 1 v8 (lk.length + lp) (intsC lk ++ intsC lq) → (v8.ownBlock = (Value.slice ua un uc).ownBlock ∨ v8.ownBlock = some wr.drew.heap.size) →
                      w8.cell? ⟨QQ, 3, none⟩ = some (.slice (some ⟨g, 0, none⟩) p0.pl.length cap') ∧ w8.cell? ⟨g, k, none⟩ = some (.slice ua un uc) ∧ w8.frozen? ⟨g, k, none⟩ = false ∧ Below w.heap.size w w8 ∧ Jo w p0 QQ g p0.pl.length cap' (vs.set k v8) (jx ps p0.pl.length i (k + 1)) (w8.setCell ⟨g, k, none⟩ v8)) := fun v8 w8 hg hw hb => by
                    rw [← HUD.out] at hg hb ⊢
                    rw [← HGD.out] at hw
                    obtain ⟨t1, t2, t3⟩ := HOD.out.kept2 k hlk hg
                    have h5 := HOD.out.push k hlk hg HLP.out hw hb
                    rw [HGD.out, ← HST.out] at h5
                    exact ⟨t1, t2, t3, HOD.out.grown k hlk hg, h5⟩
                  have hS0 : wr.drew.cell? ⟨QQ, 3, none⟩ = some (.slice (some ⟨g, 0, none⟩) p0.pl.length cap') ∧ wr.drew.cell? ⟨b, off + i * 4 + 3, none⟩ = some (.slice (some ⟨ba, oa, none⟩) p.pl.length c) ∧ wr.drew.cell? ⟨ba, oa + k, none⟩ = some (.slice xa lp xc) := ⟨HOD.out.qc 3 _ rfl, HSS2.out _ HOD.out.below⟩
                  have hpk : k < p.pl.length := by rw [HPP.out]; exact hlk
                  have HKL : Hid (k + 1 ≤ p0.pl.length) := hlk
                  clear hlc hnc hcc hin hl1 hl2 hlkk hlq hlp hu ho HO
                  go_wp2_with fail
                  refine wp_region_held_drew (S := fun wx => wx.cell? ⟨QQ, 3, none⟩ = some (.slice (some ⟨g, 0, none⟩) p0.pl.length cap') ∧ wx.cell? ⟨b, off + i * 4 + 3, none⟩ = some (.slice (some ⟨ba, oa, none⟩) p.pl.length c) ∧ wx.cell? ⟨ba, oa + k, none⟩ = some (.slice xa lp xc)) (by kernel_rfl) hS0 (fun hS => ?_)
                  refine wpAnyH_take (i := 0) (v := .pointer (some ⟨QQ, 3, none⟩)) rfl (by kernel_rfl) (by kernel_rfl) (by kernel_rfl) (fun _ _ _ h => h) (Or.inl ⟨by rfl, fun w hSw => by obtain ⟨s1, s2, s3⟩ := hSw; go_simp⟩) hS ?_
                  simp only [Act.put, List.getElem_toArray, List.getElem_cons_succ, List.getElem_cons_zero, List.setIfInBounds_toArray, List.set_cons_zero, List.set_cons_succ]
                  refine wpAnyH_take (i := 1) (v := .slice (some ⟨g, 0, none⟩) p0.pl.length cap') rfl (by kernel_rfl) (by kernel_rfl) (by kernel_rfl) (fun _ _ _ h => h) (Or.inl ⟨by rfl, fun w hSw => by obtain ⟨s1, s2, s3⟩ := hSw; go_simp⟩) hS ?_
                  simp only [Act.put, List.getElem_toArray, List.getElem_cons_succ, List.getElem_cons_zero, List.setIfInBounds_toArray, List.set_cons_zero, List.set_cons_succ]
                  refine wpAnyH_take (i := 2) (v := .int .i64 (k : Int)) rfl (by kernel_rfl) (by kernel_rfl) (by kernel_rfl) (fun _ _ _ h => h) (Or.inl ⟨by rfl, fun w hSw => by obtain ⟨s1, s2, s3⟩ := hSw; go_simp⟩) hS ?_
                  simp only [Act.put, List.getElem_toArray, List.getElem_cons_succ, List.getElem_cons_zero, List.setIfInBounds_toArray, List.set_cons_zero, List.set_cons_succ]
                  refine wpAnyH_take (i := 3) (v := .pointer (some ⟨QQ, 3, none⟩)) rfl (by kernel_rfl) (by kernel_rfl) (by kernel_rfl) (fun _ _ _ h => h) (Or.inl ⟨by rfl, fun w hSw => by obtain ⟨s1, s2, s3⟩ := hSw; go_simp⟩) hS ?_
                  simp only [Act.put, List.getElem_toArray, List.getElem_cons_succ, List.getElem_cons_zero, List.setIfInBounds_toArray, List.set_cons_zero, List.set_cons_succ]
                  refine wpAnyH_take (i := 4) (v := .slice (some ⟨g, 0, none⟩) p0.pl.length cap') rfl (by kernel_rfl) (by kernel_rfl) (by kernel_rfl) (fun _ _ _ h => h) (Or.inl ⟨by rfl, fun w hSw => by obtain ⟨s1, s2, s3⟩ := hSw; go_simp⟩) hS ?_
                  simp only [Act.put, List.getElem_toArray, List.getElem_cons_succ, List.getElem_cons_zero, List.setIfInBounds_toArray, List.set_cons_zero, List.set_cons_succ]
                  refine wpAnyH_take (i := 5) (v := .int .i64 (k : Int)) rfl (by kernel_rfl) (by kernel_rfl) (by kernel_rfl) (fun _ _ _ h => h) (Or.inl ⟨by rfl, fun w hSw => by obtain ⟨s1, s2, s3⟩ := hSw; go_simp⟩) hS ?_
                  simp only [Act.put, List.getElem_toArray, List.getElem_cons_succ, List.getElem_cons_zero, List.setIfInBounds_toArray, List.set_cons_zero, List.set_cons_succ]
                  refine wpAnyH_take (i := 6) (v := .pointer (some ⟨g, k, none⟩)) rfl (by kernel_rfl) (by kernel_rfl) (by kernel_rfl) (fun _ _ _ h => h) (Or.inl ⟨by rfl, fun w hSw => by obtain ⟨s1, s2, s3⟩ := hSw; go_simp⟩) hS ?_
                  simp only [Act.put, List.getElem_toArray, List.getElem_cons_succ, List.getElem_cons_zero, List.setIfInBounds_toArray, List.set_cons_zero, List.set_cons_succ]
                  refine wpAnyH_take (i := 8) (v := .slice (some ⟨b, off, none⟩) ps.length cap) rfl (by kernel_rfl) (by kernel_rfl) (by kernel_rfl) (fun _ _ _ h => h) (Or.inl ⟨by rfl, fun w hSw => by obtain ⟨s1, s2, s3⟩ := hSw; go_simp⟩) hS ?_
                  simp only [Act.put, List.getElem_toArray, List.getElem_cons_succ, List.getElem_cons_zero, List.setIfInBounds_toArray, List.set_cons_zero, List.set_cons_succ]
                  refine wpAnyH_take (i := 9) (v := .int .i64 (i : Int)) rfl (by kernel_rfl) (by kernel_rfl) (by kernel_rfl) (fun _ _ _ h => h) (Or.inl ⟨by rfl, fun w hSw => by obtain ⟨s1, s2, s3⟩ := hSw; go_simp⟩) hS ?_
                  simp only [Act.put, List.getElem_toArray, List.getElem_cons_succ, List.getElem_cons_zero, List.setIfInBounds_toArray, List.set_cons_zero, List.set_cons_succ]
                  refine wpAnyH_take (i := 10) (v := .pointer (some ⟨b, off + i * 4, none⟩)) rfl (by kernel_rfl) (by kernel_rfl) (by kernel_rfl) (fun _ _ _ h => h) (Or.inl ⟨by rfl, fun w hSw => by obtain ⟨s1, s2, s3⟩ := hSw; go_simp⟩) hS ?_
                  simp only [Act.put, List.getElem_toArray, List.getElem_cons_succ, List.getElem_cons_zero, List.setIfInBounds_toArray, List.set_cons_zero, List.set_cons_succ]
                  refine wpAnyH_take (i := 11) (v := .pointer (some ⟨b, off + i * 4 + 3, none⟩)) rfl (by kernel_rfl) (by kernel_rfl) (by kernel_rfl) (fun _ _ _ h => h) (Or.inl ⟨by rfl, fun w hSw => by obtain ⟨s1, s2, s3⟩ := hSw; go_simp⟩) hS ?_
                  simp only [Act.put, List.getElem_toArray, List.getElem_cons_succ, List.getElem_cons_zero, List.setIfInBounds_toArray, List.set_cons_zero, List.set_cons_succ]
                  refine wpAnyH_take (i := 12) (v := .slice (some ⟨ba, oa, none⟩) p.pl.length c) rfl (by kernel_rfl) (by kernel_rfl) (by kernel_rfl) (fun _ _ _ h => h) (Or.inl ⟨by rfl, fun w hSw => by obtain ⟨s1, s2, s3⟩ := hSw; go_simp⟩) hS ?_
                  simp only [Act.put, List.getElem_toArray, List.getElem_cons_succ, List.getElem_cons_zero, List.setIfInBounds_toArray, List.set_cons_zero, List.set_cons_succ]
                  refine wpAnyH_take (i := 13) (v := .int .i64 (k : Int)) rfl (by kernel_rfl) (by kernel_rfl) (by kernel_rfl) (fun _ _ _ h => h) (Or.inl ⟨by rfl, fun w hSw => by obtain ⟨s1, s2, s3⟩ := hSw; go_simp⟩) hS ?_
                  simp only [Act.put, List.getElem_toArray, List.getElem_cons_succ, List.getElem_cons_zero, List.setIfInBounds_toArray, List.set_cons_zero, List.set_cons_succ]
                  refine wpAnyH_take (i := 14) (v := .pointer (some ⟨ba, oa + k, none⟩)) rfl (by kernel_rfl) (by kernel_rfl) (by kernel_rfl) (fun _ _ _ h => h) (Or.inl ⟨by rfl, fun w hSw => by obtain ⟨s1, s2, s3⟩ := hSw; go_simp⟩) hS ?_
                  simp only [Act.put, List.getElem_toArray, List.getElem_cons_succ, List.getElem_cons_zero, List.setIfInBounds_toArray, List.set_cons_zero, List.set_cons_succ]
                  refine wpAnyH_take (i := 15) (v := .slice xa lp xc) rfl (by kernel_rfl) (by kernel_rfl) (by kernel_rfl) (fun _ _ _ h => h) (Or.inl ⟨by rfl, fun w hSw => by obtain ⟨s1, s2, s3⟩ := hSw; go_simp⟩) hS ?_
                  simp only [Act.put, List.getElem_toArray, List.getElem_cons_succ, List.getElem_cons_zero, List.setIfInBounds_toArray, List.set_cons_zero, List.set_cons_succ]
                  refine wpAnyH_ready (rs := [7]) (by kernel_rfl) (by simp) ?_
                  refine AllReadyH.cons rfl (fun K hK => ?_) AllReadyH.nil
                  go_simp
                  refine hK.out _ _ hS (fun hSa => ?_)
                  clear hK K
                  refine wpAnyH_ready (rs := [16]) (by kernel_rfl) (by simp) ?_
                  refine AllReadyH.cons rfl (fun K hK => ?_) AllReadyH.nil
                  refine step_append_src _ rfl (.tmp 102) (.tmp 110) 45 rfl (w.heap.size + 1) 3 i3 (.int .i64 0) 8 Try.underlying45 H3.out.1 H3.out.2.1 H3.out.2.2.1 H3.out.2.2.2 rfl (.slice ua un uc) lk.length (intsC lk) rfl HOW.out xa lp xc (intsC lq) rfl HX0.out (by rw [intsC_length]; exact HLP.out) (HNW.out _ HOD.out.below) (intsC_one _) (by have := HLK.out; simp only [maxLen]; omega) (by have := HLK.out; omega) HSZ.out ?_
                  intro v8 w8 ho8 hg8 hb8
                  obtain ⟨va, vn, vc, rfl⟩ := owns_shape ho8.out
                  obtain ⟨C81, C82, C83, C85, C84⟩ := HPU.out _ _ hg8.out ho8.out hb8.out
                  have HC8 : Hid (Jo w p0 QQ g p0.pl.length cap' (vs.set k (.slice va vn vc)) (jx ps p0.pl.length i (k + 1)) (w8.setCell ⟨g, k, none⟩ (.slice va vn vc))) := C84
                  refine hK.out _ _ ⟨C81, HSS2.out _ C85⟩ (fun hS8 => ?_)
                  clear hK K C84
                  refine wpAnyH_take (i := 17) (v := .pointer (some ⟨g, k, none⟩)) rfl (by kernel_rfl) (by kernel_rfl) (by kernel_rfl) (fun _ _ _ h => h) (Or.inl ⟨by rfl, fun w hSw => by obtain ⟨s1, s2, s3⟩ := hSw; go_simp⟩) hS8 ?_
                  simp only [Act.put, List.getElem_toArray, List.getElem_cons_succ, List.getElem_cons_zero, List.setIfInBounds_toArray, List.set_cons_zero, List.set_cons_succ]
                  refine wpAnyH_ready (rs := [18]) (by kernel_rfl) (by simp) ?_
                  refine AllReadyH.cons rfl (fun K hK => ?_) AllReadyH.nil
                  go_simp
                  refine hK.out _ _ ⟨HC8.out.qc 3 _ rfl, HSS2.out _ HC8.out.below⟩ (fun hS9 => ?_)
                  refine wpAnyH_done (by kernel_rfl) ?_ _
                  clear hK K
                  go_wp2_with fail
                  go_roundw
                  case rel => exact ⟨k + 1, HKL.out, by go_num, vs.set k (.slice va vn vc), HC8.out⟩
                  case measure =>
                    have := HKL.out
                    simp [intOf]
                    omega
                · have hkn : k = p0.pl.length := by omega
                  subst hkn
                  have HN2 : Hid (Jo w p0 QQ g p0.pl.length cap' vs (jx ps p0.pl.length (i + 1) 0) wr) := by
                    have := HO.out
                    rwa [jx_next] at this
                  clear HO
                  go_wp2_with fail
                  go_roundw
                  case rel => exact ⟨i + 1, by omega, by omega, by go_num, vs, HN2.out⟩
                  case measure => simp [intOf]; omega
            · have hie : i = ps.length := by omega
              subst hie
              have HMT : Hid (OwnMat 45 (w.heap.size + 1) wr (.slice (some ⟨g, 0, none⟩) p0.pl.length cap') vs ((List.range p0.pl.length).map (joinL ps))) := by
                have := HO.out.mat
                rwa [jx_last] at this
              have HRS : Hid (wr.heap[w.heap.size]? = some (.cells zeroP 24 (0, 0))) := HO.out.res
              have HBL : Hid (Below w.heap.size w wr) := HO.out.below
              have m0 : wr.cell? ⟨QQ, 0, none⟩ = some (.int .i64 p0.rate) := HO.out.qc 0 _ rfl
              have m1 : wr.cell? ⟨QQ, 1, none⟩ = some (.int .i64 p0.ch) := HO.out.qc 1 _ rfl
              have m2 : wr.cell? ⟨QQ, 2, none⟩ = some (.int .i64 p0.wd) := HO.out.qc 2 _ rfl
              have m3 : wr.cell? ⟨QQ, 3, none⟩ = some (.slice (some ⟨g, 0, none⟩) p0.pl.length cap') := HO.out.qc 3 _ rfl
              have r0 : wr.cell? ⟨w.heap.size, 0, none⟩ = some (.int .i64 0) := by rw [cell_of_row _ _ _ _ _ _ HRS.out]; rfl
              have r1 : wr.cell? ⟨w.heap.size, 1, none⟩ = some (.int .i64 0) := by rw [cell_of_row _ _ _ _ _ _ HRS.out]; rfl
              have r2 : wr.cell? ⟨w.heap.size, 2, none⟩ = some (.int .i64 0) := by rw [cell_of_row _ _ _ _ _ _ HRS.out]; rfl
              have r3 : wr.cell? ⟨w.heap.size, 3, none⟩ = some (.slice none 0 0) := by rw [cell_of_row _ _ _ _ _ _ HRS.out]; rfl
              have hrs := HRS.out
              have z0 : wr.frozen? ⟨w.heap.size, 0, none⟩ = false := by simp [World.frozen?, hrs]
              have z1 : wr.frozen? ⟨w.heap.size, 1, none⟩ = false := by simp [World.frozen?, hrs]
              have z2 : wr.frozen? ⟨w.heap.size, 2, none⟩ = false := by simp [World.frozen?, hrs]
              have z3 : wr.frozen? ⟨w.heap.size, 3, none⟩ = false := by simp [World.frozen?, hrs]
              clear hrs HO hi hi1 hlt
              go_wp2_with fail
              generalize hwf : (((wr.setCell ⟨w.heap.size, 0, none⟩ (.int .i64 p0.rate)).setCell ⟨w.heap.size, 1, none⟩ (.int .i64 p0.ch)).setCell ⟨w.heap.size, 2, none⟩ (.int .i64 p0.wd)).setCell ⟨w.heap.size, 3, none⟩ (.slice (some ⟨g, 0, none⟩) p0.pl.length cap') = wf
              have hrow : wf.heap[w.heap.size]? = some (.cells #[.int .i64 p0.rate, .int .i64 p0.ch, .int .i64 p0.wd, .slice (some ⟨g, 0, none⟩) p0.pl.length cap'] 24 (0, 0)) := by
                rw [← hwf, block_set _ _ _ _ _ _ (block_set _ _ _ _ _ _ (block_set _ _ _ _ _ _ (block_set _ _ _ _ _ _ HRS.out)))]
                rfl
              have hbel : Below w.heap.size w wf := by
                rw [← hwf]
                exact (((HBL.out.setCell (by simp) _).setCell (by simp) _).setCell (by simp) _).setCell (by simp) _
              have hmat : OwnMat 45 (w.heap.size + 1) wf (.slice (some ⟨g, 0, none⟩) p0.pl.length cap') vs ((List.range p0.pl.length).map (joinL ps)) := by
                rw [← hwf]
                exact (((HMT.out.setOther (by simp) _).setOther (by simp) _).setOther (by simp) _).setOther (by simp) _
              obtain ⟨ao2, cap2, hv2, hrows2, hfr2⟩ := hmat.rows (by have := HPL.out; simp; omega) HRG.out
              have hlen2 : ((List.range p0.pl.length).map (joinL ps)).length = p0.pl.length := by simp
              rw [hlen2] at hv2
              cases hv2
              refine bodyPost_ret (v := .tuple #[.agg #[.int .i64 p0.rate, .int .i64 p0.ch, .int .i64 p0.wd, .slice (some ⟨g, 0, none⟩) p0.pl.length cap'], .int .i64 0]) ?_ rfl ⟨some ⟨g, 0, none⟩, cap', by rw [HP.out, HN.out]; show _ = Ending.returned (.tuple #[.agg #[.int .i64 p0.rate, .int .i64 p0.ch, .int .i64 p0.wd, .slice (some ⟨g, 0, none⟩) ((List.range p0.pl.length).map (joinL ps)).length cap'], .int .i64 0]); rw [hlen2], by rw [HP.out]; exact hrows2, by rw [HP.out]; exact hfr2.mono (Nat.le_add_right _ _), hbel⟩
              rw [results_two rfl]
              have hld := run_loadVar_row (P := Try.prog) wf w.heap.size 24 24 #[.int .i64 p0.rate, .int .i64 p0.ch, .int .i64 p0.wd, .slice (some ⟨g, 0, none⟩) p0.pl.length cap'] (0, 0) _ hrow Try.underlying24 rfl infoP
              simp [asAddr, Result.andThen, hld]
      · refine AllReadyH.cons rfl (fun K hK => ?_) AllReadyH.nil
        go_simp
        have j3 : Hid (JZ w wr.heap.size (wr.drew.alloc (.cells zeroP 24))) := JZ.new (w := wr.drew) HJD.out
        refine hK.out _ _ (HSS.out _ (show Hid (Jn w _) from j3.out.jn)) (fun hS4 => ?_)
        clear hK K
        refine wpAnyH_ready (rs := [6]) (by kernel_rfl) (by simp) ?_
        refine AllReadyH.cons rfl (fun K hK => ?_) AllReadyH.nil
        go_simp
        refine (KL0.out _ _ j3).mono ?_
        rintro e w4 ⟨rfl, j4⟩
        refine hK.out _ _ (HSS.out _ (show Hid (Jn w _) from j4.out.jn)) (fun hS5 => ?_)
        clear hK K
        refine wpAnyH_ready (rs := [7]) (by kernel_rfl) (by simp) ?_
        refine AllReadyH.cons rfl (fun K hK => ?_) AllReadyH.nil
        go_simp
        refine (KCz.out _ _ j4).mono ?_
        rintro e w5 ⟨g, cap', vs, rfl, z5, c5⟩
        refine hK.out _ _ (HSS.out _ (show Hid (Jn w _) from z5.out.jn)) (fun hS6 => ?_)
        clear hK K
        refine wpAnyH_ready (rs := [9]) (by kernel_rfl) (by simp) ?_
        refine AllReadyH.cons rfl (fun K hK => ?_) AllReadyH.nil
        have r0 := z5.out.c0
        have r1 := z5.out.c1
        have r2 := z5.out.c2
        have r3 := z5.out.c3
        have z0 := z5.out.z 0
        have z1 := z5.out.z 1
        have z2 := z5.out.z 2
        have z3 := z5.out.z 3
        have HJ0 := Jo.of z5.out c5.out
        have HJ1 : Hid (Jo w p0 wr.heap.size g p0.pl.length cap' vs p0.pl _) := HJ0
        clear HJ0
        go_simp
        generalize hwj : World.setCell _ _ _ = wj
        have HJO : Hid (Jo w p0 wr.heap.size g p0.pl.length cap' vs p0.pl wj) := by
          rw [← hwj]
          exact HJ1.out
        clear hwj
        refine hK.out _ _ (HZ.out _ HJO.out.below) (fun hS7 => ?_)
        refine wpAnyH_done (by kernel_rfl) ?_ _
        clear hK K
        generalize hQQ : wr.heap.size = QQ at *
        clear hQQ
        go_wp2_with fail
        go_loopw [8, 9] (fun t s9 wr' => ∃ i : Nat, 1 ≤ i ∧ i ≤ ps.length ∧ t = .int .i64 (i : Int) ∧ ∃ vs, Jo w p0 QQ g p0.pl.length cap' vs (jx ps p0.pl.length i 0) wr') (fun t _ _ => ps.length - (intOf t).toNat)
        case atStart => exact ⟨1, by omega, by omega, rfl, vs, by rw [HJX.out]; exact HJO.out⟩
        case round =>
          clear HJO
          obtain ⟨i, hi1, hi, rfl, vs, hjo⟩ := hrel
          have HO : Hid (Jo w p0 QQ g p0.pl.length cap' vs (jx ps p0.pl.length i 0) wr) := hjo
          clear hjo
          by_cases hlt : i < ps.length
          · obtain ⟨p, hp⟩ : ∃ p, ps[i]? = some p := ⟨ps[i], List.getElem?_eq_getElem hlt⟩
            obtain ⟨b', off', a, c, he, hcell, hrow, hfair⟩ := HH.out.at i p hp
            cases he
            obtain ⟨hcp, q0, q1, q2⟩ := part_zero p0 p (HALL.out i p hp)
            have hkp := ok_parts p hcp
            have hhp := check_head_ok p hcp
            have HPP : Hid (p.pl.length = p0.pl.length) := by
              have := HPL.out
              show _ = _
              omega
            have HROW : Hid (RowsAt w a p.pl) := hrow
            have HCEL : Hid (∀ wx, Below w.heap.size w wx → wx.cell? ⟨b, off + i * 4 + 3, none⟩ = some (.slice a p.pl.length c)) := fun wx hx => (hcell wx hx).2.2.2
            have HLEN : Hid (∀ k, k < p0.pl.length → (p.pl.getD k []).length = lenP p ∧ (joinL (ps.take i) k).length + lenP p ≤ 1048576) := fun k hk => by
              have h1 := hkp.2.2.1 k (by rw [HPP.out]; exact hk)
              have h2 := joinL_len (ps.take i) k (fun r hr => by
                obtain ⟨j, hj⟩ := List.mem_iff_getElem?.1 (List.mem_of_mem_take hr)
                obtain ⟨hcr, u0, u1, u2⟩ := part_zero p0 r (HALL.out j r hj)
                have hkr := ok_parts r hcr
                have hhr := check_head_ok r hcr
                have := HPL.out
                exact hkr.2.2.1 k (by omega))
              have h3 := sumL_take ps i p hp
              have h4 := sumL_pre ps (i + 1)
              have h5 := HSM.out
              exact ⟨h1, by omega⟩
            have HJS : Hid (∀ k, k < p0.pl.length → jx ps p0.pl.length i (k + 1) = (jx ps p0.pl.length i k).set k ((jx ps p0.pl.length i k).getD k [] ++ p.pl.getD k [])) := fun k hk => jx_step ps _ i k p hk hp
            have HJG : Hid (∀ k, k < p0.pl.length → (jx ps p0.pl.length i k).getD k [] = joinL (ps.take i) k) := fun k hk => by rw [jx_get _ _ _ _ _ hk, if_neg (Nat.lt_irrefl _)]
            clear hcell hrow hfair hcp q0 q1 q2 hkp hhp
            go_wp2_with fail
            go_loopw [9] (fun t wr' => ∃ k : Nat, k ≤ p0.pl.length ∧ t = .int .i64 (k : Int) ∧ ∃ vs, Jo w p0 QQ g p0.pl.length cap' vs (jx ps p0.pl.length i k) wr') (fun t _ => p0.pl.length - (intOf t).toNat)
            case atStart => exact ⟨0, Nat.zero_le _, rfl, vs, HO.out⟩
            case round =>
              clear HO
              obtain ⟨k, hk, rfl, vs, hjo⟩ := hrel
              have HO : Hid (Jo w p0 QQ g p0.pl.length cap' vs (jx ps p0.pl.length i k) wr) := hjo
              clear hjo
              have y3 : wr.cell? ⟨QQ, 3, none⟩ = some (.slice (some ⟨g, 0, none⟩) p0.pl.length cap') := HO.out.qc 3 _ rfl
              have hk8 : p0.pl.length ≤ 8 := by have := HPL.out; omega
              by_cases hlk : k < p0.pl.length
              · obtain ⟨ba, oa, xa, xc, ea, hlc, hnc, hcc, hin⟩ := HROW.out.at2 k (by rw [HPP.out]; exact hlk)
                subst ea
                obtain ⟨hl1, hl2⟩ := HLEN.out k hlk
                obtain ⟨lk, hlkk⟩ : ∃ lk, joinL (ps.take i) k = lk := ⟨_, rfl⟩
                obtain ⟨lq, hlq⟩ : ∃ lq, p.pl.getD k [] = lq := ⟨_, rfl⟩
                rw [hlkk] at hl2
                rw [hlq] at hlc hcc hin hl1
                obtain ⟨lp, hlp⟩ : ∃ lp, lq.length = lp := ⟨_, rfl⟩
                rw [hlp] at hlc hcc hl1
                rw [← hl1] at hl2
                have HLP : Hid (lq.length = lp) := hlp
                have HLK : Hid (lk.length + lp ≤ 1048576) := hl2
                have HX0 : Hid (xa = none → lp = 0 ∧ xc = 0) := fun q => by
                  have := hnc q
                  exact ⟨by omega, this⟩
                have HGD : Hid ((jx ps p0.pl.length i k).getD k [] = lk) := (HJG.out k hlk).trans hlkk
                have HST : Hid (jx ps p0.pl.length i (k + 1) = (jx ps p0.pl.length i k).set k (lk ++ lq)) := by
                  have := HJS.out k hlk
                  rwa [HGD.out, hlq] at this
                have HNW : Hid (∀ wx, Below w.heap.size w wx → ∀ ad, xa = some ad → ∀ j u, (intsC lq)[j]? = some u → wx.cell? (ad.add j) = some u) := fun wx hwx ad ha j u hj => ints_news hin wx hwx ad ha j u hj
                have HSS2 : Hid (∀ wx, Below w.heap.size w wx → wx.cell? ⟨b, off + i * 4 + 3, none⟩ = some (.slice (some ⟨ba, oa, none⟩) p.pl.length c) ∧ wx.cell? ⟨ba, oa + k, none⟩ = some (.slice xa lp xc)) := fun wx hwx => ⟨HCEL.out wx hwx, hcc wx hwx⟩
                have HOD : Hid (Jo w p0 QQ g p0.pl.length cap' vs (jx ps p0.pl.length i k) wr.drew) := HO.out.drew
                have ho : wr.drew.ownsRow (w.heap.size + 1) 3 1 (vs.getD k noS) lk.length (intsC lk) := by
                  have := HOD.out.mat.inner k (by rw [jx_len]; exact hlk)
                  rwa [HGD.out] at this
                obtain ⟨ua, un, uc, hu⟩ := owns_shape ho
                have HUD : Hid (vs.getD k noS = .slice ua un uc) := hu
                rw [hu] at ho
                have HOW : Hid (wr.drew.ownsRow (w.heap.size + 1) 3 1 (.slice ua un uc) lk.length (intsC lk)) := ho
                have o0 : wr.drew.cell? ⟨g, k, none⟩ = some (.slice ua un uc) := by
                  have := (HOD.out.row k hlk).1
                  rwa [hu] at this
                have HSZ : Hid (w.heap.size + 1 ≤ wr.drew.heap.size) := by
                  have := HOD.out.g1
                  show _ ≤ _
                  omega
                have HPU : Hid (∀ v8 w8, wr.drew.grownBy w8 (Value.slice ua un uc).ownBlock → w8.ownsRow (w.heap.size + 1) 3 1 v8 (lk.length + lp) (intsC lk ++ intsC lq) → (v8.ownBlock = (Value.slice ua un uc).ownBlock ∨ v8.ownBlock = some wr.drew.heap.size) →
                    w8.cell? ⟨QQ, 3, none⟩ = some (.slice (some ⟨g, 0, none⟩) p0.pl.length cap') ∧ w8.cell? ⟨g, k, none⟩ = some (.slice ua un uc) ∧ w8.frozen? ⟨g, k, none⟩ = false ∧ Below w.heap.size w w8 ∧ Jo w p0 QQ g p0.pl.length cap' (vs.set k v8) (jx ps p0.pl.length i (k + 1)) (w8.setCell ⟨g, k, none⟩ v8)) := fun v8 w8 hg hw hb => by
                  rw [← HUD.out] at hg hb ⊢
                  rw [← HGD.out] at hw
                  obtain ⟨t1, t2, t3⟩ := HOD.out.kept2 k hlk hg
                  have h5 := HOD.out.push k hlk hg HLP.out hw hb
                  rw [HGD.out, ← HST.out] at h5
                  exact ⟨t1, t2, t3, HOD.out.grown k hlk hg, h5⟩
                have hS0 : wr.drew.cell? ⟨QQ, 3, none⟩ = some (.slice (some ⟨g, 0, none⟩) p0.pl.length cap') ∧ wr.drew.cell? ⟨b, off + i * 4 + 3, none⟩ = some (.slice (some ⟨ba, oa, none⟩) p.pl.length c) ∧ wr.drew.cell? ⟨ba, oa + k, none⟩ = some (.slice xa lp xc) := ⟨HOD.out.qc 3 _ rfl, HSS2.out _ HOD.out.below⟩
                have hpk : k < p.pl.length := by rw [HPP.out]; exact hlk
                have HKL : Hid (k + 1 ≤ p0.pl.length) := hlk
                clear hlc hnc hcc hin hl1 hl2 hlkk hlq hlp hu ho HO
                go_wp2_with fail
                refine wp_region_held_drew (S := fun wx => wx.cell? ⟨QQ, 3, none⟩ = some (.slice (some ⟨g, 0, none⟩) p0.pl.length cap') ∧ wx.cell? ⟨b, off + i * 4 + 3, none⟩ = some (.slice (some ⟨ba, oa, none⟩) p.pl.length c) ∧ wx.cell? ⟨ba, oa + k, none⟩ = some (.slice xa lp xc)) (by kernel_rfl) hS0 (fun hS => ?_)
                refine wpAnyH_take (i := 0) (v := .pointer (some ⟨QQ, 3, none⟩)) rfl (by kernel_rfl) (by kernel_rfl) (by kernel_rfl) (fun _ _ _ h => h) (Or.inl ⟨by rfl, fun w hSw => by obtain ⟨s1, s2, s3⟩ := hSw; go_simp⟩) hS ?_
                simp only [Act.put, List.getElem_toArray, List.getElem_cons_succ, List.getElem_cons_zero, List.setIfInBounds_toArray, List.set_cons_zero, List.set_cons_succ]
                refine wpAnyH_take (i := 1) (v := .slice (some ⟨g, 0, none⟩) p0.pl.length cap') rfl (by kernel_rfl) (by kernel_rfl) (by kernel_rfl) (fun _ _ _ h => h) (Or.inl ⟨by rfl, fun w hSw => by obtain ⟨s1, s2, s3⟩ := hSw; go_simp⟩) hS ?_
                simp only [Act.put, List.getElem_toArray, List.getElem_cons_succ, List.getElem_cons_zero, List.setIfInBounds_toArray, List.set_cons_zero, List.set_cons_succ]
                refine wpAnyH_take (i := 2) (v := .int .i64 (k : Int)) rfl (by kernel_rfl) (by kernel_rfl) (by kernel_rfl) (fun _ _ _ h => h) (Or.inl ⟨by rfl, fun w hSw => by obtain ⟨s1, s2, s3⟩ := hSw; go_simp⟩) hS ?_
                simp only [Act.put, List.getElem_toArray, List.getElem_cons_succ, List.getElem_cons_zero, List.setIfInBounds_toArray, List.set_cons_zero, List.set_cons_succ]
                refine wpAnyH_take (i := 3) (v := .pointer (some ⟨QQ, 3, none⟩)) rfl (by kernel_rfl) (by kernel_rfl) (by kernel_rfl) (fun _ _ _ h => h) (Or.inl ⟨by rfl, fun w hSw => by obtain ⟨s1, s2, s3⟩ := hSw; go_simp⟩) hS ?_
                simp only [Act.put, List.getElem_toArray, List.getElem_cons_succ, List.getElem_cons_zero, List.setIfInBounds_toArray, List.set_cons_zero, List.set_cons_succ]
                refine wpAnyH_take (i := 4) (v := .slice (some ⟨g, 0, none⟩) p0.pl.length cap') rfl (by kernel_rfl) (by kernel_rfl) (by kernel_rfl) (fun _ _ _ h => h) (Or.inl ⟨by rfl, fun w hSw => by obtain ⟨s1, s2, s3⟩ := hSw; go_simp⟩) hS ?_
                simp only [Act.put, List.getElem_toArray, List.getElem_cons_succ, List.getElem_cons_zero, List.setIfInBounds_toArray, List.set_cons_zero, List.set_cons_succ]
                refine wpAnyH_take (i := 5) (v := .int .i64 (k : Int)) rfl (by kernel_rfl) (by kernel_rfl) (by kernel_rfl) (fun _ _ _ h => h) (Or.inl ⟨by rfl, fun w hSw => by obtain ⟨s1, s2, s3⟩ := hSw; go_simp⟩) hS ?_
                simp only [Act.put, List.getElem_toArray, List.getElem_cons_succ, List.getElem_cons_zero, List.setIfInBounds_toArray, List.set_cons_zero, List.set_cons_succ]
                refine wpAnyH_take (i := 6) (v := .pointer (some ⟨g, k, none⟩)) rfl (by kernel_rfl) (by kernel_rfl) (by kernel_rfl) (fun _ _ _ h => h) (Or.inl ⟨by rfl, fun w hSw => by obtain ⟨s1, s2, s3⟩ := hSw; go_simp⟩) hS ?_
                simp only [Act.put, List.getElem_toArray, List.getElem_cons_succ, List.getElem_cons_zero, List.setIfInBounds_toArray, List.set_cons_zero, List.set_cons_succ]
                refine wpAnyH_take (i := 8) (v := .slice (some ⟨b, off, none⟩) ps.length cap) rfl (by kernel_rfl) (by kernel_rfl) (by kernel_rfl) (fun _ _ _ h => h) (Or.inl ⟨by rfl, fun w hSw => by obtain ⟨s1, s2, s3⟩ := hSw; go_simp⟩) hS ?_
                simp only [Act.put, List.getElem_toArray, List.getElem_cons_succ, List.getElem_cons_zero, List.setIfInBounds_toArray, List.set_cons_zero, List.set_cons_succ]
                refine wpAnyH_take (i := 9) (v := .int .i64 (i : Int)) rfl (by kernel_rfl) (by kernel_rfl) (by kernel_rfl) (fun _ _ _ h => h) (Or.inl ⟨by rfl, fun w hSw => by obtain ⟨s1, s2, s3⟩ := hSw; go_simp⟩) hS ?_
                simp only [Act.put, List.getElem_toArray, List.getElem_cons_succ, List.getElem_cons_zero, List.setIfInBounds_toArray, List.set_cons_zero, List.set_cons_succ]
                refine wpAnyH_take (i := 10) (v := .pointer (some ⟨b, off + i * 4, none⟩)) rfl (by kernel_rfl) (by kernel_rfl) (by kernel_rfl) (fun _ _ _ h => h) (Or.inl ⟨by rfl, fun w hSw => by obtain ⟨s1, s2, s3⟩ := hSw; go_simp⟩) hS ?_
                simp only [Act.put, List.getElem_toArray, List.getElem_cons_succ, List.getElem_cons_zero, List.setIfInBounds_toArray, List.set_cons_zero, List.set_cons_succ]
                refine wpAnyH_take (i := 11) (v := .pointer (some ⟨b, off + i * 4 + 3, none⟩)) rfl (by kernel_rfl) (by kernel_rfl) (by kernel_rfl) (fun _ _ _ h => h) (Or.inl ⟨by rfl, fun w hSw => by obtain ⟨s1, s2, s3⟩ := hSw; go_simp⟩) hS ?_
                simp only [Act.put, List.getElem_toArray, List.getElem_cons_succ, List.getElem_cons_zero, List.setIfInBounds_toArray, List.set_cons_zero, List.set_cons_succ]
                refine wpAnyH_take (i := 12) (v := .slice (some ⟨ba, oa, none⟩) p.pl.length c) rfl (by kernel_rfl) (by kernel_rfl) (by kernel_rfl) (fun _ _ _ h => h) (Or.inl ⟨by rfl, fun w hSw => by obtain ⟨s1, s2, s3⟩ := hSw; go_simp⟩) hS ?_
                simp only [Act.put, List.getElem_toArray, List.getElem_cons_succ, List.getElem_cons_zero, List.setIfInBounds_toArray, List.set_cons_zero, List.set_cons_succ]
                refine wpAnyH_take (i := 13) (v := .int .i64 (k : Int)) rfl (by kernel_rfl) (by kernel_rfl) (by kernel_rfl) (fun _ _ _ h => h) (Or.inl ⟨by rfl, fun w hSw => by obtain ⟨s1, s2, s3⟩ := hSw; go_simp⟩) hS ?_
                simp only [Act.put, List.getElem_toArray, List.getElem_cons_succ, List.getElem_cons_zero, List.setIfInBounds_toArray, List.set_cons_zero, List.set_cons_succ]
                refine wpAnyH_take (i := 14) (v := .pointer (some ⟨ba, oa + k, none⟩)) rfl (by kernel_rfl) (by kernel_rfl) (by kernel_rfl) (fun _ _ _ h => h) (Or.inl ⟨by rfl, fun w hSw => by obtain ⟨s1, s2, s3⟩ := hSw; go_simp⟩) hS ?_
                simp only [Act.put, List.getElem_toArray, List.getElem_cons_succ, List.getElem_cons_zero, List.setIfInBounds_toArray, List.set_cons_zero, List.set_cons_succ]
                refine wpAnyH_take (i := 15) (v := .slice xa lp xc) rfl (by kernel_rfl) (by kernel_rfl) (by kernel_rfl) (fun _ _ _ h => h) (Or.inl ⟨by rfl, fun w hSw => by obtain ⟨s1, s2, s3⟩ := hSw; go_simp⟩) hS ?_
                simp only [Act.put, List.getElem_toArray, List.getElem_cons_succ, List.getElem_cons_zero, List.setIfInBounds_toArray, List.set_cons_zero, List.set_cons_succ]
                refine wpAnyH_ready (rs := [7]) (by kernel_rfl) (by simp) ?_
                refine AllReadyH.cons rfl (fun K hK => ?_) AllReadyH.nil
                go_simp
                refine hK.out _ _ hS (fun hSa => ?_)
                clear hK K
                refine wpAnyH_ready (rs := [16]) (by kernel_rfl) (by simp) ?_
                refine AllReadyH.cons rfl (fun K hK => ?_) AllReadyH.nil
                refine step_append_src _ rfl (.tmp 102) (.tmp 110) 45 rfl (w.heap.size + 1) 3 i3 (.int .i64 0) 8 Try.underlying45 H3.out.1 H3.out.2.1 H3.out.2.2.1 H3.out.2.2.2 rfl (.slice ua un uc) lk.length (intsC lk) rfl HOW.out xa lp xc (intsC lq) rfl HX0.out (by rw [intsC_length]; exact HLP.out) (HNW.out _ HOD.out.below) (intsC_one _) (by have := HLK.out; simp only [maxLen]; omega) (by have := HLK.out; omega) HSZ.out ?_
                intro v8 w8 ho8 hg8 hb8
                obtain ⟨va, vn, vc, rfl⟩ := owns_shape ho8.out
                obtain ⟨C81, C82, C83, C85, C84⟩ := HPU.out _ _ hg8.out ho8.out hb8.out
                have HC8 : Hid (Jo w p0 QQ g p0.pl.length cap' (vs.set k (.slice va vn vc)) (jx ps p0.pl.length i (k + 1)) (w8.setCell ⟨g, k, none⟩ (.slice va vn vc))) := C84
                refine hK.out _ _ ⟨C81, HSS2.out _ C85⟩ (fun hS8 => ?_)
                clear hK K C84
                refine wpAnyH_take (i := 17) (v := .pointer (some ⟨g, k, none⟩)) rfl (by kernel_rfl) (by kernel_rfl) (by kernel_rfl) (fun _ _ _ h => h) (Or.inl ⟨by rfl, fun w hSw => by obtain ⟨s1, s2, s3⟩ := hSw; go_simp⟩) hS8 ?_
                simp only [Act.put, List.getElem_toArray, List.getElem_cons_succ, List.getElem_cons_zero, List.setIfInBounds_toArray, List.set_cons_zero, List.set_cons_succ]
                refine wpAnyH_ready (rs := [18]) (by kernel_rfl) (by simp) ?_
                refine AllReadyH.cons rfl (fun K hK => ?_) AllReadyH.nil
                go_simp
                refine hK.out _ _ ⟨HC8.out.qc 3 _ rfl, HSS2.out _ HC8.out.below⟩ (fun hS9 => ?_)
                refine wpAnyH_done (by kernel_rfl) ?_ _
                clear hK K
                go_wp2_with fail
                go_roundw
                case rel => exact ⟨k + 1, HKL.out, by go_num, vs.set k (.slice va vn vc), HC8.out⟩
                case measure =>
                  have := HKL.out
                  simp [intOf]
                  omega
              · have hkn : k = p0.pl.length := by omega
                subst hkn
                have HN2 : Hid (Jo w p0 QQ g p0.pl.length cap' vs (jx ps p0.pl.length (i + 1) 0) wr) := by
                  have := HO.out
                  rwa [jx_next] at this
                clear HO
                go_wp2_with fail
                go_roundw
                case rel => exact ⟨i + 1, by omega, by omega, by go_num, vs, HN2.out⟩
                case measure => simp [intOf]; omega
          · have hie : i = ps.length := by omega
            subst hie
            have HMT : Hid (OwnMat 45 (w.heap.size + 1) wr (.slice (some ⟨g, 0, none⟩) p0.pl.length cap') vs ((List.range p0.pl.length).map (joinL ps))) := by
              have := HO.out.mat
              rwa [jx_last] at this
            have HRS : Hid (wr.heap[w.heap.size]? = some (.cells zeroP 24 (0, 0))) := HO.out.res
            have HBL : Hid (Below w.heap.size w wr) := HO.out.below
            have m0 : wr.cell? ⟨QQ, 0, none⟩ = some (.int .i64 p0.rate) := HO.out.qc 0 _ rfl
            have m1 : wr.cell? ⟨QQ, 1, none⟩ = some (.int .i64 p0.ch) := HO.out.qc 1 _ rfl
            have m2 : wr.cell? ⟨QQ, 2, none⟩ = some (.int .i64 p0.wd) := HO.out.qc 2 _ rfl
            have m3 : wr.cell? ⟨QQ, 3, none⟩ = some (.slice (some ⟨g, 0, none⟩) p0.pl.length cap') := HO.out.qc 3 _ rfl
            have r0 : wr.cell? ⟨w.heap.size, 0, none⟩ = some (.int .i64 0) := by rw [cell_of_row _ _ _ _ _ _ HRS.out]; rfl
            have r1 : wr.cell? ⟨w.heap.size, 1, none⟩ = some (.int .i64 0) := by rw [cell_of_row _ _ _ _ _ _ HRS.out]; rfl
            have r2 : wr.cell? ⟨w.heap.size, 2, none⟩ = some (.int .i64 0) := by rw [cell_of_row _ _ _ _ _ _ HRS.out]; rfl
            have r3 : wr.cell? ⟨w.heap.size, 3, none⟩ = some (.slice none 0 0) := by rw [cell_of_row _ _ _ _ _ _ HRS.out]; rfl
            have hrs := HRS.out
            have z0 : wr.frozen? ⟨w.heap.size, 0, none⟩ = false := by simp [World.frozen?, hrs]
            have z1 : wr.frozen? ⟨w.heap.size, 1, none⟩ = false := by simp [World.frozen?, hrs]
            have z2 : wr.frozen? ⟨w.heap.size, 2, none⟩ = false := by simp [World.frozen?, hrs]
            have z3 : wr.frozen? ⟨w.heap.size, 3, none⟩ = false := by simp [World.frozen?, hrs]
            clear hrs HO hi hi1 hlt
            go_wp2_with fail
            generalize hwf : (((wr.setCell ⟨w.heap.size, 0, none⟩ (.int .i64 p0.rate)).setCell ⟨w.heap.size, 1, none⟩ (.int .i64 p0.ch)).setCell ⟨w.heap.size, 2, none⟩ (.int .i64 p0.wd)).setCell ⟨w.heap.size, 3, none⟩ (.slice (some ⟨g, 0, none⟩) p0.pl.length cap') = wf
            have hrow : wf.heap[w.heap.size]? = some (.cells #[.int .i64 p0.rate, .int .i64 p0.ch, .int .i64 p0.wd, .slice (some ⟨g, 0, none⟩) p0.pl.length cap'] 24 (0, 0)) := by
              rw [← hwf, block_set _ _ _ _ _ _ (block_set _ _ _ _ _ _ (block_set _ _ _ _ _ _ (block_set _ _ _ _ _ _ HRS.out)))]
              rfl
            have hbel : Below w.heap.size w wf := by
              rw [← hwf]
              exact (((HBL.out.setCell (by simp) _).setCell (by simp) _).setCell (by simp) _).setCell (by simp) _
            have hmat : OwnMat 45 (w.heap.size + 1) wf (.slice (some ⟨g, 0, none⟩) p0.pl.length cap') vs ((List.range p0.pl.length).map (joinL ps)) := by
              rw [← hwf]
              exact (((HMT.out.setOther (by simp) _).setOther (by simp) _).setOther (by simp) _).setOther (by simp) _
            obtain ⟨ao2, cap2, hv2, hrows2, hfr2⟩ := hmat.rows (by have := HPL.out; simp; omega) HRG.out
            have hlen2 : ((List.range p0.pl.length).map (joinL ps)).length = p0.pl.length := by simp
            rw [hlen2] at hv2
            cases hv2
            refine bodyPost_ret (v := .tuple #[.agg #[.int .i64 p0.rate, .int .i64 p0.ch, .int .i64 p0.wd, .slice (some ⟨g, 0, none⟩) p0.pl.length cap'], .int .i64 0]) ?_ rfl ⟨some ⟨g, 0, none⟩, cap', by rw [HP.out, HN.out]; show _ = Ending.returned (.tuple #[.agg #[.int .i64 p0.rate, .int .i64 p0.ch, .int .i64 p0.wd, .slice (some ⟨g, 0, none⟩) ((List.range p0.pl.length).map (joinL ps)).length cap'], .int .i64 0]); rw [hlen2], by rw [HP.out]; exact hrows2, by rw [HP.out]; exact hfr2.mono (Nat.le_add_right _ _), hbel⟩
            rw [results_two rfl]
            have hld := run_loadVar_row (P := Try.prog) wf w.heap.size 24 24 #[.int .i64 p0.rate, .int .i64 p0.ch, .int .i64 p0.wd, .slice (some ⟨g, 0, none⟩) p0.pl.length cap'] (0, 0) _ hrow Try.underlying24 rfl infoP
            simp [asAddr, Result.andThen, hld]

/-- The document's Join, whatever it is handed. -/
theorem rjoin_spec (ps : List Pcm) (ao : Option Addr) (cap : Nat) (w : World) (h : PcmsAt w ao ps) :
    Calls Try.prog 21 #[.slice ao ps.length cap] w fun e w' => Gives w (joinP ps) (joinE ps) e w' := by
  cases ps with
  | nil => exact rjoin_empty ao cap w
  | cons p0 tl =>
    by_cases hne : joinE (p0 :: tl) = 0
    · exact rjoin_yes p0 tl ao cap w h hne
    · exact rjoin_no p0 tl ao cap w h hne

end Go.Proofs.Ytolmijpecomkcaa
