/- Own text: the walk of FilterPlays. -/
import Derived.Test.YtecdcmjeiogenaaQ17l2
import Derived.Deep.CutRange
namespace Go.Proofs.Ytecdcmjeiogenaa
open Go.RowKit
set_option linter.unusedSimpArgs false
set_option linter.unusedVariables false
attribute [local go_sem] Oper.semAt_some

/-- A list of truths in memory. -/
structure BoolsAt (w : World) (ao : Option Addr) (l : List Bool) : Prop where
  lies : 0 < l.length → ∃ b off, ao = some ⟨b, off, none⟩ ∧ ∀ j, j < l.length → w.cell? ⟨b, off + j, none⟩ = some (.bool (l.getD j false))
theorem BoolsAt.at {w : World} {ao : Option Addr} {l : List Bool} (h : BoolsAt w ao l) (k : Nat) (hk : k < l.length) : ∃ b off, ao = some ⟨b, off, none⟩ ∧ (∀ w', Below w.heap.size w w' → w'.cell? ⟨b, off + k, none⟩ = some (.bool (l.getD k false))) := by
  obtain ⟨b, off, e, hc⟩ := h.lies (by omega)
  exact ⟨b, off, e, fun w' hb => low_cell hb (hc k hk)⟩
/-- The program's chain and the document's, side by side. -/
structure Two17 (PCh : ChP) (w0 w : World) (p : Addr) (fpA : Nat → Prop) (fpB : Nat → Prop) (pc : Nat) (ac : Option Addr) (ca : Nat) (Q : List (Nat × Nat)) (c d : List Stp) : Prop where
  pa : PCh w p fpA c
  ch : ChnAt w fpB pc ac ca Q d
  la : ∀ k, fpA k → w0.heap.size ≤ k ∧ k < w.heap.size
  lb : ∀ k, fpB k → w0.heap.size ≤ k ∧ k < w.heap.size
  dj : ∀ k, fpA k → ¬ fpB k
  bl : Below w0.heap.size w0 w
section
variable {PCh : ChP} {w0 w w' : World} {p : Addr} {fpA fpB : Nat → Prop} {pc : Nat} {ac : Option Addr} {ca : Nat} {Q : List (Nat × Nat)} {c c' d d' : List Stp}
theorem Two17.drew (h : Two17 PCh w0 w p fpA fpB pc ac ca Q c d) (D : Does17 PCh) : Two17 PCh w0 w.drew p fpA fpB pc ac ca Q c d :=
  ⟨D.keep _ _ _ _ _ h.pa (Nat.le_refl _) (fun _ _ _ => rfl), h.ch.low (below_drew _) (fun _ q => q), h.la, h.lb, h.dj, h.bl.drew⟩
theorem Two17.goA (h : Two17 PCh w0 w p fpA fpB pc ac ca Q c d) (hp : PCh w' p (grew fpA w w') c') (hs : Stays fpA w w') : Two17 PCh w0 w' p (grew fpA w w') fpB pc ac ca Q c' d := by
  have hz := hs.size
  have hz0 := h.bl.size
  refine ⟨hp, h.ch.keep hz (fun k hk q => hs.block k hk (fun e => h.dj k e q)) (fun _ q => q), fun k q => ?_, fun k q => ⟨(h.lb k q).1, by have := (h.lb k q).2; omega⟩, fun k q q2 => ?_, h.bl.trans (hs.below hz0 (fun i hi q => by have := h.la i q; omega))⟩
  · rcases q with q | q
    · have := h.la k q; omega
    · omega
  · rcases q with q | q
    · exact h.dj k q q2
    · have := h.lb k q2; omega
theorem Two17.goB (h : Two17 PCh w0 w p fpA fpB pc ac ca Q c d) (D : Does17 PCh) (hp : ChnAt w' (grew fpB w w') pc ac ca Q d') (hs : Stays fpB w w') : Two17 PCh w0 w' p fpA (grew fpB w w') pc ac ca Q c d' := by
  have hz := hs.size
  have hz0 := h.bl.size
  refine ⟨D.keep _ _ _ _ _ h.pa hz (fun k hk q => hs.block k hk (fun e => h.dj k q e)), hp, fun k q => ⟨(h.la k q).1, by have := (h.la k q).2; omega⟩, fun k q => ?_, fun k q q2 => ?_, h.bl.trans (hs.below hz0 (fun i hi q => by have := h.lb i q; omega))⟩
  · rcases q with q | q
    · have := h.lb k q; omega
    · omega
  · rcases q2 with q2 | q2
    · exact h.dj k q q2
    · have := h.la k q; omega
end
set_option maxRecDepth 20000 in
set_option maxHeartbeats 3200000 in
theorem plays17 {PCh : ChP} (D : Does17 PCh) (level : Int) (l : List Int) (lo : Option Addr) (lc : Nat) (bk : List Bool) (bo : Option Addr) (bc : Nat) (w : World) (hl : IntsAt w lo l) (hbk : BoolsAt w bo bk) : Calls Try.prog 4 #[.int .i64 level, .slice lo l.length lc, .slice bo bk.length bc] w fun e w' => e = .returned (.bool true) ∧ Below w.heap.size w w' := by
  have HD := hid D
  have HL := hid hl
  have HBK := hid hbk
  have hlen := hl.len
  clear D hl hbk
  by_cases hlv : level < 0 ∨ 2 < level
  · have HN : Hid (newC level = none) := by
      show _ = _
      unfold newC
      rw [if_neg (by omega), if_neg (by omega), if_neg (by omega)]
    go_enter Try.func4, Try.ntmps4
    go_wp2_with fail
    refine (HD.out.nonew level w HN.out).mono ?_
    rintro e w1 ⟨rfl, hb⟩
    have HX1 := hid hb
    clear hb
    go_wp2_with fail
    refine (xnew_no level hlv w1).mono ?_
    rintro e w2 ⟨rfl, hb⟩
    have HX2 := hid (below_on HX1.out HX1.out.size hb)
    clear hb HX1
    go_wp2_with fail
    refine (HD.out.nf 5 w2).mono ?_
    rintro e w3 ⟨rfl, hb⟩
    have HX3 := hid (below_on HX2.out HX2.out.size hb)
    clear hb HX2
    go_wp2_with fail
    refine (HD.out.ni 5 w3).mono ?_
    rintro e w4 ⟨rfl, hb⟩
    have HX4 := hid (below_on HX3.out HX3.out.size hb)
    clear hb HX3
    go_wp2_with fail
    refine (awake17 HD.out _).mono ?_
    rintro e wz ⟨rfl, hb⟩
    have HZ := hid (below_on HX4.out HX4.out.size hb)
    clear hb HX4
    go_wp2_with fail
    go_ret
    exact ⟨rfl, HZ.out⟩
  · obtain ⟨m, rfl⟩ : ∃ m : Nat, level = (m : Int) := ⟨level.toNat, by omega⟩
    have hm : m ≤ 2 := by omega
    clear hlv
    have KN := hid (fun wx => xnew m hm wx)
    have HNC := hid (newC_taps m hm)
    generalize (tapsN m).map newS = c at *
    obtain ⟨n, hn⟩ : ∃ n, n = min l.length 300 := ⟨_, rfl⟩
    have hnl : n ≤ l.length := by omega
    have hn5 : n ≤ 300 := by omega
    have HNE : Hid (n = l.length ∨ n = 300) := by show _ ∨ _; omega
    clear hn
    go_enter Try.func4, Try.ntmps4
    go_wp2_with fail
    refine (HD.out.new (m : Int) c w HNC.out).mono ?_
    rintro e w1 ⟨p, fpA, rfl, hp, hf, hb⟩
    have HX1 : Hid (PCh w1 p fpA c ∧ (∀ k, fpA k → w.heap.size ≤ k ∧ k < w1.heap.size) ∧ Below w.heap.size w w1) := ⟨hp, hf, hb⟩
    clear hp hf hb
    go_wp2_with fail
    refine (KN.out w1).mono ?_
    rintro e w2 ⟨pc, ac, ca, Q, rfl, hch, hb⟩
    have HT0 : Hid (Two17 PCh w w2 p fpA (fun k => w1.heap.size ≤ k ∧ k < w2.heap.size) pc ac ca Q c c) := by
      have h0 := HX1.out.2.2.size
      have h1 := hb.size
      refine ⟨HD.out.keep _ _ _ _ _ HX1.out.1 h1 (fun k hk _ => hb.block k hk), hch, fun k q => ?_, fun k q => ?_, fun k q q2 => ?_, below_on HX1.out.2.2 h0 hb⟩
      · have := HX1.out.2.1 k q; omega
      · omega
      · have := HX1.out.2.1 k q; omega
    clear HX1 hch hb KN
    go_wp2_with fail
    go_loopw [9] (fun s9 wr => ∃ (i : Nat) (fpA fpB : Nat → Prop) (cc : List Stp), i ≤ n ∧ s9 = .int .i64 (i : Int) ∧ Two17 PCh w wr p fpA fpB pc ac ca Q cc cc) (fun s9 _ => n - (intOf s9).toNat)
    case atStart => exact ⟨0, _, _, _, Nat.zero_le _, rfl, HT0.out⟩
    case round =>
      clear HT0
      obtain ⟨i, fpA, fpB, cc, hi, rfl, hT⟩ := hrel
      have HT := hid hT
      clear hT
      by_cases hlt : i < n
      · obtain ⟨lb, lf, rfl, q1⟩ := HL.out.at i (by omega)
        obtain ⟨x, hx⟩ : ∃ x, x = l.getD i 0 := ⟨_, rfl⟩
        rw [← hx] at q1
        clear hx
        have HCL : Hid (∀ wx, Below w.heap.size w wx → wx.cell? ⟨lb, lf + i, none⟩ = some (.int .i64 x)) := q1
        clear q1
        have hil : i < l.length := by omega
        have hi3 : (i : Int) < 300 := by omega
        by_cases hib : i < bk.length
        · obtain ⟨bb, bf, rfl, q2⟩ := HBK.out.at i hib
          have r2 := q2 wr HT.out.bl
          clear q2
          by_cases hbv : bk.getD i false = true
          · rw [hbv] at r2
            clear hbv
            go_upto_region 8 with fail
            have KC := hid (HD.out.ci x wr.drew p fpA _ (HT.out.drew HD.out).pa)
            refine wp_region_held_drew (S := fun wx => Hid (wx.cell? ⟨lb, lf + i, none⟩ = some (.int .i64 x))) (by kernel_rfl) (hid (HCL.out _ HT.out.bl.drew)) (fun hS => ?_)
            refine wpAnyH_take (i := 0) (v := .pointer (some p)) rfl (by kernel_rfl) (by kernel_rfl) (by kernel_rfl) (fun _ _ _ h => h) (Or.inl ⟨by rfl, fun w hSw => by go_simp⟩) hS ?_
            simp only [Act.put, List.getElem_toArray, List.getElem_cons_succ, List.getElem_cons_zero, List.setIfInBounds_toArray, List.set_cons_zero, List.set_cons_succ]
            refine wpAnyH_take (i := 1) (v := .slice (some ⟨lb, lf, none⟩) l.length lc) rfl (by kernel_rfl) (by kernel_rfl) (by kernel_rfl) (fun _ _ _ h => h) (Or.inl ⟨by rfl, fun w hSw => by go_simp⟩) hS ?_
            simp only [Act.put, List.getElem_toArray, List.getElem_cons_succ, List.getElem_cons_zero, List.setIfInBounds_toArray, List.set_cons_zero, List.set_cons_succ]
            refine wpAnyH_take (i := 2) (v := .int .i64 (i : Int)) rfl (by kernel_rfl) (by kernel_rfl) (by kernel_rfl) (fun _ _ _ h => h) (Or.inl ⟨by rfl, fun w hSw => by go_simp⟩) hS ?_
            simp only [Act.put, List.getElem_toArray, List.getElem_cons_succ, List.getElem_cons_zero, List.setIfInBounds_toArray, List.set_cons_zero, List.set_cons_succ]
            refine wpAnyH_take (i := 3) (v := .pointer (some ⟨lb, lf + i, none⟩)) rfl (by kernel_rfl) (by kernel_rfl) (by kernel_rfl) (fun _ _ _ h => h) (Or.inl ⟨by rfl, fun w hSw => by go_simp⟩) hS ?_
            simp only [Act.put, List.getElem_toArray, List.getElem_cons_succ, List.getElem_cons_zero, List.setIfInBounds_toArray, List.set_cons_zero, List.set_cons_succ]
            refine wpAnyH_take (i := 4) (v := .int .i64 x) rfl (by kernel_rfl) (by kernel_rfl) (by kernel_rfl) (fun _ _ _ h => h) (Or.inl ⟨by rfl, fun w hSw => by have d := hSw.out; go_simp⟩) hS ?_
            simp only [Act.put, List.getElem_toArray, List.getElem_cons_succ, List.getElem_cons_zero, List.setIfInBounds_toArray, List.set_cons_zero, List.set_cons_succ]
            refine wpAnyH_take (i := 6) (v := .pointer (some ⟨pc, 0, none⟩)) rfl (by kernel_rfl) (by kernel_rfl) (by kernel_rfl) (fun _ _ _ h => h) (Or.inl ⟨by rfl, fun w hSw => by go_simp⟩) hS ?_
            simp only [Act.put, List.getElem_toArray, List.getElem_cons_succ, List.getElem_cons_zero, List.setIfInBounds_toArray, List.set_cons_zero, List.set_cons_succ]
            refine wpAnyH_take (i := 7) (v := .slice (some ⟨lb, lf, none⟩) l.length lc) rfl (by kernel_rfl) (by kernel_rfl) (by kernel_rfl) (fun _ _ _ h => h) (Or.inl ⟨by rfl, fun w hSw => by go_simp⟩) hS ?_
            simp only [Act.put, List.getElem_toArray, List.getElem_cons_succ, List.getElem_cons_zero, List.setIfInBounds_toArray, List.set_cons_zero, List.set_cons_succ]
            refine wpAnyH_take (i := 8) (v := .int .i64 (i : Int)) rfl (by kernel_rfl) (by kernel_rfl) (by kernel_rfl) (fun _ _ _ h => h) (Or.inl ⟨by rfl, fun w hSw => by go_simp⟩) hS ?_
            simp only [Act.put, List.getElem_toArray, List.getElem_cons_succ, List.getElem_cons_zero, List.setIfInBounds_toArray, List.set_cons_zero, List.set_cons_succ]
            refine wpAnyH_take (i := 9) (v := .pointer (some ⟨lb, lf + i, none⟩)) rfl (by kernel_rfl) (by kernel_rfl) (by kernel_rfl) (fun _ _ _ h => h) (Or.inl ⟨by rfl, fun w hSw => by go_simp⟩) hS ?_
            simp only [Act.put, List.getElem_toArray, List.getElem_cons_succ, List.getElem_cons_zero, List.setIfInBounds_toArray, List.set_cons_zero, List.set_cons_succ]
            refine wpAnyH_take (i := 10) (v := .int .i64 x) rfl (by kernel_rfl) (by kernel_rfl) (by kernel_rfl) (fun _ _ _ h => h) (Or.inl ⟨by rfl, fun w hSw => by have d := hSw.out; go_simp⟩) hS ?_
            simp only [Act.put, List.getElem_toArray, List.getElem_cons_succ, List.getElem_cons_zero, List.setIfInBounds_toArray, List.set_cons_zero, List.set_cons_succ]
            refine wpAnyH_ready (rs := [5]) (by kernel_rfl) (by simp) ?_
            refine AllReadyH.cons rfl (fun K hK => ?_) AllReadyH.nil
            go_simp
            refine KC.out.mono ?_
            rintro e w5 ⟨rfl, hp, hs⟩
            have HT5 := hid ((HT.out.drew HD.out).goA hp hs)
            clear hp hs KC HT
            refine hK.out _ _ (hid (HCL.out w5 HT5.out.bl)) (fun hS2 => ?_)
            clear hK K hS
            try simp only [Act.put, List.getElem_toArray, List.getElem_cons_succ, List.getElem_cons_zero, List.setIfInBounds_toArray, List.set_cons_zero, List.set_cons_succ]
            refine wpAnyH_ready (rs := [11]) (by kernel_rfl) (by simp) ?_
            refine AllReadyH.cons rfl (fun K hK => ?_) AllReadyH.nil
            go_simp
            refine (xinv HT5.out.ch x).mono ?_
            rintro e w6 ⟨rfl, hp, hs⟩
            have HT6 := hid (HT5.out.goB HD.out hp hs)
            clear hp hs HT5
            refine hK.out _ _ (hid (HCL.out w6 HT6.out.bl)) (fun hS3 => ?_)
            clear hK K hS2
            try simp only [Act.put, List.getElem_toArray, List.getElem_cons_succ, List.getElem_cons_zero, List.setIfInBounds_toArray, List.set_cons_zero, List.set_cons_succ]
            generalize (goC true cc x).1 = y at *
            refine wpAnyH_take (i := 12) (v := .bool false) rfl (by kernel_rfl) (by kernel_rfl) (by kernel_rfl) (fun _ _ _ h => h) (Or.inl ⟨by rfl, fun w hSw => by go_simp⟩) hS3 ?_
            simp only [Act.put, List.getElem_toArray, List.getElem_cons_succ, List.getElem_cons_zero, List.setIfInBounds_toArray, List.set_cons_zero, List.set_cons_succ]
            refine wpAnyH_done (by kernel_rfl) ?_ _
            go_wp2_with fail
            go_roundw
            case rel => exact ⟨i + 1, _, _, _, by omega, by go_num, HT6.out⟩
            case measure => simp [intOf]; omega
          · have hbv : bk.getD i false = false := by cases h : bk.getD i false with | true => exact absurd h hbv | false => rfl
            rw [hbv] at r2
            clear hbv
            go_upto_region 10 with fail
            have KC := hid (HD.out.cf x wr.drew p fpA _ (HT.out.drew HD.out).pa)
            refine wp_region_held_drew (S := fun wx => Hid (wx.cell? ⟨lb, lf + i, none⟩ = some (.int .i64 x))) (by kernel_rfl) (hid (HCL.out _ HT.out.bl.drew)) (fun hS => ?_)
            refine wpAnyH_take (i := 0) (v := .pointer (some p)) rfl (by kernel_rfl) (by kernel_rfl) (by kernel_rfl) (fun _ _ _ h => h) (Or.inl ⟨by rfl, fun w hSw => by go_simp⟩) hS ?_
            simp only [Act.put, List.getElem_toArray, List.getElem_cons_succ, List.getElem_cons_zero, List.setIfInBounds_toArray, List.set_cons_zero, List.set_cons_succ]
            refine wpAnyH_take (i := 1) (v := .slice (some ⟨lb, lf, none⟩) l.length lc) rfl (by kernel_rfl) (by kernel_rfl) (by kernel_rfl) (fun _ _ _ h => h) (Or.inl ⟨by rfl, fun w hSw => by go_simp⟩) hS ?_
            simp only [Act.put, List.getElem_toArray, List.getElem_cons_succ, List.getElem_cons_zero, List.setIfInBounds_toArray, List.set_cons_zero, List.set_cons_succ]
            refine wpAnyH_take (i := 2) (v := .int .i64 (i : Int)) rfl (by kernel_rfl) (by kernel_rfl) (by kernel_rfl) (fun _ _ _ h => h) (Or.inl ⟨by rfl, fun w hSw => by go_simp⟩) hS ?_
            simp only [Act.put, List.getElem_toArray, List.getElem_cons_succ, List.getElem_cons_zero, List.setIfInBounds_toArray, List.set_cons_zero, List.set_cons_succ]
            refine wpAnyH_take (i := 3) (v := .pointer (some ⟨lb, lf + i, none⟩)) rfl (by kernel_rfl) (by kernel_rfl) (by kernel_rfl) (fun _ _ _ h => h) (Or.inl ⟨by rfl, fun w hSw => by go_simp⟩) hS ?_
            simp only [Act.put, List.getElem_toArray, List.getElem_cons_succ, List.getElem_cons_zero, List.setIfInBounds_toArray, List.set_cons_zero, List.set_cons_succ]
            refine wpAnyH_take (i := 4) (v := .int .i64 x) rfl (by kernel_rfl) (by kernel_rfl) (by kernel_rfl) (fun _ _ _ h => h) (Or.inl ⟨by rfl, fun w hSw => by have d := hSw.out; go_simp⟩) hS ?_
            simp only [Act.put, List.getElem_toArray, List.getElem_cons_succ, List.getElem_cons_zero, List.setIfInBounds_toArray, List.set_cons_zero, List.set_cons_succ]
            refine wpAnyH_take (i := 6) (v := .pointer (some ⟨pc, 0, none⟩)) rfl (by kernel_rfl) (by kernel_rfl) (by kernel_rfl) (fun _ _ _ h => h) (Or.inl ⟨by rfl, fun w hSw => by go_simp⟩) hS ?_
            simp only [Act.put, List.getElem_toArray, List.getElem_cons_succ, List.getElem_cons_zero, List.setIfInBounds_toArray, List.set_cons_zero, List.set_cons_succ]
            refine wpAnyH_take (i := 7) (v := .slice (some ⟨lb, lf, none⟩) l.length lc) rfl (by kernel_rfl) (by kernel_rfl) (by kernel_rfl) (fun _ _ _ h => h) (Or.inl ⟨by rfl, fun w hSw => by go_simp⟩) hS ?_
            simp only [Act.put, List.getElem_toArray, List.getElem_cons_succ, List.getElem_cons_zero, List.setIfInBounds_toArray, List.set_cons_zero, List.set_cons_succ]
            refine wpAnyH_take (i := 8) (v := .int .i64 (i : Int)) rfl (by kernel_rfl) (by kernel_rfl) (by kernel_rfl) (fun _ _ _ h => h) (Or.inl ⟨by rfl, fun w hSw => by go_simp⟩) hS ?_
            simp only [Act.put, List.getElem_toArray, List.getElem_cons_succ, List.getElem_cons_zero, List.setIfInBounds_toArray, List.set_cons_zero, List.set_cons_succ]
            refine wpAnyH_take (i := 9) (v := .pointer (some ⟨lb, lf + i, none⟩)) rfl (by kernel_rfl) (by kernel_rfl) (by kernel_rfl) (fun _ _ _ h => h) (Or.inl ⟨by rfl, fun w hSw => by go_simp⟩) hS ?_
            simp only [Act.put, List.getElem_toArray, List.getElem_cons_succ, List.getElem_cons_zero, List.setIfInBounds_toArray, List.set_cons_zero, List.set_cons_succ]
            refine wpAnyH_take (i := 10) (v := .int .i64 x) rfl (by kernel_rfl) (by kernel_rfl) (by kernel_rfl) (fun _ _ _ h => h) (Or.inl ⟨by rfl, fun w hSw => by have d := hSw.out; go_simp⟩) hS ?_
            simp only [Act.put, List.getElem_toArray, List.getElem_cons_succ, List.getElem_cons_zero, List.setIfInBounds_toArray, List.set_cons_zero, List.set_cons_succ]
            refine wpAnyH_ready (rs := [5]) (by kernel_rfl) (by simp) ?_
            refine AllReadyH.cons rfl (fun K hK => ?_) AllReadyH.nil
            go_simp
            refine KC.out.mono ?_
            rintro e w5 ⟨rfl, hp, hs⟩
            have HT5 := hid ((HT.out.drew HD.out).goA hp hs)
            clear hp hs KC HT
            refine hK.out _ _ (hid (HCL.out w5 HT5.out.bl)) (fun hS2 => ?_)
            clear hK K hS
            try simp only [Act.put, List.getElem_toArray, List.getElem_cons_succ, List.getElem_cons_zero, List.setIfInBounds_toArray, List.set_cons_zero, List.set_cons_succ]
            refine wpAnyH_ready (rs := [11]) (by kernel_rfl) (by simp) ?_
            refine AllReadyH.cons rfl (fun K hK => ?_) AllReadyH.nil
            go_simp
            refine (xfwd HT5.out.ch x).mono ?_
            rintro e w6 ⟨rfl, hp, hs⟩
            have HT6 := hid (HT5.out.goB HD.out hp hs)
            clear hp hs HT5
            refine hK.out _ _ (hid (HCL.out w6 HT6.out.bl)) (fun hS3 => ?_)
            clear hK K hS2
            try simp only [Act.put, List.getElem_toArray, List.getElem_cons_succ, List.getElem_cons_zero, List.setIfInBounds_toArray, List.set_cons_zero, List.set_cons_succ]
            generalize (goC false cc x).1 = y at *
            refine wpAnyH_take (i := 12) (v := .bool false) rfl (by kernel_rfl) (by kernel_rfl) (by kernel_rfl) (fun _ _ _ h => h) (Or.inl ⟨by rfl, fun w hSw => by go_simp⟩) hS3 ?_
            simp only [Act.put, List.getElem_toArray, List.getElem_cons_succ, List.getElem_cons_zero, List.setIfInBounds_toArray, List.set_cons_zero, List.set_cons_succ]
            refine wpAnyH_done (by kernel_rfl) ?_ _
            go_wp2_with fail
            go_roundw
            case rel => exact ⟨i + 1, _, _, _, by omega, by go_num, HT6.out⟩
            case measure => simp [intOf]; omega
        · go_upto_region 10 with fail
          have KC := hid (HD.out.cf x wr.drew p fpA _ (HT.out.drew HD.out).pa)
          refine wp_region_held_drew (S := fun wx => Hid (wx.cell? ⟨lb, lf + i, none⟩ = some (.int .i64 x))) (by kernel_rfl) (hid (HCL.out _ HT.out.bl.drew)) (fun hS => ?_)
          refine wpAnyH_take (i := 0) (v := .pointer (some p)) rfl (by kernel_rfl) (by kernel_rfl) (by kernel_rfl) (fun _ _ _ h => h) (Or.inl ⟨by rfl, fun w hSw => by go_simp⟩) hS ?_
          simp only [Act.put, List.getElem_toArray, List.getElem_cons_succ, List.getElem_cons_zero, List.setIfInBounds_toArray, List.set_cons_zero, List.set_cons_succ]
          refine wpAnyH_take (i := 1) (v := .slice (some ⟨lb, lf, none⟩) l.length lc) rfl (by kernel_rfl) (by kernel_rfl) (by kernel_rfl) (fun _ _ _ h => h) (Or.inl ⟨by rfl, fun w hSw => by go_simp⟩) hS ?_
          simp only [Act.put, List.getElem_toArray, List.getElem_cons_succ, List.getElem_cons_zero, List.setIfInBounds_toArray, List.set_cons_zero, List.set_cons_succ]
          refine wpAnyH_take (i := 2) (v := .int .i64 (i : Int)) rfl (by kernel_rfl) (by kernel_rfl) (by kernel_rfl) (fun _ _ _ h => h) (Or.inl ⟨by rfl, fun w hSw => by go_simp⟩) hS ?_
          simp only [Act.put, List.getElem_toArray, List.getElem_cons_succ, List.getElem_cons_zero, List.setIfInBounds_toArray, List.set_cons_zero, List.set_cons_succ]
          refine wpAnyH_take (i := 3) (v := .pointer (some ⟨lb, lf + i, none⟩)) rfl (by kernel_rfl) (by kernel_rfl) (by kernel_rfl) (fun _ _ _ h => h) (Or.inl ⟨by rfl, fun w hSw => by go_simp⟩) hS ?_
          simp only [Act.put, List.getElem_toArray, List.getElem_cons_succ, List.getElem_cons_zero, List.setIfInBounds_toArray, List.set_cons_zero, List.set_cons_succ]
          refine wpAnyH_take (i := 4) (v := .int .i64 x) rfl (by kernel_rfl) (by kernel_rfl) (by kernel_rfl) (fun _ _ _ h => h) (Or.inl ⟨by rfl, fun w hSw => by have d := hSw.out; go_simp⟩) hS ?_
          simp only [Act.put, List.getElem_toArray, List.getElem_cons_succ, List.getElem_cons_zero, List.setIfInBounds_toArray, List.set_cons_zero, List.set_cons_succ]
          refine wpAnyH_take (i := 6) (v := .pointer (some ⟨pc, 0, none⟩)) rfl (by kernel_rfl) (by kernel_rfl) (by kernel_rfl) (fun _ _ _ h => h) (Or.inl ⟨by rfl, fun w hSw => by go_simp⟩) hS ?_
          simp only [Act.put, List.getElem_toArray, List.getElem_cons_succ, List.getElem_cons_zero, List.setIfInBounds_toArray, List.set_cons_zero, List.set_cons_succ]
          refine wpAnyH_take (i := 7) (v := .slice (some ⟨lb, lf, none⟩) l.length lc) rfl (by kernel_rfl) (by kernel_rfl) (by kernel_rfl) (fun _ _ _ h => h) (Or.inl ⟨by rfl, fun w hSw => by go_simp⟩) hS ?_
          simp only [Act.put, List.getElem_toArray, List.getElem_cons_succ, List.getElem_cons_zero, List.setIfInBounds_toArray, List.set_cons_zero, List.set_cons_succ]
          refine wpAnyH_take (i := 8) (v := .int .i64 (i : Int)) rfl (by kernel_rfl) (by kernel_rfl) (by kernel_rfl) (fun _ _ _ h => h) (Or.inl ⟨by rfl, fun w hSw => by go_simp⟩) hS ?_
          simp only [Act.put, List.getElem_toArray, List.getElem_cons_succ, List.getElem_cons_zero, List.setIfInBounds_toArray, List.set_cons_zero, List.set_cons_succ]
          refine wpAnyH_take (i := 9) (v := .pointer (some ⟨lb, lf + i, none⟩)) rfl (by kernel_rfl) (by kernel_rfl) (by kernel_rfl) (fun _ _ _ h => h) (Or.inl ⟨by rfl, fun w hSw => by go_simp⟩) hS ?_
          simp only [Act.put, List.getElem_toArray, List.getElem_cons_succ, List.getElem_cons_zero, List.setIfInBounds_toArray, List.set_cons_zero, List.set_cons_succ]
          refine wpAnyH_take (i := 10) (v := .int .i64 x) rfl (by kernel_rfl) (by kernel_rfl) (by kernel_rfl) (fun _ _ _ h => h) (Or.inl ⟨by rfl, fun w hSw => by have d := hSw.out; go_simp⟩) hS ?_
          simp only [Act.put, List.getElem_toArray, List.getElem_cons_succ, List.getElem_cons_zero, List.setIfInBounds_toArray, List.set_cons_zero, List.set_cons_succ]
          refine wpAnyH_ready (rs := [5]) (by kernel_rfl) (by simp) ?_
          refine AllReadyH.cons rfl (fun K hK => ?_) AllReadyH.nil
          go_simp
          refine KC.out.mono ?_
          rintro e w5 ⟨rfl, hp, hs⟩
          have HT5 := hid ((HT.out.drew HD.out).goA hp hs)
          clear hp hs KC HT
          refine hK.out _ _ (hid (HCL.out w5 HT5.out.bl)) (fun hS2 => ?_)
          clear hK K hS
          try simp only [Act.put, List.getElem_toArray, List.getElem_cons_succ, List.getElem_cons_zero, List.setIfInBounds_toArray, List.set_cons_zero, List.set_cons_succ]
          refine wpAnyH_ready (rs := [11]) (by kernel_rfl) (by simp) ?_
          refine AllReadyH.cons rfl (fun K hK => ?_) AllReadyH.nil
          go_simp
          refine (xfwd HT5.out.ch x).mono ?_
          rintro e w6 ⟨rfl, hp, hs⟩
          have HT6 := hid (HT5.out.goB HD.out hp hs)
          clear hp hs HT5
          refine hK.out _ _ (hid (HCL.out w6 HT6.out.bl)) (fun hS3 => ?_)
          clear hK K hS2
          try simp only [Act.put, List.getElem_toArray, List.getElem_cons_succ, List.getElem_cons_zero, List.setIfInBounds_toArray, List.set_cons_zero, List.set_cons_succ]
          generalize (goC false cc x).1 = y at *
          refine wpAnyH_take (i := 12) (v := .bool false) rfl (by kernel_rfl) (by kernel_rfl) (by kernel_rfl) (fun _ _ _ h => h) (Or.inl ⟨by rfl, fun w hSw => by go_simp⟩) hS3 ?_
          simp only [Act.put, List.getElem_toArray, List.getElem_cons_succ, List.getElem_cons_zero, List.setIfInBounds_toArray, List.set_cons_zero, List.set_cons_succ]
          refine wpAnyH_done (by kernel_rfl) ?_ _
          go_wp2_with fail
          go_roundw
          case rel => exact ⟨i + 1, _, _, _, by omega, by go_num, HT6.out⟩
          case measure => simp [intOf]; omega
      · have hie : i = n := by omega
        subst hie
        have HZ0 := hid HT.out.bl
        clear HT
        go_upto_region 5 with fail
        go_cut [46] from 39 to 46 (fun s46 wx => s46 = .bool false ∧ wx = wr)
        case first =>
          rcases HNE.out with he | he
          · have hq : ¬ i < l.length := by omega
            clear he HNE
            go_wp2_with fail
            go_meet
            exact ⟨rfl, rfl⟩
          · have hq : ¬ (i : Int) < 300 := by omega
            by_cases hq2 : i < l.length
            · clear he HNE
              go_wp2_with fail
              go_meet
              exact ⟨rfl, rfl⟩
            · clear he HNE
              go_wp2_with fail
              go_meet
              exact ⟨rfl, rfl⟩
        case rest =>
          obtain ⟨rfl, hw⟩ := hcut
          subst hw
          go_wp2_with fail
          refine (awake17 HD.out _).mono ?_
          rintro e wz ⟨rfl, hb⟩
          have HZ := hid (below_on HZ0.out HZ0.out.size hb)
          clear hb HZ0
          go_wp2_with fail
          go_ret
          exact ⟨rfl, HZ.out⟩

end Go.Proofs.Ytecdcmjeiogenaa
