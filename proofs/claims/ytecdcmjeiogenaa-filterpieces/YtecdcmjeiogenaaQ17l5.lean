/- Own text: the walk of FilterPieces. -/
import Derived.Test.YtecdcmjeiogenaaQ17l2
import Derived.Deep.CutRange
namespace Go.Proofs.Ytecdcmjeiogenaa
open Go.RowKit
set_option linter.unusedSimpArgs false
set_option linter.unusedVariables false
attribute [local go_sem] Oper.semAt_some

set_option maxRecDepth 20000 in
set_option maxHeartbeats 3200000 in
theorem pieces17 {PCh : ChP} (D : Does17 PCh) (level at0 : Int) (l : List Int) (lo : Option Addr) (lc : Nat) (w : World) (hl : IntsAt w lo l) : Calls Try.prog 7 #[.int .i64 level, .slice lo l.length lc, .int .i64 at0] w fun e w' => e = .returned (.bool true) ∧ Below w.heap.size w w' := by
  have HD := hid D
  have HL := hid hl
  have hlen := hl.len
  clear D hl
  have HLV : Hid ((if 0 < (if 2 < level then 2 else level) then (if 2 < level then 2 else level) else 0) = lvN level) := by show _ = _; unfold lvN; (repeat' split) <;> omega
  obtain ⟨c, hc⟩ := lvN_c level
  have HC := hid hc
  clear hc
  obtain ⟨n, hn⟩ : ∃ n, n = min l.length 300 := ⟨_, rfl⟩
  have hnl : n ≤ l.length := by omega
  have hn5 : n ≤ 300 := by omega
  have HNE : Hid (n = l.length ∨ n = 300) := by show _ ∨ _; omega
  clear hn
  go_enter Try.func7, Try.ntmps7
  go_upto_region 2 with fail
  rw [HLV.out]
  clear HLV
  generalize lvN level = lv at *
  generalize (if 2 < level then (2 : Int) else level) = lm
  go_wp2_with fail
  go_loopw [7, 8] (fun s5 s6 wr => ∃ (i : Nat) (v : Value), i ≤ n ∧ s6 = .int .i64 (i : Int) ∧ s5 = v ∧ Out w v ((l.take i).map w32) wr) (fun _ s6 _ => n - (intOf s6).toNat)
  case atStart => exact ⟨0, _, Nat.zero_le _, rfl, rfl, Out.nil w⟩
  case round =>
    obtain ⟨i, v, hi, rfl, rfl, ho⟩ := hrel
    obtain ⟨ao, cap, ev⟩ := owns_sl ho.own
    rw [List.length_map, List.length_take, Nat.min_eq_left (by omega)] at ev
    subst ev
    have HO := hid ho
    clear ho
    by_cases hlt : i < n
    · obtain ⟨lb, off, rfl, q1⟩ := HL.out.at i (by omega)
      have r1 := q1 wr HO.out.below
      have HNX := hid (map_snoc l i (by omega))
      have HIL : Hid (((l.take i).map w32).length = i) := by show _ = _; rw [List.length_map, List.length_take]; omega
      have hi1 : i < l.length := by omega
      have hi5 : (i : Int) < 300 := by omega
      clear q1
      generalize l.getD i 0 = y at *
      have HY : Hid (wrap64 (wrap32 y) = w32 y) := wrap_64_32 y
      obtain ⟨iI, hI0, hI1, hI2, hI3⟩ := int_info
      have HII : Hid (Try.prog.info? 3 = some iI ∧ iI.zero = some (.int .i64 0) ∧ iI.size = 1 ∧ iI.bytes = 8) := ⟨hI0, hI1, hI2, hI3⟩
      clear hI0 hI1 hI2 hI3
      go_wp2_with (at_builtin; go_loud (refine wpList_append_row _ rfl (.tmp 28) (.tmp 35) 22 rfl w.heap.size 3 iI (.int .i64 0) 1 8 undI3 HII.out.1 HII.out.2.1 HII.out.2.2.1 HII.out.2.2.2 rfl (by decide) (.slice ao i cap) i _ rfl (HO.out.own1 HIL.out (below_new _ _)) ⟨wr.heap.size, 0, none⟩ 1 1 [.int .i64 (wrap64 (wrap32 y))] rfl rfl (one_new wr _ _) (by simp [Value.oneCell']) (by simp only [maxLen]; omega) (by omega) (by have := HO.out.below.size; simp; omega) ?_); intro v7 w7 ho7 hg7 hx7)
      have H7 : Hid (Out w v7 ((l.take (i + 1)).map w32) w7) := by
        have h8 := HO.out.pushv HIL.out ho7.out hg7.out
        rw [HY.out] at h8
        rw [HNX.out]
        exact h8
      clear ho7 hg7 hx7 HO
      go_roundw
      case rel => exact ⟨i + 1, v7, by omega, by go_num, by rfl, H7.out⟩
      case measure => simp [intOf]; omega
    · have hie : i = n := by omega
      subst hie
      obtain ⟨ao2, cap2, e2, hm, hc2⟩ := HO.out.done (n := i) (by rw [List.length_map, List.length_take]; omega) (by omega) (w32_map _)
      injection e2 with e3 _ e5
      subst e3 e5
      have HBL := hid HO.out.below
      obtain ⟨ms, hms⟩ : ∃ ms, ms = (l.take i).map w32 := ⟨_, rfl⟩
      have HML : Hid (ms.length = i) := by show _ = _; rw [hms, List.length_map, List.length_take]; omega
      have h32 : ∀ x ∈ ms, In32 x := by rw [hms]; exact w32_map _
      rw [← hms] at hm
      have HQ : Hid (allC false lv ms = some (runC false c ms) ∧ ∀ j, allC false lv (ms.take j) = some ((runC false c ms).take j)) := ⟨allC_some HC.out h32, fun j => by rw [allC_some HC.out (fun x hx => h32 x (List.mem_of_mem_take hx)), runC_take]⟩
      have HAT : Hid (∀ j, j < i → (runC false c ms).getD j 0 = (goC false (aftC false c (ms.take j)) (ms.getD j 0)).1 ∧ aftC false c (ms.take (j + 1)) = (goC false (aftC false c (ms.take j)) (ms.getD j 0)).2) := fun j hj => ⟨runC_at false c ms j (by rw [HML.out]; exact hj), aftC_at false c ms j (by rw [HML.out]; exact hj)⟩
      have HAL : Hid ((runC false c ms).length = i) := by show _ = _; rw [runC_len, HML.out]
      generalize runC false c ms = A at *
      have HM := hid hm
      have hcm : ms.length ≤ cap := by rw [HML.out]; exact hc2
      have HCM := hid hcm
      have hci : i ≤ cap := hc2
      clear hms h32 hm HO HL hc2 hcm
      go_upto_region 4 with fail
      go_cut [25] from 18 to 25 (fun s25 wx => s25 = .bool false ∧ wx = wr)
      case first =>
        rcases HNE.out with he | he
        · have hq : ¬ i < l.length := by omega
          clear he HNE
          go_wp2_with fail
          go_meet
          exact ⟨rfl, rfl⟩
        · have hq : ¬ (i : Int) < 300 := by omega
          by_cases hq2 : i < l.length
          · clear he HNE
            go_wp2_with fail
            go_meet
            exact ⟨rfl, rfl⟩
          · clear he HNE
            go_wp2_with fail
            go_meet
            exact ⟨rfl, rfl⟩
      case rest =>
        obtain ⟨rfl, hw⟩ := hcut
        subst hw
        go_wp2_with fail
        have kk := HD.out.fwd lv ms ao cap wc HM.out HCM.out
        rw [HML.out, HQ.out.1, ret_s] at kk
        refine kk.mono ?_
        clear kk
        rintro e wN ⟨a1, c1, rfl, h1, hc1, hb⟩
        have HN : Hid (IntsAt wN ao ms ∧ IntsAt wN a1 A ∧ Below w.heap.size w wN) := ⟨HM.out.below hb, h1, below_on HBL.out HBL.out.size hb⟩
        have hc1i : i ≤ c1 := by rw [HAL.out] at hc1; exact hc1
        clear HM HBL h1 hb hc1
        rw [HAL.out]
        go_wp2_with fail
        refine (HD.out.new lv c wN HC.out).mono ?_
        rintro e wP ⟨p, fp, rfl, hp, hf, hb⟩
        have HP0 : Hid (PCh wP p fp c ∧ (∀ b, fp b → wN.heap.size ≤ b) ∧ Below wN.heap.size wN wP) := ⟨hp, fun b q => (hf b q).1, hb⟩
        clear hp hf hb
        obtain ⟨at2, hat2⟩ : ∃ a : Nat, (if 0 < (if (i : Int) < at0 then (i : Int) else at0) then (if (i : Int) < at0 then (i : Int) else at0) else 0) = (a : Int) ∧ a ≤ i := by
          refine ⟨((if 0 < (if (i : Int) < at0 then (i : Int) else at0) then (if (i : Int) < at0 then (i : Int) else at0) else 0)).toNat, ?_, ?_⟩ <;> ((repeat' split) <;> omega)
        have HA2 := hid hat2.1
        have hai := hat2.2
        clear hat2
        go_upto_region 12 with fail
        rw [HA2.out]
        clear HA2
        generalize (if (i : Int) < at0 then (i : Int) else at0) = zz
        go_wp2_with fail
        go_loopw [12] (fun s12 wr => ∃ (k : Nat) (fp : Nat → Prop), k ≤ i ∧ s12 = .int .i64 (k : Int) ∧ PCh wr p fp (aftC false c (ms.take k)) ∧ (∀ b, fp b → wN.heap.size ≤ b) ∧ Below wN.heap.size wN wr) (fun s12 _ => i - (intOf s12).toNat)
        case atStart => exact ⟨0, fp, Nat.zero_le _, rfl, HP0.out⟩
        case round =>
          clear HP0
          obtain ⟨k, fp, hk, rfl, hP⟩ := hrel
          have HP : Hid (PCh wr p fp (aftC false c (ms.take k)) ∧ (∀ b, fp b → wN.heap.size ≤ b) ∧ Below wN.heap.size wN wr) := hP
          clear hP
          by_cases hlt : k < i
          · obtain ⟨mb, mo, rfl, q1⟩ := HN.out.1.at k (by rw [HML.out]; exact hlt)
            obtain ⟨ab, ai, rfl, q2⟩ := HN.out.2.1.at k (by rw [HAL.out]; exact hlt)
            obtain ⟨hat1, hat2⟩ := HAT.out k hlt
            rw [hat1] at q2
            obtain ⟨x, hx⟩ : ∃ x, x = ms.getD k 0 := ⟨_, rfl⟩
            rw [← hx] at q1 q2 hat2
            clear hat1 hx
            have HNX : Hid (aftC false c (ms.take (k + 1)) = (goC false (aftC false c (ms.take k)) x).2) := hat2
            clear hat2
            obtain ⟨y, hy⟩ : ∃ y, y = (goC false (aftC false c (ms.take k)) x).1 := ⟨_, rfl⟩
            have HE : Hid ((goC false (aftC false c (ms.take k)) x).1 = y) := hy.symm
            rw [← hy] at q2
            clear hy
            have HCL : Hid (∀ wx, Below wN.heap.size wN wx → wx.cell? ⟨mb, mo + k, none⟩ = some (.int .i64 x) ∧ wx.cell? ⟨ab, ai + k, none⟩ = some (.int .i64 y)) := fun wx hb => ⟨q1 wx hb, q2 wx hb⟩
            clear q1 q2
            have KC := hid (HD.out.cf x wr.drew p fp _ (HD.out.keep wr wr.drew p fp _ HP.out.1 (Nat.le_refl _) (fun _ _ _ => rfl)))
            go_upto_region 15 with fail
            refine wp_region_held_drew (S := fun wx => Hid (wx.cell? ⟨mb, mo + k, none⟩ = some (.int .i64 x) ∧ wx.cell? ⟨ab, ai + k, none⟩ = some (.int .i64 y))) (by kernel_rfl) (hid (HCL.out _ (HP.out.2.2.drew))) (fun hS => ?_)
            refine wpAnyH_take (i := 0) (v := .pointer (some p)) rfl (by kernel_rfl) (by kernel_rfl) (by kernel_rfl) (fun _ _ _ h => h) (Or.inl ⟨by rfl, fun w hSw => by go_simp⟩) hS ?_
            simp only [Act.put, List.getElem_toArray, List.getElem_cons_succ, List.getElem_cons_zero, List.setIfInBounds_toArray, List.set_cons_zero, List.set_cons_succ]
            refine wpAnyH_take (i := 1) (v := .slice (some ⟨mb, mo, none⟩) i cap) rfl (by kernel_rfl) (by kernel_rfl) (by kernel_rfl) (fun _ _ _ h => h) (Or.inl ⟨by rfl, fun w hSw => by go_simp⟩) hS ?_
            simp only [Act.put, List.getElem_toArray, List.getElem_cons_succ, List.getElem_cons_zero, List.setIfInBounds_toArray, List.set_cons_zero, List.set_cons_succ]
            refine wpAnyH_take (i := 2) (v := .int .i64 (k : Int)) rfl (by kernel_rfl) (by kernel_rfl) (by kernel_rfl) (fun _ _ _ h => h) (Or.inl ⟨by rfl, fun w hSw => by go_simp⟩) hS ?_
            simp only [Act.put, List.getElem_toArray, List.getElem_cons_succ, List.getElem_cons_zero, List.setIfInBounds_toArray, List.set_cons_zero, List.set_cons_succ]
            refine wpAnyH_take (i := 3) (v := .pointer (some ⟨mb, mo + k, none⟩)) rfl (by kernel_rfl) (by kernel_rfl) (by kernel_rfl) (fun _ _ _ h => h) (Or.inl ⟨by rfl, fun w hSw => by go_simp⟩) hS ?_
            simp only [Act.put, List.getElem_toArray, List.getElem_cons_succ, List.getElem_cons_zero, List.setIfInBounds_toArray, List.set_cons_zero, List.set_cons_succ]
            refine wpAnyH_take (i := 4) (v := .int .i64 x) rfl (by kernel_rfl) (by kernel_rfl) (by kernel_rfl) (fun _ _ _ h => h) (Or.inl ⟨by rfl, fun w hSw => by have d := hSw.out.1; go_simp⟩) hS ?_
            simp only [Act.put, List.getElem_toArray, List.getElem_cons_succ, List.getElem_cons_zero, List.setIfInBounds_toArray, List.set_cons_zero, List.set_cons_succ]
            refine wpAnyH_take (i := 6) (v := .slice (some ⟨ab, ai, none⟩) i c1) rfl (by kernel_rfl) (by kernel_rfl) (by kernel_rfl) (fun _ _ _ h => h) (Or.inl ⟨by rfl, fun w hSw => by go_simp⟩) hS ?_
            simp only [Act.put, List.getElem_toArray, List.getElem_cons_succ, List.getElem_cons_zero, List.setIfInBounds_toArray, List.set_cons_zero, List.set_cons_succ]
            refine wpAnyH_take (i := 7) (v := .int .i64 (k : Int)) rfl (by kernel_rfl) (by kernel_rfl) (by kernel_rfl) (fun _ _ _ h => h) (Or.inl ⟨by rfl, fun w hSw => by go_simp⟩) hS ?_
            simp only [Act.put, List.getElem_toArray, List.getElem_cons_succ, List.getElem_cons_zero, List.setIfInBounds_toArray, List.set_cons_zero, List.set_cons_succ]
            refine wpAnyH_take (i := 8) (v := .pointer (some ⟨ab, ai + k, none⟩)) rfl (by kernel_rfl) (by kernel_rfl) (by kernel_rfl) (fun _ _ _ h => h) (Or.inl ⟨by rfl, fun w hSw => by go_simp⟩) hS ?_
            simp only [Act.put, List.getElem_toArray, List.getElem_cons_succ, List.getElem_cons_zero, List.setIfInBounds_toArray, List.set_cons_zero, List.set_cons_succ]
            refine wpAnyH_take (i := 9) (v := .int .i64 y) rfl (by kernel_rfl) (by kernel_rfl) (by kernel_rfl) (fun _ _ _ h => h) (Or.inl ⟨by rfl, fun w hSw => by have d := hSw.out.2; go_simp⟩) hS ?_
            simp only [Act.put, List.getElem_toArray, List.getElem_cons_succ, List.getElem_cons_zero, List.setIfInBounds_toArray, List.set_cons_zero, List.set_cons_succ]
            refine wpAnyH_ready (rs := [5]) (by kernel_rfl) (by simp) ?_
            refine AllReadyH.cons rfl (fun K hK => ?_) AllReadyH.nil
            go_simp
            refine KC.out.mono ?_
            rintro e w5 ⟨rfl, hp, hs⟩
            have HP5 : Hid (PCh w5 p (grew fp wr.drew w5) (aftC false c (ms.take (k + 1))) ∧ (∀ b, grew fp wr.drew w5 b → wN.heap.size ≤ b) ∧ Below wN.heap.size wN w5) := by
              rw [HNX.out]
              refine ⟨hp, fun b q => ?_, HP.out.2.2.trans ((Stays.trans (Stays.of_below (below_drew wr) fp) hs (fun _ _ q => q)).below HP.out.2.2.size (fun b hb q => by have := HP.out.2.1 b q; omega))⟩
              rcases q with q | q
              · exact HP.out.2.1 b q
              · have := HP.out.2.2.size
                have := q.1
                have e : wr.drew.heap.size = wr.heap.size := rfl
                omega
            rw [HE.out]
            refine hK.out _ _ (hid (HCL.out w5 HP5.out.2.2)) (fun hS2 => ?_)
            clear hK K hS hp hs KC HP
            try simp only [Act.put, List.getElem_toArray, List.getElem_cons_succ, List.getElem_cons_zero, List.setIfInBounds_toArray, List.set_cons_zero, List.set_cons_succ]
            refine wpAnyH_take (i := 10) (v := .bool false) rfl (by kernel_rfl) (by kernel_rfl) (by kernel_rfl) (fun _ _ _ h => h) (Or.inl ⟨by rfl, fun w hSw => by go_simp⟩) hS2 ?_
            simp only [Act.put, List.getElem_toArray, List.getElem_cons_succ, List.getElem_cons_zero, List.setIfInBounds_toArray, List.set_cons_zero, List.set_cons_succ]
            refine wpAnyH_done (by kernel_rfl) ?_ _
            go_wp2_with fail
            go_roundw
            case rel => exact ⟨k + 1, _, by omega, by go_num, HP5.out⟩
            case measure => simp [intOf]; omega
          · have hke : k = i := by omega
            subst hke
            have HN2 : Hid (IntsAt wr ao (ms.take at2) ∧ IntsAt wr a1 (A.take at2) ∧ Below w.heap.size w wr) := ⟨(HN.out.1.below HP.out.2.2).take at2 (by rw [HML.out]; exact hai), (HN.out.2.1.below HP.out.2.2).take at2 (by rw [HAL.out]; exact hai), below_on HN.out.2.2 HN.out.2.2.size HP.out.2.2⟩
            have HMT : Hid ((ms.take at2).length = at2) := by show _ = _; rw [List.length_take, HML.out]; omega
            have HTL : Hid ((A.take at2).length = at2) := by show _ = _; rw [List.length_take, HAL.out]; omega
            have hac : at2 ≤ cap := by omega
            have hac1 : at2 ≤ c1 := by omega
            clear HN HP
            go_wp2_with fail
            have kk := HD.out.fwd lv (ms.take at2) ao cap wr HN2.out.1 (by rw [HMT.out]; exact hac)
            rw [HMT.out, HQ.out.2, ret_s] at kk
            refine kk.mono ?_
            clear kk
            rintro e w6 ⟨a2, c2, rfl, h1, _, hb⟩
            have HX : Hid (IntsAt w6 a2 (A.take at2) ∧ IntsAt w6 a1 (A.take at2) ∧ Below w.heap.size w w6) := ⟨h1, HN2.out.2.1.below hb, below_on HN2.out.2.2 HN2.out.2.2.size hb⟩
            clear HN2 h1 hb
            rw [HTL.out]
            go_wp2_with fail
            have s1 := same_same (A.take at2) a2 a1 c2 c1 w6 HX.out.1 HX.out.2.1
            rw [HTL.out] at s1
            refine s1.mono ?_
            clear s1
            rintro e w7 ⟨rfl, m, hw⟩
            have HX7 : Hid (Below w.heap.size w w7) := by
              have hb : Below w6.heap.size w6 w7 := by rw [hw]; exact below_drewN _ _
              exact below_on HX.out.2.2 HX.out.2.2.size hb
            clear HX hw
            go_wp2_with fail
            refine (awake17 HD.out _).mono ?_
            rintro e wz ⟨rfl, hb⟩
            have HZ : Hid (Below w.heap.size w wz) := below_on HX7.out HX7.out.size hb
            clear HX7 hb
            go_wp2_with fail
            go_ret
            exact ⟨rfl, HZ.out⟩

end Go.Proofs.Ytecdcmjeiogenaa
