/- Own text: the walk of FilterBack. -/
import Derived.Test.YtecdcmjeiogenaaQ17l2
import Derived.Deep.CutRange
namespace Go.Proofs.Ytecdcmjeiogenaa
open Go.RowKit
set_option linter.unusedSimpArgs false
set_option linter.unusedVariables false
attribute [local go_sem] Oper.semAt_some

set_option maxRecDepth 20000 in
set_option maxHeartbeats 3200000 in
theorem back17 {PCh : ChP} (D : Does17 PCh) (level : Int) (l : List Int) (lo : Option Addr) (lc : Nat) (w : World) (hl : IntsAt w lo l) : Calls Try.prog 5 #[.int .i64 level, .slice lo l.length lc] w fun e w' => e = .returned (.bool true) ∧ Below w.heap.size w w' := by
  have HD := hid D
  have HL := hid hl
  have hlen := hl.len
  clear D hl
  have HLV : Hid ((if 0 < (if 2 < level then 2 else level) then (if 2 < level then 2 else level) else 0) = lvN level) := by show _ = _; unfold lvN; (repeat' split) <;> omega
  obtain ⟨c, hc⟩ := lvN_c level
  have HC := hid hc
  clear hc
  obtain ⟨n, hn⟩ : ∃ n, n = min l.length 500 := ⟨_, rfl⟩
  have hnl : n ≤ l.length := by omega
  have hn5 : n ≤ 500 := by omega
  have HNE : Hid (n = l.length ∨ n = 500) := by show _ ∨ _; omega
  clear hn
  go_enter Try.func5, Try.ntmps5
  go_upto_region 2 with fail
  rw [HLV.out]
  clear HLV
  generalize lvN level = lv at *
  generalize (if 2 < level then (2 : Int) else level) = lm
  go_wp2_with fail
  go_loopw [5, 6] (fun s5 s6 wr => ∃ (i : Nat) (v : Value), i ≤ n ∧ s6 = .int .i64 (i : Int) ∧ s5 = v ∧ Out w v ((l.take i).map w32) wr) (fun _ s6 _ => n - (intOf s6).toNat)
  case atStart => exact ⟨0, _, Nat.zero_le _, rfl, rfl, Out.nil w⟩
  case round =>
    obtain ⟨i, v, hi, rfl, rfl, ho⟩ := hrel
    obtain ⟨ao, cap, ev⟩ := owns_sl ho.own
    rw [List.length_map, List.length_take, Nat.min_eq_left (by omega)] at ev
    subst ev
    have HO := hid ho
    clear ho
    by_cases hlt : i < n
    · obtain ⟨lb, off, rfl, q1⟩ := HL.out.at i (by omega)
      have r1 := q1 wr HO.out.below
      have HNX := hid (map_snoc l i (by omega))
      have HIL : Hid (((l.take i).map w32).length = i) := by show _ = _; rw [List.length_map, List.length_take]; omega
      have hi1 : i < l.length := by omega
      have hi5 : (i : Int) < 500 := by omega
      clear q1
      generalize l.getD i 0 = y at *
      have HY : Hid (wrap64 (wrap32 y) = w32 y) := wrap_64_32 y
      obtain ⟨iI, hI0, hI1, hI2, hI3⟩ := int_info
      have HII : Hid (Try.prog.info? 3 = some iI ∧ iI.zero = some (.int .i64 0) ∧ iI.size = 1 ∧ iI.bytes = 8) := ⟨hI0, hI1, hI2, hI3⟩
      clear hI0 hI1 hI2 hI3
      go_wp2_with (at_builtin; go_loud (refine wpList_append_row _ rfl (.tmp 28) (.tmp 35) 22 rfl w.heap.size 3 iI (.int .i64 0) 1 8 undI3 HII.out.1 HII.out.2.1 HII.out.2.2.1 HII.out.2.2.2 rfl (by decide) (.slice ao i cap) i _ rfl (HO.out.own1 HIL.out (below_new _ _)) ⟨wr.heap.size, 0, none⟩ 1 1 [.int .i64 (wrap64 (wrap32 y))] rfl rfl (one_new wr _ _) (by simp [Value.oneCell']) (by simp only [maxLen]; omega) (by omega) (by have := HO.out.below.size; simp; omega) ?_); intro v7 w7 ho7 hg7 hx7)
      have H7 : Hid (Out w v7 ((l.take (i + 1)).map w32) w7) := by
        have h8 := HO.out.pushv HIL.out ho7.out hg7.out
        rw [HY.out] at h8
        rw [HNX.out]
        exact h8
      clear ho7 hg7 hx7 HO
      go_roundw
      case rel => exact ⟨i + 1, v7, by omega, by go_num, by rfl, H7.out⟩
      case measure => simp [intOf]; omega
    · have hie : i = n := by omega
      subst hie
      obtain ⟨ao2, cap2, e2, hm, hc2⟩ := HO.out.done (n := i) (by rw [List.length_map, List.length_take]; omega) (by omega) (w32_map _)
      injection e2 with e3 _ e5
      subst e3 e5
      have HBL := hid HO.out.below
      obtain ⟨ms, hms⟩ : ∃ ms, ms = (l.take i).map w32 := ⟨_, rfl⟩
      have HML : Hid (ms.length = i) := by show _ = _; rw [hms, List.length_map, List.length_take]; omega
      have h32 : ∀ x ∈ ms, In32 x := by rw [hms]; exact w32_map _
      rw [← hms] at hm
      obtain ⟨q1, q2, q3, q4⟩ := four_all HC.out h32
      generalize runC false c ms = A at *
      generalize runC true c ms = B at *
      have HQ : Hid (allC false lv ms = some A ∧ allC true lv A = some ms ∧ allC true lv ms = some B ∧ allC false lv B = some ms) := ⟨q1, q2, q3, q4⟩
      have HM := hid hm
      have hcm : ms.length ≤ cap := by rw [HML.out]; exact hc2
      have HCM := hid hcm
      clear hms h32 hm q1 q2 q3 q4 HO HL hc2 hcm
      go_upto_region 4 with fail
      go_cut [25] from 18 to 25 (fun s25 wx => s25 = .bool false ∧ wx = wr)
      case first =>
        rcases HNE.out with he | he
        · have hq : ¬ i < l.length := by omega
          clear he HNE
          go_wp2_with fail
          go_meet
          exact ⟨rfl, rfl⟩
        · have hq : ¬ (i : Int) < 500 := by omega
          by_cases hq2 : i < l.length
          · clear he HNE
            go_wp2_with fail
            go_meet
            exact ⟨rfl, rfl⟩
          · clear he HNE
            go_wp2_with fail
            go_meet
            exact ⟨rfl, rfl⟩
      case rest =>
        obtain ⟨rfl, hw⟩ := hcut
        subst hw
        have HX0 : Hid (AllAt wc [(ao, ms)] ∧ Below w.heap.size w wc) := ⟨AllAt.cons HM.out (fun q hq => (by cases hq)), HBL.out⟩
        clear HM HBL HC
        go_wp2_with fail
        have kk := HD.out.fwd lv ms ao cap wc (HX0.out.1.get 0 rfl) HCM.out
        rw [HML.out, HQ.out.1, ret_s] at kk
        refine kk.mono ?_
        clear kk
        rintro e w1 ⟨a1, c1, rfl, h1, hcc1, hb⟩
        have HX1 : Hid (AllAt w1 [(a1, A), (ao, ms)] ∧ Below w.heap.size w w1) := ⟨AllAt.cons h1 (HX0.out.1.low hb), below_on HX0.out.2 HX0.out.2.size hb⟩
        have Hc1 := hid hcc1
        clear HX0 hb h1 hcc1
        go_wp2_with fail
        have kk := HD.out.inv lv A a1 c1 w1 (HX1.out.1.get 0 rfl) Hc1.out
        rw [HQ.out.2.1, ret_s] at kk
        refine kk.mono ?_
        clear kk
        rintro e w2 ⟨a2, c2, rfl, h1, hcc2, hb⟩
        have HX2 : Hid (AllAt w2 [(a2, ms), (a1, A), (ao, ms)] ∧ Below w.heap.size w w2) := ⟨AllAt.cons h1 (HX1.out.1.low hb), below_on HX1.out.2 HX1.out.2.size hb⟩
        have Hc2 := hid hcc2
        clear HX1 hb h1 hcc2
        rw [HML.out]
        go_wp2_with fail
        have kk := HD.out.inv lv ms ao cap w2 (HX2.out.1.get 2 rfl) HCM.out
        rw [HML.out, HQ.out.2.2.1, ret_s] at kk
        refine kk.mono ?_
        clear kk
        rintro e w3 ⟨a3, c3, rfl, h1, hcc3, hb⟩
        have HX3 : Hid (AllAt w3 [(a3, B), (a2, ms), (a1, A), (ao, ms)] ∧ Below w.heap.size w w3) := ⟨AllAt.cons h1 (HX2.out.1.low hb), below_on HX2.out.2 HX2.out.2.size hb⟩
        have Hc3 := hid hcc3
        clear HX2 hb h1 hcc3
        go_wp2_with fail
        have kk := HD.out.fwd lv B a3 c3 w3 (HX3.out.1.get 0 rfl) Hc3.out
        rw [HQ.out.2.2.2, ret_s] at kk
        refine kk.mono ?_
        clear kk
        rintro e w4 ⟨a4, c4, rfl, h1, hcc4, hb⟩
        have HX4 : Hid (AllAt w4 [(a4, ms), (a3, B), (a2, ms), (a1, A), (ao, ms)] ∧ Below w.heap.size w w4) := ⟨AllAt.cons h1 (HX3.out.1.low hb), below_on HX3.out.2 HX3.out.2.size hb⟩
        have Hc4 := hid hcc4
        clear HX3 hb h1 hcc4
        rw [HML.out]
        go_wp2_with fail
        have s1 := same_same ms a2 ao c2 cap w4 (HX4.out.1.get 2 rfl) (HX4.out.1.get 4 rfl)
        rw [HML.out] at s1
        refine s1.mono ?_
        clear s1
        rintro e w5 ⟨rfl, n, hw⟩
        have HX5 : Hid (AllAt w5 [(a4, ms), (a3, B), (a2, ms), (a1, A), (ao, ms)] ∧ Below w.heap.size w w5) := by
          have hb : Below w4.heap.size w4 w5 := by rw [hw]; exact below_drewN _ _
          exact ⟨HX4.out.1.low hb, below_on HX4.out.2 HX4.out.2.size hb⟩
        clear HX4 hw
        go_wp2_with fail
        have s1 := same_same ms a4 ao c4 cap w5 (HX5.out.1.get 0 rfl) (HX5.out.1.get 4 rfl)
        rw [HML.out] at s1
        refine s1.mono ?_
        clear s1
        rintro e w6 ⟨rfl, n, hw⟩
        have HX6 : Hid (AllAt w6 [(a4, ms), (a3, B), (a2, ms), (a1, A), (ao, ms)] ∧ Below w.heap.size w w6) := by
          have hb : Below w5.heap.size w5 w6 := by rw [hw]; exact below_drewN _ _
          exact ⟨HX5.out.1.low hb, below_on HX5.out.2 HX5.out.2.size hb⟩
        clear HX5 hw
        go_wp2_with fail
        refine (awake17 HD.out _).mono ?_
        rintro e wz ⟨rfl, hb⟩
        have HZ : Hid (Below w.heap.size w wz) := below_on HX6.out.2 HX6.out.2.size hb
        clear HX6 hb
        go_wp2_with fail
        go_ret
        exact ⟨rfl, HZ.out⟩

end Go.Proofs.Ytecdcmjeiogenaa
