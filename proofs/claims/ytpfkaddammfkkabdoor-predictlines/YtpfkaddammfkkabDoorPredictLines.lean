/-
  PredictLines: a straight line has nothing left over by the orders 2 to 4; a fixed predictor of order 3 is the coefficients 3, -3, 1. No condition.
-/
import Derived.Test.YtpfkaddammfkkabDoorQ9awake
import Derived.Test.YtpfkaddammfkkabDoorQ9laid
import Derived.Test.YtpfkaddammfkkabDoorP9args
import Derived.Test.YtpfkaddammfkkabDoorCards
import Derived.Test.YtpfkaddammfkkabDoorTie
import Derived.WalkKit
import Derived.ProofKit
import Derived.OpenShut
import Derived.ShutString
import Derived.ChangeOld
import Derived.Below
import Derived.SizedLaws
import Derived.Carry
namespace Go.Proofs.YtpfkaddammfkkabDoor.predictLines
open Go.ChangeShapes Go.WideShapes Go.ChangeAt Go.RowKit
open Go.ChangeMaps (open_string shut_string)
set_option linter.unusedSimpArgs false
set_option linter.unusedVariables false

theorem own : ownKnob Tryd.prog.godebug = none := by kernel_rfl
theorem laidOut : laidOutB Tryd.prog = true := by kernel_rfl

theorem ret2_yes {w w' : World} {e : Ending} {X : List Int} (h : Ret2 (some X) w e w') : ∃ xa xc, e = .returned (.tuple #[.slice xa X.length xc, .int .i64 0]) ∧ IntsAt w' xa X ∧ Below w.heap.size w w' := h
theorem out_cap {w X : World} {ao : Option Addr} {cap : Nat} {xs : List Int} (h : Out w (.slice ao xs.length cap) xs X) : xs.length ≤ cap := by
  rcases h.own.2 with ⟨h1, h2⟩ | ⟨g, c, cur, h1, _, _, h2, _⟩
  · omega
  · cases h1; exact h2
theorem clampK (n : Int) : ∃ (p : Int) (K : Nat), (if 40 < n then 40 else n) = p ∧ (if 4 < p then p else 4) = (K : Int) ∧ 4 ≤ K ∧ K ≤ 40 := by
  refine ⟨_, (if 4 < (if 40 < n then 40 else n) then (if 40 < n then 40 else n) else 4).toNat, rfl, ?_, ?_, ?_⟩ <;> (split <;> split <;> omega)
theorem line_fix (f s : Int) (K o : Nat) (h2 : 2 ≤ o) (h4 : o ≤ 4) (hK : 4 ≤ K) : fixR (o : Int) (lineN f s K) = some (leftN (wF o) 0 (lineN f s K) (K - o)) := by
  unfold fixR
  rw [lineN_len, if_pos (by omega)]
  rfl
theorem line_left (f s : Int) (K o : Nat) (h2 : 2 ≤ o) (h4 : o ≤ 4) (i : Nat) (hi : i < K - o) : (leftN (wF o) 0 (lineN f s K) (K - o)).getD i 0 = 0 := by
  rw [leftN_at _ _ _ _ i hi, wF_len o h4]
  exact line_zero f s K o h2 h4 i (by omega)
theorem line_lpc (f s : Int) (K : Nat) (hK : 4 ≤ K) : lpcR [3, -3, 1] 0 (lineN f s K) = some (leftN (wF 3) 0 (lineN f s K) (K - 3)) := by
  unfold lpcR
  rw [lineN_len, if_pos ⟨by decide, by show 3 ≤ K; omega⟩]
  rfl

set_option maxRecDepth 20000 in
set_option maxHeartbeats 3200000 in
theorem walk (frm : Int) (frm1 : -9223372036854775808 ≤ frm) (frm2 : frm ≤ 9223372036854775807) (step : Int) (step1 : -9223372036854775808 ≤ step) (step2 : step ≤ 9223372036854775807) (n : Int) (n1 : -9223372036854775808 ≤ n) (n2 : n ≤ 9223372036854775807) (w : World) (hT : Tz w) :
    Calls Tryd.prog 3 #[.int .i64 frm, .int .i64 step, .int .i64 n] w fun e w' => e = .returned (.bool true) ∧ Below w.heap.size w w' := by

  obtain ⟨i3, h3a, h3b, h3c, h3d⟩ := int_info
  have KAw : Hid (∀ wx, Below w.heap.size w wx → Calls Tryd.prog 7 #[] wx fun e w' => e = .returned (.bool true) ∧ Below wx.heap.size wx w') := fun wx hb => awake_spec wx (hT.below hb)
  clear hT
  obtain ⟨p, K, hp, hK, hK4, hK40⟩ := clampK n
  go_enter Tryd.func3, Tryd.ntmps3
  go_wp2_with fail
  go_loopw [7, 8] (fun s7 s8 wr => ∃ (i : Nat) (v : Value), i ≤ K ∧ s8 = .int .i64 (i : Int) ∧ s7 = v ∧ Out w v (lineN frm step i) wr) (fun _ s8 _ => K - (intOf s8).toNat)
  case atStart => exact ⟨0, _, Nat.zero_le _, rfl, rfl, Out.nil w⟩
  case round =>
    obtain ⟨i, v, hi, rfl, rfl, hout⟩ := hrel
    obtain ⟨oa, oc, rfl⟩ := hout.shape
    by_cases hlt : i < K
    · have HN : Hid (lineN frm step (i + 1) = lineN frm step i ++ [wrap64 (frm + wrap64 ((i : Int) * step))]) := rfl
      have hx5 : (lineN frm step i).length ≤ 17592186044415 := by rw [lineN_len]; omega
      generalize lineN frm step i = xs at *
      have HO : Hid (Out w (.slice oa xs.length oc) xs wr) := hout
      clear hout
      go_wp2_with (at_builtin; refine wpList_append_lies _ rfl (.tmp 24) (.tmp 30) 22 rfl w.heap.size 3 i3 (.int .i64 0) 1 8 undI3 h3a h3b h3c h3d rfl (by decide) (.slice oa xs.length oc) xs.length (intsC xs) rfl (HO.out.alloc _).own ⟨wr.heap.size, 0, none⟩ 1 1 [.int .i64 (wrap64 (frm + wrap64 ((i : Int) * step)))] rfl rfl (World.news_of_block (cs := #[.int .i64 (wrap64 (frm + wrap64 ((i : Int) * step)))]) (t := 3) (fr := (0, 0)) (tmp_new wr _)) (one_int _ _) (by decide) (by unfold maxLen; omega) (by omega) (HO.out.alloc _).below.size _ rfl ?_; intro gA cA wA ownA groA hatA hltA)
      have HPA : Hid (Out w (.slice (some ⟨gA, 0, none⟩) (xs.length + 1) cA) (xs ++ [(wrap64 (frm + wrap64 ((i : Int) * step)))]) wA) := (HO.out.alloc _).push ownA groA
      clear ownA groA hatA hltA

      go_wp2_with fail
      go_roundw
      case rel => exact ⟨i + 1, _, by omega, by go_num, rfl, by rw [HN.out]; exact HPA.out⟩
      case measure => simp [intOf]; omega
    · have hie : K = i := by omega
      subst hie
      have hcap := out_cap hout
      have hxl := lineN_len frm step K
      have IL0 : IntsAt wr oa (lineN frm step K) := hout.ints (by rw [hxl]; omega) (lineN_rng frm step K)
      have HB0 : Hid (Below w.heap.size w wr) := hout.below
      rw [hxl] at hcap
      obtain ⟨R, hR⟩ : ∃ R : Nat → List Int, R = fun o => leftN (wF o) 0 (lineN frm step K) (K - o) := ⟨_, rfl⟩
      have KF : Hid (∀ o : Nat, 2 ≤ o → o ≤ 4 → ∀ wx, IntsAt wx oa (lineN frm step K) → Calls Tryd.prog 4 #[.int .i64 (o : Int), .slice oa K oc] wx (Ret2 (some (R o)) wx)) := fun o g2 g4 wx h => by
        have hk := qfixed_spec (o : Int) (lineN frm step K) oa oc (by rw [hxl]; exact hcap) wx h
        rw [line_fix frm step K o g2 g4 hK4, hxl] at hk
        rw [hR]; exact hk
      have KL : Hid (∀ wx ca, IntsAt wx (some ca) [3, -3, 1] → IntsAt wx oa (lineN frm step K) → Calls Tryd.prog 5 #[.slice (some ca) 3 3, .int .i64 0, .slice oa K oc] wx (Ret2 (some (R 3)) wx)) := fun wx ca g h => by
        have hk := qlpc_spec [3, -3, 1] (lineN frm step K) 0 (some ca) oa 3 oc (by rw [hxl]; exact hcap) wx g h
        rw [line_lpc frm step K hK4, hxl] at hk
        rw [hR]; exact hk
      have HRL : Hid (∀ o, (R o).length = K - o) := fun o => by rw [hR]; exact leftN_len _ _ _ _
      have HRZ : Hid (∀ o : Nat, 2 ≤ o → o ≤ 4 → ∀ i, i < K - o → (R o).getD i 0 = 0) := fun o g2 g4 i hi => by rw [hR]; exact line_left frm step K o g2 g4 i hi
      have HXL : Hid ((lineN frm step K).length = K) := hxl
      rw [hxl]
      clear hR hxl hout hlt
      generalize lineN frm step K = L at *
      have Il : Hid (IntsAt wr oa L) := IL0
      clear IL0
      go_wp2_with fail
      go_loopw [9, 10, 11, 12] (fun s9 s10 s11 s12 wr => ∃ o : Nat, 2 ≤ o ∧ o ≤ 5 ∧ s9 = .int .i64 (o : Int) ∧ IntsAt wr oa L ∧ Below w.heap.size w wr) (fun s9 _ _ _ _ => 5 - (intOf s9).toNat)
      case atStart => exact ⟨2, by omega, by omega, rfl, Il.out, HB0.out⟩
      case round =>
        clear Il HB0
        obtain ⟨o, ho2, ho5, rfl, hil, hbe⟩ := hrel
        have Il : Hid (IntsAt wr oa L) := hil
        have HB0 : Hid (Below w.heap.size w wr) := hbe
        clear hil hbe
        by_cases ho4 : o ≤ 4
        · have ho42 : (o : Int) ≤ 4 := by omega
          have KO := KF.out o ho2 ho4 wr Il.out
          have HRLO : Hid ((R o).length = K - o) := HRL.out o
          have HRZO : Hid (∀ i, i < K - o → (R o).getD i 0 = 0) := HRZ.out o ho2 ho4
          clear KF KL HRL HRZ
          generalize R o = Ro at *
          go_wp2_with fail
          refine KO.mono ?_
          intro e w2 hret
          obtain ⟨pa, pc, rfl, h1, hb⟩ := ret2_yes hret
          clear hret KO
          have IP : Hid (IntsAt w2 pa Ro) := h1
          have Iln : Hid (IntsAt w2 oa L) := Il.out.below hb
          have HBn : Hid (Below w.heap.size w w2) := HB0.out.trans (hb.mono HB0.out.size)
          rw [HRLO.out]
          clear h1 hb Il HB0
          have hbn : (((K - o : Nat) : Int) != (K : Int) - (o : Int)) = false := by rw [bne_eq_false_iff_eq]; omega
          have hKo : (K : Int) - (o : Int) = ((K - o : Nat) : Int) := by omega
          generalize hM : K - o = M at *
          have hM40 : M ≤ 40 := by omega
          go_wp2_with fail
          go_loopw [12] (fun s12 wz => ∃ j : Nat, j ≤ M ∧ s12 = .int .i64 (j : Int) ∧ wz = w2) (fun s12 _ => M - (intOf s12).toNat)
          case atStart => exact ⟨0, Nat.zero_le _, rfl, rfl⟩
          case round =>
            obtain ⟨j, hj, rfl, rfl⟩ := hrel
            by_cases hjl : j < M
            · obtain ⟨b1, o1, rfl, q1⟩ := IP.out.at j (by rw [HRLO.out]; exact hjl)
              have r1 := q1 wr (Below.refl _ _)
              rw [HRZO.out j hjl] at r1
              clear q1
              go_wp2_with fail
              go_roundw
              case rel => exact ⟨j + 1, by omega, by go_num, trivial⟩
              case measure => simp [intOf]; omega
            · have hjm : j = M := by omega
              subst hjm
              go_wp2_with fail
              go_roundw
              case rel => exact ⟨o + 1, by omega, by omega, by go_num, Iln.out, HBn.out⟩
              case measure => simp [intOf]; omega
        · have ho : o = 5 := by omega
          subst ho
          have KF3 := KF.out 3 (by decide) (by decide)
          have KF3' : Hid (∀ wx, IntsAt wx oa L → Calls Tryd.prog 4 #[.int .i64 3, .slice oa K oc] wx (Ret2 (some (R 3)) wx)) := KF3
          clear KF3 KF
          go_wp2_with fail
          refine (KF3'.out wr Il.out).mono ?_
          intro e v11 hret
          obtain ⟨pa, pc, rfl, h1, hb⟩ := ret2_yes hret
          clear hret
          have HBn : Hid (Below w.heap.size w v11) := HB0.out.trans (hb.mono HB0.out.size)
          clear HB0
          have HB0 : Hid (Below w.heap.size w v11) := HBn.out
          clear HBn
          have Iln : Hid (IntsAt v11 oa L) := Il.out.below hb
          clear Il
          have Il : Hid (IntsAt v11 oa L) := Iln.out
          clear Iln
          clear hb
          have Ip : Hid (IntsAt v11 pa (R 3)) := h1
          clear h1
          have HA9 : Hid (Below v11.heap.size v11 (v11.alloc (.cells #[.int .i64 3, .int .i64 (-3), .int .i64 1] 3))) := (Below.refl _ _).alloc (Nat.le_refl _) _
          have HL9 : Hid (IntsAt (v11.alloc (.cells #[.int .i64 3, .int .i64 (-3), .int .i64 1] 3)) (some ⟨v11.heap.size, 0, none⟩) [3, -3, 1]) := ints_new v11 [3, -3, 1] (by decide) (by decide)
          go_wp2_with fail
          generalize hw9 : World.alloc _ _ = w9 at *
          clear hw9
          have HBn : Hid (Below w.heap.size w w9) := HB0.out.trans (HA9.out.mono HB0.out.size)
          clear HB0
          have HB0 : Hid (Below w.heap.size w w9) := HBn.out
          clear HBn
          have Iln : Hid (IntsAt w9 oa L) := Il.out.below HA9.out
          clear Il
          have Il : Hid (IntsAt w9 oa L) := Iln.out
          clear Iln
          have Ipn : Hid (IntsAt w9 pa (R 3)) := Ip.out.below HA9.out
          clear Ip
          have Ip : Hid (IntsAt w9 pa (R 3)) := Ipn.out
          clear Ipn
          refine (KL.out w9 _ HL9.out Il.out).mono ?_
          intro e v12 hret
          obtain ⟨qa, qc, rfl, h1, hb⟩ := ret2_yes hret
          clear hret
          have HBn : Hid (Below w.heap.size w v12) := HB0.out.trans (hb.mono HB0.out.size)
          clear HB0
          have HB0 : Hid (Below w.heap.size w v12) := HBn.out
          clear HBn
          have Iln : Hid (IntsAt v12 oa L) := Il.out.below hb
          clear Il
          have Il : Hid (IntsAt v12 oa L) := Iln.out
          clear Iln
          have Ipn : Hid (IntsAt v12 pa (R 3)) := Ip.out.below hb
          clear Ip
          have Ip : Hid (IntsAt v12 pa (R 3)) := Ipn.out
          clear Ipn
          clear hb
          have Iq : Hid (IntsAt v12 qa (R 3)) := h1
          clear h1
          go_wp2_with fail
          refine (same_same (R 3) _ _ pc qc v12 Ip.out Iq.out).mono ?_
          rintro e v13 ⟨rfl, nn, hq⟩
          have hb : Below v12.heap.size v12 v13 := by rw [hq]; exact below_drewN _ _
          clear hq
          have HBn : Hid (Below w.heap.size w v13) := HB0.out.trans (hb.mono HB0.out.size)
          clear HB0
          have HB0 : Hid (Below w.heap.size w v13) := HBn.out
          clear HBn
          have Iln : Hid (IntsAt v13 oa L) := Il.out.below hb
          clear Il
          have Il : Hid (IntsAt v13 oa L) := Iln.out
          clear Iln
          have Ipn : Hid (IntsAt v13 pa (R 3)) := Ip.out.below hb
          clear Ip
          have Ip : Hid (IntsAt v13 pa (R 3)) := Ipn.out
          clear Ipn
          have Iqn : Hid (IntsAt v13 qa (R 3)) := Iq.out.below hb
          clear Iq
          have Iq : Hid (IntsAt v13 qa (R 3)) := Iqn.out
          clear Iqn
          clear hb
          go_wp2_with fail
          refine (KAw.out v13 HB0.out).mono ?_
          rintro e vz ⟨rfl, hb⟩
          have HBn : Hid (Below w.heap.size w vz) := HB0.out.trans (hb.mono HB0.out.size)
          clear HB0
          have HB0 : Hid (Below w.heap.size w vz) := HBn.out
          clear HBn
          have Iln : Hid (IntsAt vz oa L) := Il.out.below hb
          clear Il
          have Il : Hid (IntsAt vz oa L) := Iln.out
          clear Iln
          have Ipn : Hid (IntsAt vz pa (R 3)) := Ip.out.below hb
          clear Ip
          have Ip : Hid (IntsAt vz pa (R 3)) := Ipn.out
          clear Ipn
          have Iqn : Hid (IntsAt vz qa (R 3)) := Iq.out.below hb
          clear Iq
          have Iq : Hid (IntsAt vz qa (R 3)) := Iqn.out
          clear Iqn
          clear hb
          go_wp2_with fail
          go_ret
          exact ⟨rfl, HB0.out⟩



theorem door_met (os : Os) (args : Array Value) : laidMetH Tryd.prog Rows.predictLinesRow.laid ((World.doorLaid Tryd.prog 400 os).forCall (fun _ _ => 0) ⟨#[], args, []⟩).memory :=
  laidMetH_of_parts3 (fuel := 8) (laidMet_of_run' 8 (by kernel_rfl) (by kernel_rfl)) (by kernel_rfl) (by kernel_rfl)

set_option maxRecDepth 100000 in
theorem lifted (os : Os) (started : os.Started) (H : Type) (enc : TypeId × Value → H) :
    ReturnsInHanded {} Tryd.checked os 3 .any (fun w args => (Rows.predictLinesSpec.pre enc Tryd.prog Tryd.f3 [] false w args ∧ laidMetH Tryd.prog Rows.predictLinesRow.laid w) ∧ sizedMet enc Tryd.prog Tryd.f3 (OpenSpec.ofChange Rows.predictLinesSpec) false w args)
      (Rows.predictLinesSpec.post enc Tryd.prog Tryd.f3 false true false false) := by
  refine returnsInHanded_of_change_and (C := Tryd.checked) (X := fun w _ => laidMetH Tryd.prog Rows.predictLinesRow.laid w) (fun _ _ _ hh h => h.of_heap hh) own started (by kernel_rfl) Tryd.func3
    (ChangeSpec.witness_shaped (enc := enc) (C := Tryd.checked) (os := os) (X := fun w _ => laidMetH Tryd.prog Rows.predictLinesRow.laid w) false (World.doorLaid Tryd.prog 400 os) #[.int .i64 0, .int .i64 0, .int .i64 0] 8 rfl (World.shaped_of_RefB (by kernel_rfl) (by kernel_rfl)) (by kernel_rfl) (by kernel_rfl) (by kernel_rfl) (door_met os _)) ?_
  intro W base args ds gs before hval0 hW _ hsz0 hL _
  have hval : ∀ (j : Nat) t v, Tryd.f3.params[j]? = some t → args[j]? = some v → Value.okWide Tryd.prog W .any base t v := hval0
  have hsz : (DataW.weightsEach Tryd.prog (Tryd.f3.params.toList ++ Rows.predictLinesSpec.plain.varTypes Tryd.prog) (ds ++ gs)).all (· ≤ reachBytes) = true := hsz0
  have hW' := hW
  obtain ⟨p, q, hA0, hV, rfl, hfz, hnd⟩ := hW
  have hA : DataW.TrodAll enc Tryd.prog W 0 (fun _ => true) true Tryd.f3.params.toList args.toList ds p := hA0
  rw [Tryd.params3] at hA hval hsz
  obtain ⟨v0, vs0, d0, ds0, p0, q0, hargs, rfl, rfl, h0, r0⟩ := trodAll_cons hA
  obtain ⟨v1, vs1, d1, ds1, p1, q1, rfl, rfl, rfl, h1, r1⟩ := trodAll_cons r0
  obtain ⟨v2, vs2, d2, ds2, p2, q2, rfl, rfl, rfl, h2, r2⟩ := trodAll_cons r1
  obtain ⟨rfl, rfl, rfl⟩ := trodAll_nil r2
  obtain rfl : args = #[v0, v1, v2] := by cases args; simp_all
  obtain ⟨rfl, rfl⟩ := trodVars_none hV
  have hall := List.all_eq_true.1 hsz
  obtain ⟨x0, rfl, rfl, rfl, i0⟩ := open_int Tryd.underlying3 (hval 0 3 v0 rfl rfl) h0
  have ib0 := bounds_i64 i0
  obtain ⟨x1, rfl, rfl, rfl, i1⟩ := open_int Tryd.underlying3 (hval 1 3 v1 rfl rfl) h1
  have ib1 := bounds_i64 i1
  obtain ⟨x2, rfl, rfl, rfl, i2⟩ := open_int Tryd.underlying3 (hval 2 3 v2 rfl rfl) h2
  have ib2 := bounds_i64 i2
  have hT : Tz W := tz_of_laid hL
  clear hA0 hval0
  refine (walk x0 ib0.1 ib0.2 x1 ib1.1 ib1.2 x2 ib2.1 ib2.2 W hT).mono fun e W' ⟨he, bel⟩ => ?_
  subst he
  exact ⟨_, rfl, _, _, _, [], _, [], hW', trodAll_mk1 (shut_bool Tryd.underlying4 _), (trodAll_cons_mk (shut_int Tryd.underlying3 i0) (trodAll_cons_mk (shut_int Tryd.underlying3 i1) (trodAll_cons_mk (shut_int Tryd.underlying3 i2) trodAll_mk0))), rfl, bel.frame _, fun h => by cases h⟩

theorem said : Rows.PredictLinesSaid :=
  OpenClaim.holds_of_wide 3 Tryd.f3 rfl rfl rfl rfl rfl rfl rfl ⟨rfl, rfl, rfl, rfl, rfl⟩ rfl rfl rfl rfl rfl (by kernel_rfl) Tryd.func3 (by kernel_rfl)
    (of_decide_eq_true (by kernel_rfl)) (by unfold Func.isWrapper; first | (rw [if_pos (by decide +kernel)]; kernel_rfl) | (rw [if_neg (by decide +kernel)]; exact ⟨rfl, rfl⟩))
    (fun os started H enc _ => lifted os started H enc)

/-- No parameter wants a stand-in; the program's own looks are off. -/
theorem plain (f : FuncId) (fn : Func) (hf : Tryd.pinned.checked.prog.funcNamed Rows.predictLinesRow.func = some f) (hfn : Tryd.pinned.checked.prog.funcs[f]? = some fn) :
    false = Tryd.pinned.checked.prog.looks [] ∧ ∀ (j : Nat) t, fn.params[j]? = some t → Tryd.pinned.checked.prog.wantsStandIn t = false := by
  obtain rfl : f = 3 := Option.some.inj ((show Tryd.prog.funcNamed Rows.predictLinesRow.func = some 3 by kernel_rfl).symm.trans hf) |>.symm
  obtain rfl : fn = Tryd.f3 := (Option.some.inj (Tryd.func3.symm.trans hfn)).symm
  refine ⟨by kernel_rfl, fun j t ht => ?_⟩
  rw [Tryd.params3] at ht
  have hm := Array.mem_of_getElem? ht
  simp at hm
  subst hm
  exact (show Tryd.prog.wantsStandIn 3 = false by kernel_rfl)

theorem card : Rows.PredictLinesCardSaid :=
  Claim7.holds_tied_plain_at .later [] _ _ _ _ said (fun _ h => by cases h) (by kernel_rfl) (fun _ h => by cases h) predictLines_row_tie rfl ⟨rfl, rfl⟩ (by kernel_rfl) rfl plain (by kernel_rfl)

end Go.Proofs.YtpfkaddammfkkabDoor.predictLines
namespace Go.Proofs.YtpfkaddammfkkabDoor
theorem predictLines_card : Rows.PredictLinesCardSaid := predictLines.card
#print axioms predictLines_card
end Go.Proofs.YtpfkaddammfkkabDoor
