/- Own text: the walk of the document's comm. -/
import Derived.Test.YtaepgjheknkojaaGreatR7comm
import Derived.Deep.RegionWith
import Derived.Deep.CutRange
namespace Go.Proofs.YtaepgjheknkojaaGreat
open Go.RowKit
set_option linter.unusedSimpArgs false
set_option linter.unusedVariables false

set_option maxRecDepth 20000 in
set_option maxHeartbeats 3200000 in
theorem r7comm_kind (s : ByteArray) (w : World) (hs : s.size ≤ 140737488351232) (h : 23 ≤ s.size) (h2 : ((s.size : Int) != (comN s : Int)) = false) (hk : ((s.extract 18 22).toList == noneT.toList) = false) (hs2 : ((s.extract 18 22).toList == sowtT.toList) = false) :
    Calls Tryz.prog 20 #[.string s, .bool true] w fun e w' => e = .returned (.tuple #[.agg (comC (comR s true)), .int .i64 (comE s true)]) ∧ Below w.heap.size w w' := by
  have HE : Hid (comE s true = 3) := by
    show _ = _
    unfold comE
    have n1 : ((s.extract 18 22).toList != noneT.toList) = !false := by rw [← hk]; rfl
    have n2 : ((s.extract 18 22).toList != sowtT.toList) = !false := by rw [← hs2]; rfl
    rw [h2, n1, n2, decide_eq_false (by omega)]
    rfl
  have HR : Hid (comR s true = noCom) := by
    show _ = _
    unfold comR
    rw [HE.out]
    rfl
  have hlt : 22 < s.size := by omega
  have hbb : (s[22]'hlt).toNat < 256 := (s[22]'hlt).toNat_lt
  have hcn : comN s = 23 + (s[22]'hlt).toNat + (23 + (s[22]'hlt).toNat) % 2 := by unfold comN; rw [byte_getD s 22 hlt]
  have hrem : Int.tmod (23 + ((s[22]'hlt).toNat : Int)) 2 = (((23 + (s[22]'hlt).toNat) % 2 : Nat) : Int) := by
    rw [Int.tmod_eq_emod_of_nonneg (by omega)]
    omega
  have h3 : ((s.size : Int) != 23 + ((s[22]'hlt).toNat : Int) + (((23 + (s[22]'hlt).toNat) % 2 : Nat) : Int)) = false := by
    rw [hcn] at h2
    rw [← h2]
    congr 1
  have hk1 : ((s.extract 18 22).toList == [78, 79, 78, 69]) = false := by rw [← none_list]; exact hk
  have hk2 : ((s.extract 18 22).toList == [115, 111, 119, 116]) = false := by rw [← sowt_list]; exact hs2
  have sl18 : ∀ wx, (Instr.slice 9 (.string s) (some (.int .i64 18)) (some (.int .i64 22)) none).run Tryz.prog wx = .ok (.string (s.extract 18 22)) wx := fun wx => ext_run s 18 22 (by decide) (by omega) wx
  have HJ0 : Hid (Jq w (w.alloc (.cells zeroQ 51))) := Jq.new w
  go_enter Tryz.func20, Tryz.ntmps20
  go_wp2_with fail
  refine bodyPost_ret (v := .tuple #[.agg zeroQ, .int .i64 (3)]) ?_ rfl ⟨by rw [HR.out, HE.out]; rfl, HJ0.out.below⟩
  rw [results_two rfl]
  have hld := run_loadVar_row (P := Tryz.prog) (w.alloc (.cells zeroQ 51)) w.heap.size 51 51 zeroQ (0, 0) _ HJ0.out.res Tryz.underlying51 rfl infoQ
  simp [asAddr, Result.andThen, hld]

set_option maxRecDepth 20000 in
set_option maxHeartbeats 1000000 in
theorem r7comm_plain (s : ByteArray) (w : World) (hs : s.size ≤ 140737488351232) (h18 : s.size = 18) :
    Calls Tryz.prog 20 #[.string s, .bool false] w fun e w' => e = .returned (.tuple #[.agg (comC (comR s false)), .int .i64 (comE s false)]) ∧ Below w.heap.size w w' := by
  have HE0 : Hid (comE s false = if ((frV (bytesOf (s.extract 8 18))).2 : Int) != 0 then ((frV (bytesOf (s.extract 8 18))).2 : Int) else if beI s 0 2 == 0 then 2 else
      if decide (8 < beI s 0 2) || (beI s 6 8 % 8 != 0 || (decide (beI s 6 8 < 8) || decide (32 < beI s 6 8))) then 3 else if decide (1048576 < beI s 2 6) then 5 else 0) := by
    show _ = _
    unfold comE
    have hb : ((s.size : Int) != 18) = false := by rw [h18]; rfl
    rw [hb]
    simp only [Bool.not_false, Bool.true_and, Bool.false_and, Bool.or_self, Bool.false_eq_true, if_false]
  have HX : Hid (comX s false = (⟨((frV (bytesOf (s.extract 8 18))).1 : Int), beI s 0 2, beI s 6 8, beI s 2 6, false⟩ : Com)) := by
    show _ = _
    unfold comX
    rw [show comLit s false = false from rfl]
  have HC : Hid (comR s false = if comE s false = 0 then comX s false else noCom) := rfl
  have hb : ((s.size : Int) != 18) = false := by rw [h18]; rfl
  have h18n : 18 ≤ s.size := by omega
  have sl2 : ∀ wx, (Instr.slice 9 (.string s) (some (.int .i64 2)) (some (.int .i64 6)) none).run Tryz.prog wx = .ok (.string (s.extract 2 6)) wx := fun wx => ext_run s 2 6 (by decide) (by omega) wx
  have sl8 : ∀ wx, (Instr.slice 9 (.string s) (some (.int .i64 8)) (some (.int .i64 18)) none).run Tryz.prog wx = .ok (.string (s.extract 8 18)) wx := fun wx => ext_run s 8 18 (by decide) (by omega) wx
  have sl6 : ∀ wx, (Instr.slice 9 (.string s) (some (.int .i64 6)) (some (.int .i64 8)) none).run Tryz.prog wx = .ok (.string (s.extract 6 8)) wx := fun wx => ext_run s 6 8 (by decide) (by omega) wx
  have sl0 : ∀ wx, (Instr.slice 9 (.string s) none (some (.int .i64 2)) none).run Tryz.prog wx = .ok (.string (s.extract 0 2)) wx := fun wx => by
    have h2i : decide ((s.size : Int) < 2) = false := decide_eq_false (by omega)
    have h2j : ¬ ((s.size : Int) < 2) := by omega
    go_simp
  have KB : Hid (∀ a b wx, Calls Tryz.prog 17 #[.string (s.extract a b)] wx fun e w' => e = .returned (.int .i64 (beI s a b)) ∧ w' = wx) := fun a b wx => reffromBe_spec (s.extract a b) (by rw [ByteArray.size_extract]; omega) wx
  have KR : Hid (∀ wx, Calls Tryz.prog 47 #[.string (s.extract 8 18)] wx fun e w' => e = .returned (pairV (frV (bytesOf (s.extract 8 18)))) ∧ Below wx.heap.size wx w') := fun wx => reffromRate_spec (s.extract 8 18) (by rw [ByteArray.size_extract]; omega) wx
  have hr1 := fromBe_four (bytesOf (s.extract 0 2)) (by rw [bytesOf_length, ByteArray.size_extract]; omega) (bytesOf_lt _)
  have hr2 := fromBe_four (bytesOf (s.extract 6 8)) (by rw [bytesOf_length, ByteArray.size_extract]; omega) (bytesOf_lt _)
  have hr3 := fromBe_four (bytesOf (s.extract 2 6)) (by rw [bytesOf_length, ByteArray.size_extract]; omega) (bytesOf_lt _)
  have HRG : Hid ((0 ≤ beI s 0 2 ∧ beI s 0 2 < 4294967296) ∧ (0 ≤ beI s 6 8 ∧ beI s 6 8 < 4294967296) ∧ (0 ≤ beI s 2 6 ∧ beI s 2 6 < 4294967296)) := ⟨hr1, hr2, hr3⟩
  have K26 := KB.out 2 6
  have K02 : Hid (∀ wx, Calls Tryz.prog 17 #[.string (s.extract 0 2)] wx fun e w' => e = .returned (.int .i64 (beI s 0 2)) ∧ w' = wx) := KB.out 0 2
  have K68 : Hid (∀ wx, Calls Tryz.prog 17 #[.string (s.extract 6 8)] wx fun e w' => e = .returned (.int .i64 (beI s 6 8)) ∧ w' = wx) := KB.out 6 8
  clear hr1 hr2 hr3 KB
  generalize beI s 2 6 = SM at *
  generalize beI s 0 2 = CHN at *
  generalize beI s 6 8 = WD at *
  generalize hFR : frV (bytesOf (s.extract 8 18)) = FR at *
  obtain ⟨RTn, REn⟩ := FR
  clear hFR
  simp only at HE0 HX KR
  obtain ⟨RT, hRT⟩ : ∃ RT : Int, RT = (RTn : Int) := ⟨_, rfl⟩
  obtain ⟨RE, hRE⟩ : ∃ RE : Int, RE = (REn : Int) := ⟨_, rfl⟩
  have KR2 : Hid (∀ wx, Calls Tryz.prog 47 #[.string (s.extract 8 18)] wx fun e w' => e = .returned (.tuple #[.int .i64 RT, .int .i64 RE]) ∧ Below wx.heap.size wx w') := by rw [hRT, hRE]; exact KR
  rw [← hRT] at HX
  rw [← hRE] at HE0
  clear hRT hRE KR
  have HJ0 : Hid (Jq w (w.alloc (.cells zeroQ 51))) := Jq.new w
  go_enter Tryz.func20, Tryz.ntmps20
  go_wp2_with fail
  refine (K26 _).mono ?_
  rintro e w1 ⟨rfl, rfl⟩
  have HX1 : Hid (Jx w (w.alloc (.cells zeroQ 51)).heap.size ⟨0, 0, 0, SM, false⟩ ((w.alloc (.cells zeroQ 51)).alloc (.cells (comC ⟨0, 0, 0, SM, false⟩) 51))) := Jx.new HJ0.out ⟨0, 0, 0, SM, false⟩
  rw [show (w.alloc (.cells zeroQ 51)).heap.size = w.heap.size + 1 from by simp] at HX1
  clear K26 HJ0
  go_wp2_with fail
  refine (KR2.out _).mono ?_
  rintro e w2 ⟨rfl, hB2⟩
  have HX2 : Hid (Jx w (w.heap.size + 1) ⟨0, 0, 0, SM, false⟩ w2) := HX1.out.next hB2
  clear KR2 hB2 HX1
  generalize hQ : w.heap.size + 1 = Q at *
  clear hQ
  cases hre : RE != 0
  · rw [hre] at HE0
    simp only [Bool.false_eq_true, if_false] at HE0
    go_upto_region 13 with fail
    go_cut [7] from 68 to 76 (fun v wx => v = Value.pointer (some ⟨Q, 0, none⟩) ∧ Jx w Q ⟨RT, CHN, WD, SM, false⟩ wx)
    case first =>
      have r0 := HX2.out.c 0 _ rfl
      have r1 := HX2.out.c 1 _ rfl
      have r2 := HX2.out.c 2 _ rfl
      have r3 := HX2.out.c 3 _ rfl
      have z0 := HX2.out.z 0
      have z1 := HX2.out.z 1
      have z2 := HX2.out.z 2
      have z3 := HX2.out.z 3
      refine wp_region_held_drew (S := fun _ => True) (by kernel_rfl) trivial (fun hS => ?_)
      refine wpAnyH_take (i := 0) (v := .int .i64 RT) rfl (by kernel_rfl) (by kernel_rfl) (by kernel_rfl) (fun _ _ _ h => h) (Or.inl ⟨by rfl, fun w hSw => by go_simp⟩) hS ?_
      simp only [Act.put, List.getElem_toArray, List.getElem_cons_succ, List.getElem_cons_zero, List.setIfInBounds_toArray, List.set_cons_zero, List.set_cons_succ]
      refine wpAnyH_take (i := 1) (v := .string s) rfl (by kernel_rfl) (by kernel_rfl) (by kernel_rfl) (fun _ _ _ h => h) (Or.inl ⟨by rfl, fun w hSw => by go_simp⟩) hS ?_
      simp only [Act.put, List.getElem_toArray, List.getElem_cons_succ, List.getElem_cons_zero, List.setIfInBounds_toArray, List.set_cons_zero, List.set_cons_succ]
      refine wpAnyH_take (i := 2) (v := .string (s.extract 0 2)) rfl (by kernel_rfl) (by kernel_rfl) (by kernel_rfl) (fun _ _ _ h => h) (Or.inl ⟨by rfl, fun w hSw => by go_simp⟩) hS ?_
      simp only [Act.put, List.getElem_toArray, List.getElem_cons_succ, List.getElem_cons_zero, List.setIfInBounds_toArray, List.set_cons_zero, List.set_cons_succ]
      refine wpAnyH_take (i := 4) (v := .string s) rfl (by kernel_rfl) (by kernel_rfl) (by kernel_rfl) (fun _ _ _ h => h) (Or.inl ⟨by rfl, fun w hSw => by go_simp⟩) hS ?_
      simp only [Act.put, List.getElem_toArray, List.getElem_cons_succ, List.getElem_cons_zero, List.setIfInBounds_toArray, List.set_cons_zero, List.set_cons_succ]
      refine wpAnyH_take (i := 5) (v := .string (s.extract 6 8)) rfl (by kernel_rfl) (by kernel_rfl) (by kernel_rfl) (fun _ _ _ h => h) (Or.inl ⟨by rfl, fun w hSw => by go_simp⟩) hS ?_
      simp only [Act.put, List.getElem_toArray, List.getElem_cons_succ, List.getElem_cons_zero, List.setIfInBounds_toArray, List.set_cons_zero, List.set_cons_succ]
      refine wpAnyH_ready (rs := [3]) (by kernel_rfl) (by simp) ?_
      refine AllReadyH.cons rfl (fun K hK => ?_) AllReadyH.nil
      go_simp
      refine (K02.out _).mono ?_
      rintro e w4 ⟨rfl, rfl⟩
      refine hK.out _ _ trivial (fun hS => ?_)
      clear hK K
      refine wpAnyH_ready (rs := [6]) (by kernel_rfl) (by simp) ?_
      refine AllReadyH.cons rfl (fun K hK => ?_) AllReadyH.nil
      go_simp
      refine (K68.out _).mono ?_
      rintro e w4 ⟨rfl, rfl⟩
      refine hK.out _ _ trivial (fun hS => ?_)
      clear hK K
      refine wpAnyH_take (i := 7) (v := .agg #[.int .i64 RT, .int .i64 CHN, .int .i64 WD, .slice none 0 0]) rfl (by kernel_rfl) (by kernel_rfl) (by kernel_rfl) (fun _ _ _ h => h) (Or.inl ⟨by rfl, fun w hSw => by go_simp⟩) hS ?_
      simp only [Act.put, List.getElem_toArray, List.getElem_cons_succ, List.getElem_cons_zero, List.setIfInBounds_toArray, List.set_cons_zero, List.set_cons_succ]
      refine wpAnyH_take (i := 8) (v := .pointer (some ⟨Q, 0, none⟩)) rfl (by kernel_rfl) (by kernel_rfl) (by kernel_rfl) (fun _ _ _ h => h) (Or.inl ⟨by rfl, fun w hSw => by go_simp⟩) hS ?_
      simp only [Act.put, List.getElem_toArray, List.getElem_cons_succ, List.getElem_cons_zero, List.setIfInBounds_toArray, List.set_cons_zero, List.set_cons_succ]
      refine wpAnyH_ready (rs := [9]) (by kernel_rfl) (by simp) ?_
      refine AllReadyH.cons rfl (fun K hK => ?_) AllReadyH.nil
      go_simp
      refine hK.out _ _ trivial (fun hS => ?_)
      clear hK K
      refine wpAnyH_done (by kernel_rfl) ?_ _
      go_wp2_with fail
      go_meet
      exact ⟨rfl, ((((HX2.out.set (y := ⟨RT, 0, 0, SM, false⟩) 0 (.int .i64 RT) rfl).set (y := ⟨RT, CHN, 0, SM, false⟩) 1 (.int .i64 CHN) rfl).set (y := ⟨RT, CHN, WD, SM, false⟩) 2 (.int .i64 WD) rfl).set (y := ⟨RT, CHN, WD, SM, false⟩) 3 (.slice none 0 0) rfl).next ⟨rfl, rfl, rfl, Nat.le_refl _, fun _ _ => rfl⟩⟩
    case rest =>
      obtain ⟨rfl, hj⟩ := hcut
      have HX3 : Hid (Jx w Q ⟨RT, CHN, WD, SM, false⟩ wc) := hj
      have q1 := HX3.out.c 1 _ rfl
      have q2 := HX3.out.c 2 _ rfl
      have q4 := HX3.out.c 4 _ rfl
      have hw0 := HRG.out.2.1.1
      have hw1 := HRG.out.2.1.2
      have HJ : Hid (Jq w wc) := HX3.out.jq
      clear hj HX2 K02 K68 HRG hre
      cases h1 : CHN == 0
      · cases h2 : decide (8 < CHN)
        · cases h3 : WD % 8 != 0
          · cases h4 : decide (WD < 8)
            · cases h5 : decide (32 < WD)
              · cases h6 : decide (1048576 < SM)
                · have HE : Hid (comE s false = 0) := HE0.out.trans (by rw [h1, h2, h3, h4, h5, h6]; rfl)
                  have HR : Hid (comR s false = ⟨RT, CHN, WD, SM, false⟩) := (HC.out.trans (if_pos HE.out)).trans HX.out
                  have q0 := HX3.out.c 0 _ rfl
                  have q3 := HX3.out.c 3 _ rfl
                  have q5 := HX3.out.c 5 _ rfl
                  have r0 := HJ.out.c 0 _ rfl
                  have z0 := HJ.out.z 0
                  have r1 := HJ.out.c 1 _ rfl
                  have z1 := HJ.out.z 1
                  have r2 := HJ.out.c 2 _ rfl
                  have z2 := HJ.out.z 2
                  have r3 := HJ.out.c 3 _ rfl
                  have z3 := HJ.out.z 3
                  have r4 := HJ.out.c 4 _ rfl
                  have z4 := HJ.out.z 4
                  have r5 := HJ.out.c 5 _ rfl
                  have z5 := HJ.out.z 5
                  go_wp2_with fail
                  generalize hwf : ((((((wc.setCell ⟨w.heap.size, 0, none⟩ (.int .i64 RT)).setCell ⟨w.heap.size, 1, none⟩ (.int .i64 CHN)).setCell ⟨w.heap.size, 2, none⟩ (.int .i64 WD)).setCell ⟨w.heap.size, 3, none⟩ (.slice none 0 0)).setCell ⟨w.heap.size, 4, none⟩ (.int .i64 SM)).setCell ⟨w.heap.size, 5, none⟩ (.bool false)) = wf
                  have hrow : wf.heap[w.heap.size]? = some (.cells (comC ⟨RT, CHN, WD, SM, false⟩) 51 (0, 0)) := by
                    rw [← hwf, (block_set _ _ _ _ _ _ (block_set _ _ _ _ _ _ (block_set _ _ _ _ _ _ (block_set _ _ _ _ _ _ (block_set _ _ _ _ _ _ (block_set _ _ _ _ _ _ HJ.out.res))))))]
                    rfl
                  have hbel : Below w.heap.size w wf := by
                    rw [← hwf]
                    exact ((((((HJ.out.below.setCell (Nat.le_refl _) _).setCell (Nat.le_refl _) _).setCell (Nat.le_refl _) _).setCell (Nat.le_refl _) _).setCell (Nat.le_refl _) _).setCell (Nat.le_refl _) _)
                  refine bodyPost_ret (v := .tuple #[.agg (comC ⟨RT, CHN, WD, SM, false⟩), .int .i64 (0)]) ?_ rfl ⟨by rw [HR.out, HE.out], hbel⟩
                  rw [results_two rfl]
                  have hld := run_loadVar_row (P := Tryz.prog) wf w.heap.size 51 51 (comC ⟨RT, CHN, WD, SM, false⟩) (0, 0) _ hrow Tryz.underlying51 rfl infoQ
                  simp [asAddr, Result.andThen, hld]
                · have HE : Hid (comE s false = 5) := HE0.out.trans (by rw [h1, h2, h3, h4, h5, h6]; rfl)
                  have HR : Hid (comR s false = noCom) := HC.out.trans (if_neg (by rw [HE.out]; decide))
                  have r0 := HJ.out.c 0 _ rfl
                  have z0 := HJ.out.z 0
                  have r1 := HJ.out.c 1 _ rfl
                  have z1 := HJ.out.z 1
                  have r2 := HJ.out.c 2 _ rfl
                  have z2 := HJ.out.z 2
                  have r3 := HJ.out.c 3 _ rfl
                  have z3 := HJ.out.z 3
                  have r4 := HJ.out.c 4 _ rfl
                  have z4 := HJ.out.z 4
                  have r5 := HJ.out.c 5 _ rfl
                  have z5 := HJ.out.z 5
                  go_wp2_with fail
                  generalize hwf : ((((((wc.setCell ⟨w.heap.size, 0, none⟩ (.int .i64 0)).setCell ⟨w.heap.size, 1, none⟩ (.int .i64 0)).setCell ⟨w.heap.size, 2, none⟩ (.int .i64 0)).setCell ⟨w.heap.size, 3, none⟩ (.slice none 0 0)).setCell ⟨w.heap.size, 4, none⟩ (.int .i64 0)).setCell ⟨w.heap.size, 5, none⟩ (.bool false)) = wf
                  have hrow : wf.heap[w.heap.size]? = some (.cells zeroQ 51 (0, 0)) := by
                    rw [← hwf, (block_set _ _ _ _ _ _ (block_set _ _ _ _ _ _ (block_set _ _ _ _ _ _ (block_set _ _ _ _ _ _ (block_set _ _ _ _ _ _ (block_set _ _ _ _ _ _ HJ.out.res))))))]
                    rfl
                  have hbel : Below w.heap.size w wf := by
                    rw [← hwf]
                    exact ((((((HJ.out.below.setCell (Nat.le_refl _) _).setCell (Nat.le_refl _) _).setCell (Nat.le_refl _) _).setCell (Nat.le_refl _) _).setCell (Nat.le_refl _) _).setCell (Nat.le_refl _) _)
                  refine bodyPost_ret (v := .tuple #[.agg zeroQ, .int .i64 (5)]) ?_ rfl ⟨by rw [HR.out, HE.out]; rfl, hbel⟩
                  rw [results_two rfl]
                  have hld := run_loadVar_row (P := Tryz.prog) wf w.heap.size 51 51 zeroQ (0, 0) _ hrow Tryz.underlying51 rfl infoQ
                  simp [asAddr, Result.andThen, hld]
              · have HE : Hid (comE s false = 3) := HE0.out.trans (by rw [h1, h2, h3, h4, h5]; rfl)
                have HR : Hid (comR s false = noCom) := HC.out.trans (if_neg (by rw [HE.out]; decide))
                have r0 := HJ.out.c 0 _ rfl
                have z0 := HJ.out.z 0
                have r1 := HJ.out.c 1 _ rfl
                have z1 := HJ.out.z 1
                have r2 := HJ.out.c 2 _ rfl
                have z2 := HJ.out.z 2
                have r3 := HJ.out.c 3 _ rfl
                have z3 := HJ.out.z 3
                have r4 := HJ.out.c 4 _ rfl
                have z4 := HJ.out.z 4
                have r5 := HJ.out.c 5 _ rfl
                have z5 := HJ.out.z 5
                go_wp2_with fail
                generalize hwf : ((((((wc.setCell ⟨w.heap.size, 0, none⟩ (.int .i64 0)).setCell ⟨w.heap.size, 1, none⟩ (.int .i64 0)).setCell ⟨w.heap.size, 2, none⟩ (.int .i64 0)).setCell ⟨w.heap.size, 3, none⟩ (.slice none 0 0)).setCell ⟨w.heap.size, 4, none⟩ (.int .i64 0)).setCell ⟨w.heap.size, 5, none⟩ (.bool false)) = wf
                have hrow : wf.heap[w.heap.size]? = some (.cells zeroQ 51 (0, 0)) := by
                  rw [← hwf, (block_set _ _ _ _ _ _ (block_set _ _ _ _ _ _ (block_set _ _ _ _ _ _ (block_set _ _ _ _ _ _ (block_set _ _ _ _ _ _ (block_set _ _ _ _ _ _ HJ.out.res))))))]
                  rfl
                have hbel : Below w.heap.size w wf := by
                  rw [← hwf]
                  exact ((((((HJ.out.below.setCell (Nat.le_refl _) _).setCell (Nat.le_refl _) _).setCell (Nat.le_refl _) _).setCell (Nat.le_refl _) _).setCell (Nat.le_refl _) _).setCell (Nat.le_refl _) _)
                refine bodyPost_ret (v := .tuple #[.agg zeroQ, .int .i64 (3)]) ?_ rfl ⟨by rw [HR.out, HE.out]; rfl, hbel⟩
                rw [results_two rfl]
                have hld := run_loadVar_row (P := Tryz.prog) wf w.heap.size 51 51 zeroQ (0, 0) _ hrow Tryz.underlying51 rfl infoQ
                simp [asAddr, Result.andThen, hld]
            · have HE : Hid (comE s false = 3) := HE0.out.trans (by rw [h1, h2, h3, h4]; rfl)
              have HR : Hid (comR s false = noCom) := HC.out.trans (if_neg (by rw [HE.out]; decide))
              have r0 := HJ.out.c 0 _ rfl
              have z0 := HJ.out.z 0
              have r1 := HJ.out.c 1 _ rfl
              have z1 := HJ.out.z 1
              have r2 := HJ.out.c 2 _ rfl
              have z2 := HJ.out.z 2
              have r3 := HJ.out.c 3 _ rfl
              have z3 := HJ.out.z 3
              have r4 := HJ.out.c 4 _ rfl
              have z4 := HJ.out.z 4
              have r5 := HJ.out.c 5 _ rfl
              have z5 := HJ.out.z 5
              go_wp2_with fail
              generalize hwf : ((((((wc.setCell ⟨w.heap.size, 0, none⟩ (.int .i64 0)).setCell ⟨w.heap.size, 1, none⟩ (.int .i64 0)).setCell ⟨w.heap.size, 2, none⟩ (.int .i64 0)).setCell ⟨w.heap.size, 3, none⟩ (.slice none 0 0)).setCell ⟨w.heap.size, 4, none⟩ (.int .i64 0)).setCell ⟨w.heap.size, 5, none⟩ (.bool false)) = wf
              have hrow : wf.heap[w.heap.size]? = some (.cells zeroQ 51 (0, 0)) := by
                rw [← hwf, (block_set _ _ _ _ _ _ (block_set _ _ _ _ _ _ (block_set _ _ _ _ _ _ (block_set _ _ _ _ _ _ (block_set _ _ _ _ _ _ (block_set _ _ _ _ _ _ HJ.out.res))))))]
                rfl
              have hbel : Below w.heap.size w wf := by
                rw [← hwf]
                exact ((((((HJ.out.below.setCell (Nat.le_refl _) _).setCell (Nat.le_refl _) _).setCell (Nat.le_refl _) _).setCell (Nat.le_refl _) _).setCell (Nat.le_refl _) _).setCell (Nat.le_refl _) _)
              refine bodyPost_ret (v := .tuple #[.agg zeroQ, .int .i64 (3)]) ?_ rfl ⟨by rw [HR.out, HE.out]; rfl, hbel⟩
              rw [results_two rfl]
              have hld := run_loadVar_row (P := Tryz.prog) wf w.heap.size 51 51 zeroQ (0, 0) _ hrow Tryz.underlying51 rfl infoQ
              simp [asAddr, Result.andThen, hld]
          · have HE : Hid (comE s false = 3) := HE0.out.trans (by rw [h1, h2, h3]; rfl)
            have HR : Hid (comR s false = noCom) := HC.out.trans (if_neg (by rw [HE.out]; decide))
            have r0 := HJ.out.c 0 _ rfl
            have z0 := HJ.out.z 0
            have r1 := HJ.out.c 1 _ rfl
            have z1 := HJ.out.z 1
            have r2 := HJ.out.c 2 _ rfl
            have z2 := HJ.out.z 2
            have r3 := HJ.out.c 3 _ rfl
            have z3 := HJ.out.z 3
            have r4 := HJ.out.c 4 _ rfl
            have z4 := HJ.out.z 4
            have r5 := HJ.out.c 5 _ rfl
            have z5 := HJ.out.z 5
            go_wp2_with fail
            generalize hwf : ((((((wc.setCell ⟨w.heap.size, 0, none⟩ (.int .i64 0)).setCell ⟨w.heap.size, 1, none⟩ (.int .i64 0)).setCell ⟨w.heap.size, 2, none⟩ (.int .i64 0)).setCell ⟨w.heap.size, 3, none⟩ (.slice none 0 0)).setCell ⟨w.heap.size, 4, none⟩ (.int .i64 0)).setCell ⟨w.heap.size, 5, none⟩ (.bool false)) = wf
            have hrow : wf.heap[w.heap.size]? = some (.cells zeroQ 51 (0, 0)) := by
              rw [← hwf, (block_set _ _ _ _ _ _ (block_set _ _ _ _ _ _ (block_set _ _ _ _ _ _ (block_set _ _ _ _ _ _ (block_set _ _ _ _ _ _ (block_set _ _ _ _ _ _ HJ.out.res))))))]
              rfl
            have hbel : Below w.heap.size w wf := by
              rw [← hwf]
              exact ((((((HJ.out.below.setCell (Nat.le_refl _) _).setCell (Nat.le_refl _) _).setCell (Nat.le_refl _) _).setCell (Nat.le_refl _) _).setCell (Nat.le_refl _) _).setCell (Nat.le_refl _) _)
            refine bodyPost_ret (v := .tuple #[.agg zeroQ, .int .i64 (3)]) ?_ rfl ⟨by rw [HR.out, HE.out]; rfl, hbel⟩
            rw [results_two rfl]
            have hld := run_loadVar_row (P := Tryz.prog) wf w.heap.size 51 51 zeroQ (0, 0) _ hrow Tryz.underlying51 rfl infoQ
            simp [asAddr, Result.andThen, hld]
        · have HE : Hid (comE s false = 3) := HE0.out.trans (by rw [h1, h2]; rfl)
          have HR : Hid (comR s false = noCom) := HC.out.trans (if_neg (by rw [HE.out]; decide))
          have r0 := HJ.out.c 0 _ rfl
          have z0 := HJ.out.z 0
          have r1 := HJ.out.c 1 _ rfl
          have z1 := HJ.out.z 1
          have r2 := HJ.out.c 2 _ rfl
          have z2 := HJ.out.z 2
          have r3 := HJ.out.c 3 _ rfl
          have z3 := HJ.out.z 3
          have r4 := HJ.out.c 4 _ rfl
          have z4 := HJ.out.z 4
          have r5 := HJ.out.c 5 _ rfl
          have z5 := HJ.out.z 5
          go_wp2_with fail
          generalize hwf : ((((((wc.setCell ⟨w.heap.size, 0, none⟩ (.int .i64 0)).setCell ⟨w.heap.size, 1, none⟩ (.int .i64 0)).setCell ⟨w.heap.size, 2, none⟩ (.int .i64 0)).setCell ⟨w.heap.size, 3, none⟩ (.slice none 0 0)).setCell ⟨w.heap.size, 4, none⟩ (.int .i64 0)).setCell ⟨w.heap.size, 5, none⟩ (.bool false)) = wf
          have hrow : wf.heap[w.heap.size]? = some (.cells zeroQ 51 (0, 0)) := by
            rw [← hwf, (block_set _ _ _ _ _ _ (block_set _ _ _ _ _ _ (block_set _ _ _ _ _ _ (block_set _ _ _ _ _ _ (block_set _ _ _ _ _ _ (block_set _ _ _ _ _ _ HJ.out.res))))))]
            rfl
          have hbel : Below w.heap.size w wf := by
            rw [← hwf]
            exact ((((((HJ.out.below.setCell (Nat.le_refl _) _).setCell (Nat.le_refl _) _).setCell (Nat.le_refl _) _).setCell (Nat.le_refl _) _).setCell (Nat.le_refl _) _).setCell (Nat.le_refl _) _)
          refine bodyPost_ret (v := .tuple #[.agg zeroQ, .int .i64 (3)]) ?_ rfl ⟨by rw [HR.out, HE.out]; rfl, hbel⟩
          rw [results_two rfl]
          have hld := run_loadVar_row (P := Tryz.prog) wf w.heap.size 51 51 zeroQ (0, 0) _ hrow Tryz.underlying51 rfl infoQ
          simp [asAddr, Result.andThen, hld]
      · have HE : Hid (comE s false = 2) := HE0.out.trans (by rw [h1]; rfl)
        have HR : Hid (comR s false = noCom) := HC.out.trans (if_neg (by rw [HE.out]; decide))
        have r0 := HJ.out.c 0 _ rfl
        have z0 := HJ.out.z 0
        have r1 := HJ.out.c 1 _ rfl
        have z1 := HJ.out.z 1
        have r2 := HJ.out.c 2 _ rfl
        have z2 := HJ.out.z 2
        have r3 := HJ.out.c 3 _ rfl
        have z3 := HJ.out.z 3
        have r4 := HJ.out.c 4 _ rfl
        have z4 := HJ.out.z 4
        have r5 := HJ.out.c 5 _ rfl
        have z5 := HJ.out.z 5
        go_wp2_with fail
        generalize hwf : ((((((wc.setCell ⟨w.heap.size, 0, none⟩ (.int .i64 0)).setCell ⟨w.heap.size, 1, none⟩ (.int .i64 0)).setCell ⟨w.heap.size, 2, none⟩ (.int .i64 0)).setCell ⟨w.heap.size, 3, none⟩ (.slice none 0 0)).setCell ⟨w.heap.size, 4, none⟩ (.int .i64 0)).setCell ⟨w.heap.size, 5, none⟩ (.bool false)) = wf
        have hrow : wf.heap[w.heap.size]? = some (.cells zeroQ 51 (0, 0)) := by
          rw [← hwf, (block_set _ _ _ _ _ _ (block_set _ _ _ _ _ _ (block_set _ _ _ _ _ _ (block_set _ _ _ _ _ _ (block_set _ _ _ _ _ _ (block_set _ _ _ _ _ _ HJ.out.res))))))]
          rfl
        have hbel : Below w.heap.size w wf := by
          rw [← hwf]
          exact ((((((HJ.out.below.setCell (Nat.le_refl _) _).setCell (Nat.le_refl _) _).setCell (Nat.le_refl _) _).setCell (Nat.le_refl _) _).setCell (Nat.le_refl _) _).setCell (Nat.le_refl _) _)
        refine bodyPost_ret (v := .tuple #[.agg zeroQ, .int .i64 (2)]) ?_ rfl ⟨by rw [HR.out, HE.out]; rfl, hbel⟩
        rw [results_two rfl]
        have hld := run_loadVar_row (P := Tryz.prog) wf w.heap.size 51 51 zeroQ (0, 0) _ hrow Tryz.underlying51 rfl infoQ
        simp [asAddr, Result.andThen, hld]
  · have HE : Hid (comE s false = RE) := HE0.out.trans (by rw [hre]; rfl)
    have HR : Hid (comR s false = noCom) := HC.out.trans (if_neg (by rw [HE.out]; simpa using hre))
    have HJ : Hid (Jq w w2) := HX2.out.jq
    have r0 := HJ.out.c 0 _ rfl
    have z0 := HJ.out.z 0
    have r1 := HJ.out.c 1 _ rfl
    have z1 := HJ.out.z 1
    have r2 := HJ.out.c 2 _ rfl
    have z2 := HJ.out.z 2
    have r3 := HJ.out.c 3 _ rfl
    have z3 := HJ.out.z 3
    have r4 := HJ.out.c 4 _ rfl
    have z4 := HJ.out.z 4
    have r5 := HJ.out.c 5 _ rfl
    have z5 := HJ.out.z 5
    go_wp2_with fail
    generalize hwf : ((((((w2.setCell ⟨w.heap.size, 0, none⟩ (.int .i64 0)).setCell ⟨w.heap.size, 1, none⟩ (.int .i64 0)).setCell ⟨w.heap.size, 2, none⟩ (.int .i64 0)).setCell ⟨w.heap.size, 3, none⟩ (.slice none 0 0)).setCell ⟨w.heap.size, 4, none⟩ (.int .i64 0)).setCell ⟨w.heap.size, 5, none⟩ (.bool false)) = wf
    have hrow : wf.heap[w.heap.size]? = some (.cells zeroQ 51 (0, 0)) := by
      rw [← hwf, (block_set _ _ _ _ _ _ (block_set _ _ _ _ _ _ (block_set _ _ _ _ _ _ (block_set _ _ _ _ _ _ (block_set _ _ _ _ _ _ (block_set _ _ _ _ _ _ HJ.out.res))))))]
      rfl
    have hbel : Below w.heap.size w wf := by
      rw [← hwf]
      exact ((((((HJ.out.below.setCell (Nat.le_refl _) _).setCell (Nat.le_refl _) _).setCell (Nat.le_refl _) _).setCell (Nat.le_refl _) _).setCell (Nat.le_refl _) _).setCell (Nat.le_refl _) _)
    refine bodyPost_ret (v := .tuple #[.agg zeroQ, .int .i64 (RE)]) ?_ rfl ⟨by rw [HR.out, HE.out]; rfl, hbel⟩
    rw [results_two rfl]
    have hld := run_loadVar_row (P := Tryz.prog) wf w.heap.size 51 51 zeroQ (0, 0) _ hrow Tryz.underlying51 rfl infoQ
    simp [asAddr, Result.andThen, hld]

set_option maxRecDepth 20000 in
set_option maxHeartbeats 1000000 in
theorem r7comm_none (s : ByteArray) (w : World) (hs : s.size ≤ 140737488351232) (h : 23 ≤ s.size) (h2 : ((s.size : Int) != (comN s : Int)) = false) (hk : ((s.extract 18 22).toList == noneT.toList) = true) (hs2 : ((s.extract 18 22).toList == sowtT.toList) = false) :
    Calls Tryz.prog 20 #[.string s, .bool true] w fun e w' => e = .returned (.tuple #[.agg (comC (comR s true)), .int .i64 (comE s true)]) ∧ Below w.heap.size w w' := by
  have HE0 : Hid (comE s true = if ((frV (bytesOf (s.extract 8 18))).2 : Int) != 0 then ((frV (bytesOf (s.extract 8 18))).2 : Int) else if beI s 0 2 == 0 then 2 else
      if decide (8 < beI s 0 2) || (beI s 6 8 % 8 != 0 || (decide (beI s 6 8 < 8) || decide (32 < beI s 6 8))) then 3 else if decide (1048576 < beI s 2 6) then 5 else 0) := by
    show _ = _
    unfold comE
    have n1 : ((s.extract 18 22).toList != noneT.toList) = !true := by rw [← hk]; rfl
    have n2 : ((s.extract 18 22).toList != sowtT.toList) = !false := by rw [← hs2]; rfl
    rw [h2, n1, n2, decide_eq_false (by omega : ¬ ((s.size : Int) < 23))]
    simp only [Bool.not_false, Bool.not_true, Bool.true_and, Bool.false_and, Bool.and_false, Bool.or_self, Bool.false_eq_true, if_false]
  have HX : Hid (comX s true = (⟨((frV (bytesOf (s.extract 8 18))).1 : Int), beI s 0 2, beI s 6 8, beI s 2 6, false⟩ : Com)) := by
    show _ = _
    unfold comX
    rw [show comLit s true = false from by unfold comLit; rw [hs2]; rfl]
  have HC : Hid (comR s true = if comE s true = 0 then comX s true else noCom) := rfl
  have hlt : 22 < s.size := by omega
  have hbb : (s[22]'hlt).toNat < 256 := (s[22]'hlt).toNat_lt
  have hcn : comN s = 23 + (s[22]'hlt).toNat + (23 + (s[22]'hlt).toNat) % 2 := by unfold comN; rw [byte_getD s 22 hlt]
  have hrem : Int.tmod (23 + ((s[22]'hlt).toNat : Int)) 2 = (((23 + (s[22]'hlt).toNat) % 2 : Nat) : Int) := by
    rw [Int.tmod_eq_emod_of_nonneg (by omega)]
    omega
  have h3 : ((s.size : Int) != 23 + ((s[22]'hlt).toNat : Int) + (((23 + (s[22]'hlt).toNat) % 2 : Nat) : Int)) = false := by
    rw [hcn] at h2
    rw [← h2]
    congr 1
  have hk1 : ((s.extract 18 22).toList == [78, 79, 78, 69]) = true := by rw [← none_list]; exact hk
  have hk2 : ((s.extract 18 22).toList == [115, 111, 119, 116]) = false := by rw [← sowt_list]; exact hs2
  have h18n : 18 ≤ s.size := by omega
  have sl18 : ∀ wx, (Instr.slice 9 (.string s) (some (.int .i64 18)) (some (.int .i64 22)) none).run Tryz.prog wx = .ok (.string (s.extract 18 22)) wx := fun wx => ext_run s 18 22 (by decide) (by omega) wx
  have sl2 : ∀ wx, (Instr.slice 9 (.string s) (some (.int .i64 2)) (some (.int .i64 6)) none).run Tryz.prog wx = .ok (.string (s.extract 2 6)) wx := fun wx => ext_run s 2 6 (by decide) (by omega) wx
  have sl8 : ∀ wx, (Instr.slice 9 (.string s) (some (.int .i64 8)) (some (.int .i64 18)) none).run Tryz.prog wx = .ok (.string (s.extract 8 18)) wx := fun wx => ext_run s 8 18 (by decide) (by omega) wx
  have sl6 : ∀ wx, (Instr.slice 9 (.string s) (some (.int .i64 6)) (some (.int .i64 8)) none).run Tryz.prog wx = .ok (.string (s.extract 6 8)) wx := fun wx => ext_run s 6 8 (by decide) (by omega) wx
  have sl0 : ∀ wx, (Instr.slice 9 (.string s) none (some (.int .i64 2)) none).run Tryz.prog wx = .ok (.string (s.extract 0 2)) wx := fun wx => by
    have h2i : decide ((s.size : Int) < 2) = false := decide_eq_false (by omega)
    have h2j : ¬ ((s.size : Int) < 2) := by omega
    go_simp
  have KB : Hid (∀ a b wx, Calls Tryz.prog 17 #[.string (s.extract a b)] wx fun e w' => e = .returned (.int .i64 (beI s a b)) ∧ w' = wx) := fun a b wx => reffromBe_spec (s.extract a b) (by rw [ByteArray.size_extract]; omega) wx
  have KR : Hid (∀ wx, Calls Tryz.prog 47 #[.string (s.extract 8 18)] wx fun e w' => e = .returned (pairV (frV (bytesOf (s.extract 8 18)))) ∧ Below wx.heap.size wx w') := fun wx => reffromRate_spec (s.extract 8 18) (by rw [ByteArray.size_extract]; omega) wx
  have hr1 := fromBe_four (bytesOf (s.extract 0 2)) (by rw [bytesOf_length, ByteArray.size_extract]; omega) (bytesOf_lt _)
  have hr2 := fromBe_four (bytesOf (s.extract 6 8)) (by rw [bytesOf_length, ByteArray.size_extract]; omega) (bytesOf_lt _)
  have hr3 := fromBe_four (bytesOf (s.extract 2 6)) (by rw [bytesOf_length, ByteArray.size_extract]; omega) (bytesOf_lt _)
  have HRG : Hid ((0 ≤ beI s 0 2 ∧ beI s 0 2 < 4294967296) ∧ (0 ≤ beI s 6 8 ∧ beI s 6 8 < 4294967296) ∧ (0 ≤ beI s 2 6 ∧ beI s 2 6 < 4294967296)) := ⟨hr1, hr2, hr3⟩
  have K26 := KB.out 2 6
  have K02 : Hid (∀ wx, Calls Tryz.prog 17 #[.string (s.extract 0 2)] wx fun e w' => e = .returned (.int .i64 (beI s 0 2)) ∧ w' = wx) := KB.out 0 2
  have K68 : Hid (∀ wx, Calls Tryz.prog 17 #[.string (s.extract 6 8)] wx fun e w' => e = .returned (.int .i64 (beI s 6 8)) ∧ w' = wx) := KB.out 6 8
  clear hr1 hr2 hr3 KB
  generalize beI s 2 6 = SM at *
  generalize beI s 0 2 = CHN at *
  generalize beI s 6 8 = WD at *
  generalize hFR : frV (bytesOf (s.extract 8 18)) = FR at *
  obtain ⟨RTn, REn⟩ := FR
  clear hFR
  simp only at HE0 HX KR
  obtain ⟨RT, hRT⟩ : ∃ RT : Int, RT = (RTn : Int) := ⟨_, rfl⟩
  obtain ⟨RE, hRE⟩ : ∃ RE : Int, RE = (REn : Int) := ⟨_, rfl⟩
  have KR2 : Hid (∀ wx, Calls Tryz.prog 47 #[.string (s.extract 8 18)] wx fun e w' => e = .returned (.tuple #[.int .i64 RT, .int .i64 RE]) ∧ Below wx.heap.size wx w') := by rw [hRT, hRE]; exact KR
  rw [← hRT] at HX
  rw [← hRE] at HE0
  clear hRT hRE KR
  have HJ0 : Hid (Jq w (w.alloc (.cells zeroQ 51))) := Jq.new w
  go_enter Tryz.func20, Tryz.ntmps20
  go_wp2_with fail
  refine (K26 _).mono ?_
  rintro e w1 ⟨rfl, rfl⟩
  have HX1 : Hid (Jx w (w.alloc (.cells zeroQ 51)).heap.size ⟨0, 0, 0, SM, false⟩ ((w.alloc (.cells zeroQ 51)).alloc (.cells (comC ⟨0, 0, 0, SM, false⟩) 51))) := Jx.new HJ0.out ⟨0, 0, 0, SM, false⟩
  rw [show (w.alloc (.cells zeroQ 51)).heap.size = w.heap.size + 1 from by simp] at HX1
  clear K26 HJ0
  go_wp2_with fail
  refine (KR2.out _).mono ?_
  rintro e w2 ⟨rfl, hB2⟩
  have HX2 : Hid (Jx w (w.heap.size + 1) ⟨0, 0, 0, SM, false⟩ w2) := HX1.out.next hB2
  clear KR2 hB2 HX1
  generalize hQ : w.heap.size + 1 = Q at *
  clear hQ
  cases hre : RE != 0
  · rw [hre] at HE0
    simp only [Bool.false_eq_true, if_false] at HE0
    go_upto_region 13 with fail
    go_cut [7] from 68 to 76 (fun v wx => v = Value.pointer (some ⟨Q, 0, none⟩) ∧ Jx w Q ⟨RT, CHN, WD, SM, false⟩ wx)
    case first =>
      have r0 := HX2.out.c 0 _ rfl
      have r1 := HX2.out.c 1 _ rfl
      have r2 := HX2.out.c 2 _ rfl
      have r3 := HX2.out.c 3 _ rfl
      have z0 := HX2.out.z 0
      have z1 := HX2.out.z 1
      have z2 := HX2.out.z 2
      have z3 := HX2.out.z 3
      refine wp_region_held_drew (S := fun _ => True) (by kernel_rfl) trivial (fun hS => ?_)
      refine wpAnyH_take (i := 0) (v := .int .i64 RT) rfl (by kernel_rfl) (by kernel_rfl) (by kernel_rfl) (fun _ _ _ h => h) (Or.inl ⟨by rfl, fun w hSw => by go_simp⟩) hS ?_
      simp only [Act.put, List.getElem_toArray, List.getElem_cons_succ, List.getElem_cons_zero, List.setIfInBounds_toArray, List.set_cons_zero, List.set_cons_succ]
      refine wpAnyH_take (i := 1) (v := .string s) rfl (by kernel_rfl) (by kernel_rfl) (by kernel_rfl) (fun _ _ _ h => h) (Or.inl ⟨by rfl, fun w hSw => by go_simp⟩) hS ?_
      simp only [Act.put, List.getElem_toArray, List.getElem_cons_succ, List.getElem_cons_zero, List.setIfInBounds_toArray, List.set_cons_zero, List.set_cons_succ]
      refine wpAnyH_take (i := 2) (v := .string (s.extract 0 2)) rfl (by kernel_rfl) (by kernel_rfl) (by kernel_rfl) (fun _ _ _ h => h) (Or.inl ⟨by rfl, fun w hSw => by go_simp⟩) hS ?_
      simp only [Act.put, List.getElem_toArray, List.getElem_cons_succ, List.getElem_cons_zero, List.setIfInBounds_toArray, List.set_cons_zero, List.set_cons_succ]
      refine wpAnyH_take (i := 4) (v := .string s) rfl (by kernel_rfl) (by kernel_rfl) (by kernel_rfl) (fun _ _ _ h => h) (Or.inl ⟨by rfl, fun w hSw => by go_simp⟩) hS ?_
      simp only [Act.put, List.getElem_toArray, List.getElem_cons_succ, List.getElem_cons_zero, List.setIfInBounds_toArray, List.set_cons_zero, List.set_cons_succ]
      refine wpAnyH_take (i := 5) (v := .string (s.extract 6 8)) rfl (by kernel_rfl) (by kernel_rfl) (by kernel_rfl) (fun _ _ _ h => h) (Or.inl ⟨by rfl, fun w hSw => by go_simp⟩) hS ?_
      simp only [Act.put, List.getElem_toArray, List.getElem_cons_succ, List.getElem_cons_zero, List.setIfInBounds_toArray, List.set_cons_zero, List.set_cons_succ]
      refine wpAnyH_ready (rs := [3]) (by kernel_rfl) (by simp) ?_
      refine AllReadyH.cons rfl (fun K hK => ?_) AllReadyH.nil
      go_simp
      refine (K02.out _).mono ?_
      rintro e w4 ⟨rfl, rfl⟩
      refine hK.out _ _ trivial (fun hS => ?_)
      clear hK K
      refine wpAnyH_ready (rs := [6]) (by kernel_rfl) (by simp) ?_
      refine AllReadyH.cons rfl (fun K hK => ?_) AllReadyH.nil
      go_simp
      refine (K68.out _).mono ?_
      rintro e w4 ⟨rfl, rfl⟩
      refine hK.out _ _ trivial (fun hS => ?_)
      clear hK K
      refine wpAnyH_take (i := 7) (v := .agg #[.int .i64 RT, .int .i64 CHN, .int .i64 WD, .slice none 0 0]) rfl (by kernel_rfl) (by kernel_rfl) (by kernel_rfl) (fun _ _ _ h => h) (Or.inl ⟨by rfl, fun w hSw => by go_simp⟩) hS ?_
      simp only [Act.put, List.getElem_toArray, List.getElem_cons_succ, List.getElem_cons_zero, List.setIfInBounds_toArray, List.set_cons_zero, List.set_cons_succ]
      refine wpAnyH_take (i := 8) (v := .pointer (some ⟨Q, 0, none⟩)) rfl (by kernel_rfl) (by kernel_rfl) (by kernel_rfl) (fun _ _ _ h => h) (Or.inl ⟨by rfl, fun w hSw => by go_simp⟩) hS ?_
      simp only [Act.put, List.getElem_toArray, List.getElem_cons_succ, List.getElem_cons_zero, List.setIfInBounds_toArray, List.set_cons_zero, List.set_cons_succ]
      refine wpAnyH_ready (rs := [9]) (by kernel_rfl) (by simp) ?_
      refine AllReadyH.cons rfl (fun K hK => ?_) AllReadyH.nil
      go_simp
      refine hK.out _ _ trivial (fun hS => ?_)
      clear hK K
      refine wpAnyH_done (by kernel_rfl) ?_ _
      go_wp2_with fail
      go_meet
      exact ⟨rfl, ((((HX2.out.set (y := ⟨RT, 0, 0, SM, false⟩) 0 (.int .i64 RT) rfl).set (y := ⟨RT, CHN, 0, SM, false⟩) 1 (.int .i64 CHN) rfl).set (y := ⟨RT, CHN, WD, SM, false⟩) 2 (.int .i64 WD) rfl).set (y := ⟨RT, CHN, WD, SM, false⟩) 3 (.slice none 0 0) rfl).next ⟨rfl, rfl, rfl, Nat.le_refl _, fun _ _ => rfl⟩⟩
    case rest =>
      obtain ⟨rfl, hj⟩ := hcut
      have HX3 : Hid (Jx w Q ⟨RT, CHN, WD, SM, false⟩ wc) := hj
      have q1 := HX3.out.c 1 _ rfl
      have q2 := HX3.out.c 2 _ rfl
      have q4 := HX3.out.c 4 _ rfl
      have hw0 := HRG.out.2.1.1
      have hw1 := HRG.out.2.1.2
      have HJ : Hid (Jq w wc) := HX3.out.jq
      clear hj HX2 K02 K68 HRG hre
      cases h1 : CHN == 0
      · cases h2 : decide (8 < CHN)
        · cases h3 : WD % 8 != 0
          · cases h4 : decide (WD < 8)
            · cases h5 : decide (32 < WD)
              · cases h6 : decide (1048576 < SM)
                · have HE : Hid (comE s true = 0) := HE0.out.trans (by rw [h1, h2, h3, h4, h5, h6]; rfl)
                  have HR : Hid (comR s true = ⟨RT, CHN, WD, SM, false⟩) := (HC.out.trans (if_pos HE.out)).trans HX.out
                  have q0 := HX3.out.c 0 _ rfl
                  have q3 := HX3.out.c 3 _ rfl
                  have q5 := HX3.out.c 5 _ rfl
                  have r0 := HJ.out.c 0 _ rfl
                  have z0 := HJ.out.z 0
                  have r1 := HJ.out.c 1 _ rfl
                  have z1 := HJ.out.z 1
                  have r2 := HJ.out.c 2 _ rfl
                  have z2 := HJ.out.z 2
                  have r3 := HJ.out.c 3 _ rfl
                  have z3 := HJ.out.z 3
                  have r4 := HJ.out.c 4 _ rfl
                  have z4 := HJ.out.z 4
                  have r5 := HJ.out.c 5 _ rfl
                  have z5 := HJ.out.z 5
                  go_wp2_with fail
                  generalize hwf : ((((((wc.setCell ⟨w.heap.size, 0, none⟩ (.int .i64 RT)).setCell ⟨w.heap.size, 1, none⟩ (.int .i64 CHN)).setCell ⟨w.heap.size, 2, none⟩ (.int .i64 WD)).setCell ⟨w.heap.size, 3, none⟩ (.slice none 0 0)).setCell ⟨w.heap.size, 4, none⟩ (.int .i64 SM)).setCell ⟨w.heap.size, 5, none⟩ (.bool false)) = wf
                  have hrow : wf.heap[w.heap.size]? = some (.cells (comC ⟨RT, CHN, WD, SM, false⟩) 51 (0, 0)) := by
                    rw [← hwf, (block_set _ _ _ _ _ _ (block_set _ _ _ _ _ _ (block_set _ _ _ _ _ _ (block_set _ _ _ _ _ _ (block_set _ _ _ _ _ _ (block_set _ _ _ _ _ _ HJ.out.res))))))]
                    rfl
                  have hbel : Below w.heap.size w wf := by
                    rw [← hwf]
                    exact ((((((HJ.out.below.setCell (Nat.le_refl _) _).setCell (Nat.le_refl _) _).setCell (Nat.le_refl _) _).setCell (Nat.le_refl _) _).setCell (Nat.le_refl _) _).setCell (Nat.le_refl _) _)
                  refine bodyPost_ret (v := .tuple #[.agg (comC ⟨RT, CHN, WD, SM, false⟩), .int .i64 (0)]) ?_ rfl ⟨by rw [HR.out, HE.out], hbel⟩
                  rw [results_two rfl]
                  have hld := run_loadVar_row (P := Tryz.prog) wf w.heap.size 51 51 (comC ⟨RT, CHN, WD, SM, false⟩) (0, 0) _ hrow Tryz.underlying51 rfl infoQ
                  simp [asAddr, Result.andThen, hld]
                · have HE : Hid (comE s true = 5) := HE0.out.trans (by rw [h1, h2, h3, h4, h5, h6]; rfl)
                  have HR : Hid (comR s true = noCom) := HC.out.trans (if_neg (by rw [HE.out]; decide))
                  have r0 := HJ.out.c 0 _ rfl
                  have z0 := HJ.out.z 0
                  have r1 := HJ.out.c 1 _ rfl
                  have z1 := HJ.out.z 1
                  have r2 := HJ.out.c 2 _ rfl
                  have z2 := HJ.out.z 2
                  have r3 := HJ.out.c 3 _ rfl
                  have z3 := HJ.out.z 3
                  have r4 := HJ.out.c 4 _ rfl
                  have z4 := HJ.out.z 4
                  have r5 := HJ.out.c 5 _ rfl
                  have z5 := HJ.out.z 5
                  go_wp2_with fail
                  generalize hwf : ((((((wc.setCell ⟨w.heap.size, 0, none⟩ (.int .i64 0)).setCell ⟨w.heap.size, 1, none⟩ (.int .i64 0)).setCell ⟨w.heap.size, 2, none⟩ (.int .i64 0)).setCell ⟨w.heap.size, 3, none⟩ (.slice none 0 0)).setCell ⟨w.heap.size, 4, none⟩ (.int .i64 0)).setCell ⟨w.heap.size, 5, none⟩ (.bool false)) = wf
                  have hrow : wf.heap[w.heap.size]? = some (.cells zeroQ 51 (0, 0)) := by
                    rw [← hwf, (block_set _ _ _ _ _ _ (block_set _ _ _ _ _ _ (block_set _ _ _ _ _ _ (block_set _ _ _ _ _ _ (block_set _ _ _ _ _ _ (block_set _ _ _ _ _ _ HJ.out.res))))))]
                    rfl
                  have hbel : Below w.heap.size w wf := by
                    rw [← hwf]
                    exact ((((((HJ.out.below.setCell (Nat.le_refl _) _).setCell (Nat.le_refl _) _).setCell (Nat.le_refl _) _).setCell (Nat.le_refl _) _).setCell (Nat.le_refl _) _).setCell (Nat.le_refl _) _)
                  refine bodyPost_ret (v := .tuple #[.agg zeroQ, .int .i64 (5)]) ?_ rfl ⟨by rw [HR.out, HE.out]; rfl, hbel⟩
                  rw [results_two rfl]
                  have hld := run_loadVar_row (P := Tryz.prog) wf w.heap.size 51 51 zeroQ (0, 0) _ hrow Tryz.underlying51 rfl infoQ
                  simp [asAddr, Result.andThen, hld]
              · have HE : Hid (comE s true = 3) := HE0.out.trans (by rw [h1, h2, h3, h4, h5]; rfl)
                have HR : Hid (comR s true = noCom) := HC.out.trans (if_neg (by rw [HE.out]; decide))
                have r0 := HJ.out.c 0 _ rfl
                have z0 := HJ.out.z 0
                have r1 := HJ.out.c 1 _ rfl
                have z1 := HJ.out.z 1
                have r2 := HJ.out.c 2 _ rfl
                have z2 := HJ.out.z 2
                have r3 := HJ.out.c 3 _ rfl
                have z3 := HJ.out.z 3
                have r4 := HJ.out.c 4 _ rfl
                have z4 := HJ.out.z 4
                have r5 := HJ.out.c 5 _ rfl
                have z5 := HJ.out.z 5
                go_wp2_with fail
                generalize hwf : ((((((wc.setCell ⟨w.heap.size, 0, none⟩ (.int .i64 0)).setCell ⟨w.heap.size, 1, none⟩ (.int .i64 0)).setCell ⟨w.heap.size, 2, none⟩ (.int .i64 0)).setCell ⟨w.heap.size, 3, none⟩ (.slice none 0 0)).setCell ⟨w.heap.size, 4, none⟩ (.int .i64 0)).setCell ⟨w.heap.size, 5, none⟩ (.bool false)) = wf
                have hrow : wf.heap[w.heap.size]? = some (.cells zeroQ 51 (0, 0)) := by
                  rw [← hwf, (block_set _ _ _ _ _ _ (block_set _ _ _ _ _ _ (block_set _ _ _ _ _ _ (block_set _ _ _ _ _ _ (block_set _ _ _ _ _ _ (block_set _ _ _ _ _ _ HJ.out.res))))))]
                  rfl
                have hbel : Below w.heap.size w wf := by
                  rw [← hwf]
                  exact ((((((HJ.out.below.setCell (Nat.le_refl _) _).setCell (Nat.le_refl _) _).setCell (Nat.le_refl _) _).setCell (Nat.le_refl _) _).setCell (Nat.le_refl _) _).setCell (Nat.le_refl _) _)
                refine bodyPost_ret (v := .tuple #[.agg zeroQ, .int .i64 (3)]) ?_ rfl ⟨by rw [HR.out, HE.out]; rfl, hbel⟩
                rw [results_two rfl]
                have hld := run_loadVar_row (P := Tryz.prog) wf w.heap.size 51 51 zeroQ (0, 0) _ hrow Tryz.underlying51 rfl infoQ
                simp [asAddr, Result.andThen, hld]
            · have HE : Hid (comE s true = 3) := HE0.out.trans (by rw [h1, h2, h3, h4]; rfl)
              have HR : Hid (comR s true = noCom) := HC.out.trans (if_neg (by rw [HE.out]; decide))
              have r0 := HJ.out.c 0 _ rfl
              have z0 := HJ.out.z 0
              have r1 := HJ.out.c 1 _ rfl
              have z1 := HJ.out.z 1
              have r2 := HJ.out.c 2 _ rfl
              have z2 := HJ.out.z 2
              have r3 := HJ.out.c 3 _ rfl
              have z3 := HJ.out.z 3
              have r4 := HJ.out.c 4 _ rfl
              have z4 := HJ.out.z 4
              have r5 := HJ.out.c 5 _ rfl
              have z5 := HJ.out.z 5
              go_wp2_with fail
              generalize hwf : ((((((wc.setCell ⟨w.heap.size, 0, none⟩ (.int .i64 0)).setCell ⟨w.heap.size, 1, none⟩ (.int .i64 0)).setCell ⟨w.heap.size, 2, none⟩ (.int .i64 0)).setCell ⟨w.heap.size, 3, none⟩ (.slice none 0 0)).setCell ⟨w.heap.size, 4, none⟩ (.int .i64 0)).setCell ⟨w.heap.size, 5, none⟩ (.bool false)) = wf
              have hrow : wf.heap[w.heap.size]? = some (.cells zeroQ 51 (0, 0)) := by
                rw [← hwf, (block_set _ _ _ _ _ _ (block_set _ _ _ _ _ _ (block_set _ _ _ _ _ _ (block_set _ _ _ _ _ _ (block_set _ _ _ _ _ _ (block_set _ _ _ _ _ _ HJ.out.res))))))]
                rfl
              have hbel : Below w.heap.size w wf := by
                rw [← hwf]
                exact ((((((HJ.out.below.setCell (Nat.le_refl _) _).setCell (Nat.le_refl _) _).setCell (Nat.le_refl _) _).setCell (Nat.le_refl _) _).setCell (Nat.le_refl _) _).setCell (Nat.le_refl _) _)
              refine bodyPost_ret (v := .tuple #[.agg zeroQ, .int .i64 (3)]) ?_ rfl ⟨by rw [HR.out, HE.out]; rfl, hbel⟩
              rw [results_two rfl]
              have hld := run_loadVar_row (P := Tryz.prog) wf w.heap.size 51 51 zeroQ (0, 0) _ hrow Tryz.underlying51 rfl infoQ
              simp [asAddr, Result.andThen, hld]
          · have HE : Hid (comE s true = 3) := HE0.out.trans (by rw [h1, h2, h3]; rfl)
            have HR : Hid (comR s true = noCom) := HC.out.trans (if_neg (by rw [HE.out]; decide))
            have r0 := HJ.out.c 0 _ rfl
            have z0 := HJ.out.z 0
            have r1 := HJ.out.c 1 _ rfl
            have z1 := HJ.out.z 1
            have r2 := HJ.out.c 2 _ rfl
            have z2 := HJ.out.z 2
            have r3 := HJ.out.c 3 _ rfl
            have z3 := HJ.out.z 3
            have r4 := HJ.out.c 4 _ rfl
            have z4 := HJ.out.z 4
            have r5 := HJ.out.c 5 _ rfl
            have z5 := HJ.out.z 5
            go_wp2_with fail
            generalize hwf : ((((((wc.setCell ⟨w.heap.size, 0, none⟩ (.int .i64 0)).setCell ⟨w.heap.size, 1, none⟩ (.int .i64 0)).setCell ⟨w.heap.size, 2, none⟩ (.int .i64 0)).setCell ⟨w.heap.size, 3, none⟩ (.slice none 0 0)).setCell ⟨w.heap.size, 4, none⟩ (.int .i64 0)).setCell ⟨w.heap.size, 5, none⟩ (.bool false)) = wf
            have hrow : wf.heap[w.heap.size]? = some (.cells zeroQ 51 (0, 0)) := by
              rw [← hwf, (block_set _ _ _ _ _ _ (block_set _ _ _ _ _ _ (block_set _ _ _ _ _ _ (block_set _ _ _ _ _ _ (block_set _ _ _ _ _ _ (block_set _ _ _ _ _ _ HJ.out.res))))))]
              rfl
            have hbel : Below w.heap.size w wf := by
              rw [← hwf]
              exact ((((((HJ.out.below.setCell (Nat.le_refl _) _).setCell (Nat.le_refl _) _).setCell (Nat.le_refl _) _).setCell (Nat.le_refl _) _).setCell (Nat.le_refl _) _).setCell (Nat.le_refl _) _)
            refine bodyPost_ret (v := .tuple #[.agg zeroQ, .int .i64 (3)]) ?_ rfl ⟨by rw [HR.out, HE.out]; rfl, hbel⟩
            rw [results_two rfl]
            have hld := run_loadVar_row (P := Tryz.prog) wf w.heap.size 51 51 zeroQ (0, 0) _ hrow Tryz.underlying51 rfl infoQ
            simp [asAddr, Result.andThen, hld]
        · have HE : Hid (comE s true = 3) := HE0.out.trans (by rw [h1, h2]; rfl)
          have HR : Hid (comR s true = noCom) := HC.out.trans (if_neg (by rw [HE.out]; decide))
          have r0 := HJ.out.c 0 _ rfl
          have z0 := HJ.out.z 0
          have r1 := HJ.out.c 1 _ rfl
          have z1 := HJ.out.z 1
          have r2 := HJ.out.c 2 _ rfl
          have z2 := HJ.out.z 2
          have r3 := HJ.out.c 3 _ rfl
          have z3 := HJ.out.z 3
          have r4 := HJ.out.c 4 _ rfl
          have z4 := HJ.out.z 4
          have r5 := HJ.out.c 5 _ rfl
          have z5 := HJ.out.z 5
          go_wp2_with fail
          generalize hwf : ((((((wc.setCell ⟨w.heap.size, 0, none⟩ (.int .i64 0)).setCell ⟨w.heap.size, 1, none⟩ (.int .i64 0)).setCell ⟨w.heap.size, 2, none⟩ (.int .i64 0)).setCell ⟨w.heap.size, 3, none⟩ (.slice none 0 0)).setCell ⟨w.heap.size, 4, none⟩ (.int .i64 0)).setCell ⟨w.heap.size, 5, none⟩ (.bool false)) = wf
          have hrow : wf.heap[w.heap.size]? = some (.cells zeroQ 51 (0, 0)) := by
            rw [← hwf, (block_set _ _ _ _ _ _ (block_set _ _ _ _ _ _ (block_set _ _ _ _ _ _ (block_set _ _ _ _ _ _ (block_set _ _ _ _ _ _ (block_set _ _ _ _ _ _ HJ.out.res))))))]
            rfl
          have hbel : Below w.heap.size w wf := by
            rw [← hwf]
            exact ((((((HJ.out.below.setCell (Nat.le_refl _) _).setCell (Nat.le_refl _) _).setCell (Nat.le_refl _) _).setCell (Nat.le_refl _) _).setCell (Nat.le_refl _) _).setCell (Nat.le_refl _) _)
          refine bodyPost_ret (v := .tuple #[.agg zeroQ, .int .i64 (3)]) ?_ rfl ⟨by rw [HR.out, HE.out]; rfl, hbel⟩
          rw [results_two rfl]
          have hld := run_loadVar_row (P := Tryz.prog) wf w.heap.size 51 51 zeroQ (0, 0) _ hrow Tryz.underlying51 rfl infoQ
          simp [asAddr, Result.andThen, hld]
      · have HE : Hid (comE s true = 2) := HE0.out.trans (by rw [h1]; rfl)
        have HR : Hid (comR s true = noCom) := HC.out.trans (if_neg (by rw [HE.out]; decide))
        have r0 := HJ.out.c 0 _ rfl
        have z0 := HJ.out.z 0
        have r1 := HJ.out.c 1 _ rfl
        have z1 := HJ.out.z 1
        have r2 := HJ.out.c 2 _ rfl
        have z2 := HJ.out.z 2
        have r3 := HJ.out.c 3 _ rfl
        have z3 := HJ.out.z 3
        have r4 := HJ.out.c 4 _ rfl
        have z4 := HJ.out.z 4
        have r5 := HJ.out.c 5 _ rfl
        have z5 := HJ.out.z 5
        go_wp2_with fail
        generalize hwf : ((((((wc.setCell ⟨w.heap.size, 0, none⟩ (.int .i64 0)).setCell ⟨w.heap.size, 1, none⟩ (.int .i64 0)).setCell ⟨w.heap.size, 2, none⟩ (.int .i64 0)).setCell ⟨w.heap.size, 3, none⟩ (.slice none 0 0)).setCell ⟨w.heap.size, 4, none⟩ (.int .i64 0)).setCell ⟨w.heap.size, 5, none⟩ (.bool false)) = wf
        have hrow : wf.heap[w.heap.size]? = some (.cells zeroQ 51 (0, 0)) := by
          rw [← hwf, (block_set _ _ _ _ _ _ (block_set _ _ _ _ _ _ (block_set _ _ _ _ _ _ (block_set _ _ _ _ _ _ (block_set _ _ _ _ _ _ (block_set _ _ _ _ _ _ HJ.out.res))))))]
          rfl
        have hbel : Below w.heap.size w wf := by
          rw [← hwf]
          exact ((((((HJ.out.below.setCell (Nat.le_refl _) _).setCell (Nat.le_refl _) _).setCell (Nat.le_refl _) _).setCell (Nat.le_refl _) _).setCell (Nat.le_refl _) _).setCell (Nat.le_refl _) _)
        refine bodyPost_ret (v := .tuple #[.agg zeroQ, .int .i64 (2)]) ?_ rfl ⟨by rw [HR.out, HE.out]; rfl, hbel⟩
        rw [results_two rfl]
        have hld := run_loadVar_row (P := Tryz.prog) wf w.heap.size 51 51 zeroQ (0, 0) _ hrow Tryz.underlying51 rfl infoQ
        simp [asAddr, Result.andThen, hld]
  · have HE : Hid (comE s true = RE) := HE0.out.trans (by rw [hre]; rfl)
    have HR : Hid (comR s true = noCom) := HC.out.trans (if_neg (by rw [HE.out]; simpa using hre))
    have HJ : Hid (Jq w w2) := HX2.out.jq
    have r0 := HJ.out.c 0 _ rfl
    have z0 := HJ.out.z 0
    have r1 := HJ.out.c 1 _ rfl
    have z1 := HJ.out.z 1
    have r2 := HJ.out.c 2 _ rfl
    have z2 := HJ.out.z 2
    have r3 := HJ.out.c 3 _ rfl
    have z3 := HJ.out.z 3
    have r4 := HJ.out.c 4 _ rfl
    have z4 := HJ.out.z 4
    have r5 := HJ.out.c 5 _ rfl
    have z5 := HJ.out.z 5
    go_wp2_with fail
    generalize hwf : ((((((w2.setCell ⟨w.heap.size, 0, none⟩ (.int .i64 0)).setCell ⟨w.heap.size, 1, none⟩ (.int .i64 0)).setCell ⟨w.heap.size, 2, none⟩ (.int .i64 0)).setCell ⟨w.heap.size, 3, none⟩ (.slice none 0 0)).setCell ⟨w.heap.size, 4, none⟩ (.int .i64 0)).setCell ⟨w.heap.size, 5, none⟩ (.bool false)) = wf
    have hrow : wf.heap[w.heap.size]? = some (.cells zeroQ 51 (0, 0)) := by
      rw [← hwf, (block_set _ _ _ _ _ _ (block_set _ _ _ _ _ _ (block_set _ _ _ _ _ _ (block_set _ _ _ _ _ _ (block_set _ _ _ _ _ _ (block_set _ _ _ _ _ _ HJ.out.res))))))]
      rfl
    have hbel : Below w.heap.size w wf := by
      rw [← hwf]
      exact ((((((HJ.out.below.setCell (Nat.le_refl _) _).setCell (Nat.le_refl _) _).setCell (Nat.le_refl _) _).setCell (Nat.le_refl _) _).setCell (Nat.le_refl _) _).setCell (Nat.le_refl _) _)
    refine bodyPost_ret (v := .tuple #[.agg zeroQ, .int .i64 (RE)]) ?_ rfl ⟨by rw [HR.out, HE.out]; rfl, hbel⟩
    rw [results_two rfl]
    have hld := run_loadVar_row (P := Tryz.prog) wf w.heap.size 51 51 zeroQ (0, 0) _ hrow Tryz.underlying51 rfl infoQ
    simp [asAddr, Result.andThen, hld]

set_option maxRecDepth 20000 in
set_option maxHeartbeats 1000000 in
theorem r7comm_sowt (s : ByteArray) (w : World) (hs : s.size ≤ 140737488351232) (h : 23 ≤ s.size) (h2 : ((s.size : Int) != (comN s : Int)) = false) (hk : ((s.extract 18 22).toList == noneT.toList) = false) (hs2 : ((s.extract 18 22).toList == sowtT.toList) = true) :
    Calls Tryz.prog 20 #[.string s, .bool true] w fun e w' => e = .returned (.tuple #[.agg (comC (comR s true)), .int .i64 (comE s true)]) ∧ Below w.heap.size w w' := by
  have HE0 : Hid (comE s true = if ((frV (bytesOf (s.extract 8 18))).2 : Int) != 0 then ((frV (bytesOf (s.extract 8 18))).2 : Int) else if beI s 0 2 == 0 then 2 else
      if decide (8 < beI s 0 2) || (beI s 6 8 % 8 != 0 || (decide (beI s 6 8 < 8) || decide (32 < beI s 6 8))) then 3 else if decide (1048576 < beI s 2 6) then 5 else 0) := by
    show _ = _
    unfold comE
    have n1 : ((s.extract 18 22).toList != noneT.toList) = !false := by rw [← hk]; rfl
    have n2 : ((s.extract 18 22).toList != sowtT.toList) = !true := by rw [← hs2]; rfl
    rw [h2, n1, n2, decide_eq_false (by omega : ¬ ((s.size : Int) < 23))]
    simp only [Bool.not_false, Bool.not_true, Bool.true_and, Bool.false_and, Bool.and_false, Bool.or_self, Bool.false_eq_true, if_false]
  have HX : Hid (comX s true = (⟨((frV (bytesOf (s.extract 8 18))).1 : Int), beI s 0 2, beI s 6 8, beI s 2 6, true⟩ : Com)) := by
    show _ = _
    unfold comX
    rw [show comLit s true = true from by unfold comLit; rw [hs2]; rfl]
  have HC : Hid (comR s true = if comE s true = 0 then comX s true else noCom) := rfl
  have hlt : 22 < s.size := by omega
  have hbb : (s[22]'hlt).toNat < 256 := (s[22]'hlt).toNat_lt
  have hcn : comN s = 23 + (s[22]'hlt).toNat + (23 + (s[22]'hlt).toNat) % 2 := by unfold comN; rw [byte_getD s 22 hlt]
  have hrem : Int.tmod (23 + ((s[22]'hlt).toNat : Int)) 2 = (((23 + (s[22]'hlt).toNat) % 2 : Nat) : Int) := by
    rw [Int.tmod_eq_emod_of_nonneg (by omega)]
    omega
  have h3 : ((s.size : Int) != 23 + ((s[22]'hlt).toNat : Int) + (((23 + (s[22]'hlt).toNat) % 2 : Nat) : Int)) = false := by
    rw [hcn] at h2
    rw [← h2]
    congr 1
  have hk1 : ((s.extract 18 22).toList == [78, 79, 78, 69]) = false := by rw [← none_list]; exact hk
  have hk2 : ((s.extract 18 22).toList == [115, 111, 119, 116]) = true := by rw [← sowt_list]; exact hs2
  have h18n : 18 ≤ s.size := by omega
  have sl18 : ∀ wx, (Instr.slice 9 (.string s) (some (.int .i64 18)) (some (.int .i64 22)) none).run Tryz.prog wx = .ok (.string (s.extract 18 22)) wx := fun wx => ext_run s 18 22 (by decide) (by omega) wx
  have sl2 : ∀ wx, (Instr.slice 9 (.string s) (some (.int .i64 2)) (some (.int .i64 6)) none).run Tryz.prog wx = .ok (.string (s.extract 2 6)) wx := fun wx => ext_run s 2 6 (by decide) (by omega) wx
  have sl8 : ∀ wx, (Instr.slice 9 (.string s) (some (.int .i64 8)) (some (.int .i64 18)) none).run Tryz.prog wx = .ok (.string (s.extract 8 18)) wx := fun wx => ext_run s 8 18 (by decide) (by omega) wx
  have sl6 : ∀ wx, (Instr.slice 9 (.string s) (some (.int .i64 6)) (some (.int .i64 8)) none).run Tryz.prog wx = .ok (.string (s.extract 6 8)) wx := fun wx => ext_run s 6 8 (by decide) (by omega) wx
  have sl0 : ∀ wx, (Instr.slice 9 (.string s) none (some (.int .i64 2)) none).run Tryz.prog wx = .ok (.string (s.extract 0 2)) wx := fun wx => by
    have h2i : decide ((s.size : Int) < 2) = false := decide_eq_false (by omega)
    have h2j : ¬ ((s.size : Int) < 2) := by omega
    go_simp
  have KB : Hid (∀ a b wx, Calls Tryz.prog 17 #[.string (s.extract a b)] wx fun e w' => e = .returned (.int .i64 (beI s a b)) ∧ w' = wx) := fun a b wx => reffromBe_spec (s.extract a b) (by rw [ByteArray.size_extract]; omega) wx
  have KR : Hid (∀ wx, Calls Tryz.prog 47 #[.string (s.extract 8 18)] wx fun e w' => e = .returned (pairV (frV (bytesOf (s.extract 8 18)))) ∧ Below wx.heap.size wx w') := fun wx => reffromRate_spec (s.extract 8 18) (by rw [ByteArray.size_extract]; omega) wx
  have hr1 := fromBe_four (bytesOf (s.extract 0 2)) (by rw [bytesOf_length, ByteArray.size_extract]; omega) (bytesOf_lt _)
  have hr2 := fromBe_four (bytesOf (s.extract 6 8)) (by rw [bytesOf_length, ByteArray.size_extract]; omega) (bytesOf_lt _)
  have hr3 := fromBe_four (bytesOf (s.extract 2 6)) (by rw [bytesOf_length, ByteArray.size_extract]; omega) (bytesOf_lt _)
  have HRG : Hid ((0 ≤ beI s 0 2 ∧ beI s 0 2 < 4294967296) ∧ (0 ≤ beI s 6 8 ∧ beI s 6 8 < 4294967296) ∧ (0 ≤ beI s 2 6 ∧ beI s 2 6 < 4294967296)) := ⟨hr1, hr2, hr3⟩
  have K26 := KB.out 2 6
  have K02 : Hid (∀ wx, Calls Tryz.prog 17 #[.string (s.extract 0 2)] wx fun e w' => e = .returned (.int .i64 (beI s 0 2)) ∧ w' = wx) := KB.out 0 2
  have K68 : Hid (∀ wx, Calls Tryz.prog 17 #[.string (s.extract 6 8)] wx fun e w' => e = .returned (.int .i64 (beI s 6 8)) ∧ w' = wx) := KB.out 6 8
  clear hr1 hr2 hr3 KB
  generalize beI s 2 6 = SM at *
  generalize beI s 0 2 = CHN at *
  generalize beI s 6 8 = WD at *
  generalize hFR : frV (bytesOf (s.extract 8 18)) = FR at *
  obtain ⟨RTn, REn⟩ := FR
  clear hFR
  simp only at HE0 HX KR
  obtain ⟨RT, hRT⟩ : ∃ RT : Int, RT = (RTn : Int) := ⟨_, rfl⟩
  obtain ⟨RE, hRE⟩ : ∃ RE : Int, RE = (REn : Int) := ⟨_, rfl⟩
  have KR2 : Hid (∀ wx, Calls Tryz.prog 47 #[.string (s.extract 8 18)] wx fun e w' => e = .returned (.tuple #[.int .i64 RT, .int .i64 RE]) ∧ Below wx.heap.size wx w') := by rw [hRT, hRE]; exact KR
  rw [← hRT] at HX
  rw [← hRE] at HE0
  clear hRT hRE KR
  have HJ0 : Hid (Jq w (w.alloc (.cells zeroQ 51))) := Jq.new w
  go_enter Tryz.func20, Tryz.ntmps20
  go_wp2_with fail
  refine (K26 _).mono ?_
  rintro e w1 ⟨rfl, rfl⟩
  have HX1 : Hid (Jx w (w.alloc (.cells zeroQ 51)).heap.size ⟨0, 0, 0, SM, true⟩ ((w.alloc (.cells zeroQ 51)).alloc (.cells (comC ⟨0, 0, 0, SM, true⟩) 51))) := Jx.new HJ0.out ⟨0, 0, 0, SM, true⟩
  rw [show (w.alloc (.cells zeroQ 51)).heap.size = w.heap.size + 1 from by simp] at HX1
  clear K26 HJ0
  go_wp2_with fail
  refine (KR2.out _).mono ?_
  rintro e w2 ⟨rfl, hB2⟩
  have HX2 : Hid (Jx w (w.heap.size + 1) ⟨0, 0, 0, SM, true⟩ w2) := HX1.out.next hB2
  clear KR2 hB2 HX1
  generalize hQ : w.heap.size + 1 = Q at *
  clear hQ
  cases hre : RE != 0
  · rw [hre] at HE0
    simp only [Bool.false_eq_true, if_false] at HE0
    go_upto_region 13 with fail
    go_cut [7] from 68 to 76 (fun v wx => v = Value.pointer (some ⟨Q, 0, none⟩) ∧ Jx w Q ⟨RT, CHN, WD, SM, true⟩ wx)
    case first =>
      have r0 := HX2.out.c 0 _ rfl
      have r1 := HX2.out.c 1 _ rfl
      have r2 := HX2.out.c 2 _ rfl
      have r3 := HX2.out.c 3 _ rfl
      have z0 := HX2.out.z 0
      have z1 := HX2.out.z 1
      have z2 := HX2.out.z 2
      have z3 := HX2.out.z 3
      refine wp_region_held_drew (S := fun _ => True) (by kernel_rfl) trivial (fun hS => ?_)
      refine wpAnyH_take (i := 0) (v := .int .i64 RT) rfl (by kernel_rfl) (by kernel_rfl) (by kernel_rfl) (fun _ _ _ h => h) (Or.inl ⟨by rfl, fun w hSw => by go_simp⟩) hS ?_
      simp only [Act.put, List.getElem_toArray, List.getElem_cons_succ, List.getElem_cons_zero, List.setIfInBounds_toArray, List.set_cons_zero, List.set_cons_succ]
      refine wpAnyH_take (i := 1) (v := .string s) rfl (by kernel_rfl) (by kernel_rfl) (by kernel_rfl) (fun _ _ _ h => h) (Or.inl ⟨by rfl, fun w hSw => by go_simp⟩) hS ?_
      simp only [Act.put, List.getElem_toArray, List.getElem_cons_succ, List.getElem_cons_zero, List.setIfInBounds_toArray, List.set_cons_zero, List.set_cons_succ]
      refine wpAnyH_take (i := 2) (v := .string (s.extract 0 2)) rfl (by kernel_rfl) (by kernel_rfl) (by kernel_rfl) (fun _ _ _ h => h) (Or.inl ⟨by rfl, fun w hSw => by go_simp⟩) hS ?_
      simp only [Act.put, List.getElem_toArray, List.getElem_cons_succ, List.getElem_cons_zero, List.setIfInBounds_toArray, List.set_cons_zero, List.set_cons_succ]
      refine wpAnyH_take (i := 4) (v := .string s) rfl (by kernel_rfl) (by kernel_rfl) (by kernel_rfl) (fun _ _ _ h => h) (Or.inl ⟨by rfl, fun w hSw => by go_simp⟩) hS ?_
      simp only [Act.put, List.getElem_toArray, List.getElem_cons_succ, List.getElem_cons_zero, List.setIfInBounds_toArray, List.set_cons_zero, List.set_cons_succ]
      refine wpAnyH_take (i := 5) (v := .string (s.extract 6 8)) rfl (by kernel_rfl) (by kernel_rfl) (by kernel_rfl) (fun _ _ _ h => h) (Or.inl ⟨by rfl, fun w hSw => by go_simp⟩) hS ?_
      simp only [Act.put, List.getElem_toArray, List.getElem_cons_succ, List.getElem_cons_zero, List.setIfInBounds_toArray, List.set_cons_zero, List.set_cons_succ]
      refine wpAnyH_ready (rs := [3]) (by kernel_rfl) (by simp) ?_
      refine AllReadyH.cons rfl (fun K hK => ?_) AllReadyH.nil
      go_simp
      refine (K02.out _).mono ?_
      rintro e w4 ⟨rfl, rfl⟩
      refine hK.out _ _ trivial (fun hS => ?_)
      clear hK K
      refine wpAnyH_ready (rs := [6]) (by kernel_rfl) (by simp) ?_
      refine AllReadyH.cons rfl (fun K hK => ?_) AllReadyH.nil
      go_simp
      refine (K68.out _).mono ?_
      rintro e w4 ⟨rfl, rfl⟩
      refine hK.out _ _ trivial (fun hS => ?_)
      clear hK K
      refine wpAnyH_take (i := 7) (v := .agg #[.int .i64 RT, .int .i64 CHN, .int .i64 WD, .slice none 0 0]) rfl (by kernel_rfl) (by kernel_rfl) (by kernel_rfl) (fun _ _ _ h => h) (Or.inl ⟨by rfl, fun w hSw => by go_simp⟩) hS ?_
      simp only [Act.put, List.getElem_toArray, List.getElem_cons_succ, List.getElem_cons_zero, List.setIfInBounds_toArray, List.set_cons_zero, List.set_cons_succ]
      refine wpAnyH_take (i := 8) (v := .pointer (some ⟨Q, 0, none⟩)) rfl (by kernel_rfl) (by kernel_rfl) (by kernel_rfl) (fun _ _ _ h => h) (Or.inl ⟨by rfl, fun w hSw => by go_simp⟩) hS ?_
      simp only [Act.put, List.getElem_toArray, List.getElem_cons_succ, List.getElem_cons_zero, List.setIfInBounds_toArray, List.set_cons_zero, List.set_cons_succ]
      refine wpAnyH_ready (rs := [9]) (by kernel_rfl) (by simp) ?_
      refine AllReadyH.cons rfl (fun K hK => ?_) AllReadyH.nil
      go_simp
      refine hK.out _ _ trivial (fun hS => ?_)
      clear hK K
      refine wpAnyH_done (by kernel_rfl) ?_ _
      go_wp2_with fail
      go_meet
      exact ⟨rfl, ((((HX2.out.set (y := ⟨RT, 0, 0, SM, true⟩) 0 (.int .i64 RT) rfl).set (y := ⟨RT, CHN, 0, SM, true⟩) 1 (.int .i64 CHN) rfl).set (y := ⟨RT, CHN, WD, SM, true⟩) 2 (.int .i64 WD) rfl).set (y := ⟨RT, CHN, WD, SM, true⟩) 3 (.slice none 0 0) rfl).next ⟨rfl, rfl, rfl, Nat.le_refl _, fun _ _ => rfl⟩⟩
    case rest =>
      obtain ⟨rfl, hj⟩ := hcut
      have HX3 : Hid (Jx w Q ⟨RT, CHN, WD, SM, true⟩ wc) := hj
      have q1 := HX3.out.c 1 _ rfl
      have q2 := HX3.out.c 2 _ rfl
      have q4 := HX3.out.c 4 _ rfl
      have hw0 := HRG.out.2.1.1
      have hw1 := HRG.out.2.1.2
      have HJ : Hid (Jq w wc) := HX3.out.jq
      clear hj HX2 K02 K68 HRG hre
      cases h1 : CHN == 0
      · cases h2 : decide (8 < CHN)
        · cases h3 : WD % 8 != 0
          · cases h4 : decide (WD < 8)
            · cases h5 : decide (32 < WD)
              · cases h6 : decide (1048576 < SM)
                · have HE : Hid (comE s true = 0) := HE0.out.trans (by rw [h1, h2, h3, h4, h5, h6]; rfl)
                  have HR : Hid (comR s true = ⟨RT, CHN, WD, SM, true⟩) := (HC.out.trans (if_pos HE.out)).trans HX.out
                  have q0 := HX3.out.c 0 _ rfl
                  have q3 := HX3.out.c 3 _ rfl
                  have q5 := HX3.out.c 5 _ rfl
                  have r0 := HJ.out.c 0 _ rfl
                  have z0 := HJ.out.z 0
                  have r1 := HJ.out.c 1 _ rfl
                  have z1 := HJ.out.z 1
                  have r2 := HJ.out.c 2 _ rfl
                  have z2 := HJ.out.z 2
                  have r3 := HJ.out.c 3 _ rfl
                  have z3 := HJ.out.z 3
                  have r4 := HJ.out.c 4 _ rfl
                  have z4 := HJ.out.z 4
                  have r5 := HJ.out.c 5 _ rfl
                  have z5 := HJ.out.z 5
                  go_wp2_with fail
                  generalize hwf : ((((((wc.setCell ⟨w.heap.size, 0, none⟩ (.int .i64 RT)).setCell ⟨w.heap.size, 1, none⟩ (.int .i64 CHN)).setCell ⟨w.heap.size, 2, none⟩ (.int .i64 WD)).setCell ⟨w.heap.size, 3, none⟩ (.slice none 0 0)).setCell ⟨w.heap.size, 4, none⟩ (.int .i64 SM)).setCell ⟨w.heap.size, 5, none⟩ (.bool true)) = wf
                  have hrow : wf.heap[w.heap.size]? = some (.cells (comC ⟨RT, CHN, WD, SM, true⟩) 51 (0, 0)) := by
                    rw [← hwf, (block_set _ _ _ _ _ _ (block_set _ _ _ _ _ _ (block_set _ _ _ _ _ _ (block_set _ _ _ _ _ _ (block_set _ _ _ _ _ _ (block_set _ _ _ _ _ _ HJ.out.res))))))]
                    rfl
                  have hbel : Below w.heap.size w wf := by
                    rw [← hwf]
                    exact ((((((HJ.out.below.setCell (Nat.le_refl _) _).setCell (Nat.le_refl _) _).setCell (Nat.le_refl _) _).setCell (Nat.le_refl _) _).setCell (Nat.le_refl _) _).setCell (Nat.le_refl _) _)
                  refine bodyPost_ret (v := .tuple #[.agg (comC ⟨RT, CHN, WD, SM, true⟩), .int .i64 (0)]) ?_ rfl ⟨by rw [HR.out, HE.out], hbel⟩
                  rw [results_two rfl]
                  have hld := run_loadVar_row (P := Tryz.prog) wf w.heap.size 51 51 (comC ⟨RT, CHN, WD, SM, true⟩) (0, 0) _ hrow Tryz.underlying51 rfl infoQ
                  simp [asAddr, Result.andThen, hld]
                · have HE : Hid (comE s true = 5) := HE0.out.trans (by rw [h1, h2, h3, h4, h5, h6]; rfl)
                  have HR : Hid (comR s true = noCom) := HC.out.trans (if_neg (by rw [HE.out]; decide))
                  have r0 := HJ.out.c 0 _ rfl
                  have z0 := HJ.out.z 0
                  have r1 := HJ.out.c 1 _ rfl
                  have z1 := HJ.out.z 1
                  have r2 := HJ.out.c 2 _ rfl
                  have z2 := HJ.out.z 2
                  have r3 := HJ.out.c 3 _ rfl
                  have z3 := HJ.out.z 3
                  have r4 := HJ.out.c 4 _ rfl
                  have z4 := HJ.out.z 4
                  have r5 := HJ.out.c 5 _ rfl
                  have z5 := HJ.out.z 5
                  go_wp2_with fail
                  generalize hwf : ((((((wc.setCell ⟨w.heap.size, 0, none⟩ (.int .i64 0)).setCell ⟨w.heap.size, 1, none⟩ (.int .i64 0)).setCell ⟨w.heap.size, 2, none⟩ (.int .i64 0)).setCell ⟨w.heap.size, 3, none⟩ (.slice none 0 0)).setCell ⟨w.heap.size, 4, none⟩ (.int .i64 0)).setCell ⟨w.heap.size, 5, none⟩ (.bool false)) = wf
                  have hrow : wf.heap[w.heap.size]? = some (.cells zeroQ 51 (0, 0)) := by
                    rw [← hwf, (block_set _ _ _ _ _ _ (block_set _ _ _ _ _ _ (block_set _ _ _ _ _ _ (block_set _ _ _ _ _ _ (block_set _ _ _ _ _ _ (block_set _ _ _ _ _ _ HJ.out.res))))))]
                    rfl
                  have hbel : Below w.heap.size w wf := by
                    rw [← hwf]
                    exact ((((((HJ.out.below.setCell (Nat.le_refl _) _).setCell (Nat.le_refl _) _).setCell (Nat.le_refl _) _).setCell (Nat.le_refl _) _).setCell (Nat.le_refl _) _).setCell (Nat.le_refl _) _)
                  refine bodyPost_ret (v := .tuple #[.agg zeroQ, .int .i64 (5)]) ?_ rfl ⟨by rw [HR.out, HE.out]; rfl, hbel⟩
                  rw [results_two rfl]
                  have hld := run_loadVar_row (P := Tryz.prog) wf w.heap.size 51 51 zeroQ (0, 0) _ hrow Tryz.underlying51 rfl infoQ
                  simp [asAddr, Result.andThen, hld]
              · have HE : Hid (comE s true = 3) := HE0.out.trans (by rw [h1, h2, h3, h4, h5]; rfl)
                have HR : Hid (comR s true = noCom) := HC.out.trans (if_neg (by rw [HE.out]; decide))
                have r0 := HJ.out.c 0 _ rfl
                have z0 := HJ.out.z 0
                have r1 := HJ.out.c 1 _ rfl
                have z1 := HJ.out.z 1
                have r2 := HJ.out.c 2 _ rfl
                have z2 := HJ.out.z 2
                have r3 := HJ.out.c 3 _ rfl
                have z3 := HJ.out.z 3
                have r4 := HJ.out.c 4 _ rfl
                have z4 := HJ.out.z 4
                have r5 := HJ.out.c 5 _ rfl
                have z5 := HJ.out.z 5
                go_wp2_with fail
                generalize hwf : ((((((wc.setCell ⟨w.heap.size, 0, none⟩ (.int .i64 0)).setCell ⟨w.heap.size, 1, none⟩ (.int .i64 0)).setCell ⟨w.heap.size, 2, none⟩ (.int .i64 0)).setCell ⟨w.heap.size, 3, none⟩ (.slice none 0 0)).setCell ⟨w.heap.size, 4, none⟩ (.int .i64 0)).setCell ⟨w.heap.size, 5, none⟩ (.bool false)) = wf
                have hrow : wf.heap[w.heap.size]? = some (.cells zeroQ 51 (0, 0)) := by
                  rw [← hwf, (block_set _ _ _ _ _ _ (block_set _ _ _ _ _ _ (block_set _ _ _ _ _ _ (block_set _ _ _ _ _ _ (block_set _ _ _ _ _ _ (block_set _ _ _ _ _ _ HJ.out.res))))))]
                  rfl
                have hbel : Below w.heap.size w wf := by
                  rw [← hwf]
                  exact ((((((HJ.out.below.setCell (Nat.le_refl _) _).setCell (Nat.le_refl _) _).setCell (Nat.le_refl _) _).setCell (Nat.le_refl _) _).setCell (Nat.le_refl _) _).setCell (Nat.le_refl _) _)
                refine bodyPost_ret (v := .tuple #[.agg zeroQ, .int .i64 (3)]) ?_ rfl ⟨by rw [HR.out, HE.out]; rfl, hbel⟩
                rw [results_two rfl]
                have hld := run_loadVar_row (P := Tryz.prog) wf w.heap.size 51 51 zeroQ (0, 0) _ hrow Tryz.underlying51 rfl infoQ
                simp [asAddr, Result.andThen, hld]
            · have HE : Hid (comE s true = 3) := HE0.out.trans (by rw [h1, h2, h3, h4]; rfl)
              have HR : Hid (comR s true = noCom) := HC.out.trans (if_neg (by rw [HE.out]; decide))
              have r0 := HJ.out.c 0 _ rfl
              have z0 := HJ.out.z 0
              have r1 := HJ.out.c 1 _ rfl
              have z1 := HJ.out.z 1
              have r2 := HJ.out.c 2 _ rfl
              have z2 := HJ.out.z 2
              have r3 := HJ.out.c 3 _ rfl
              have z3 := HJ.out.z 3
              have r4 := HJ.out.c 4 _ rfl
              have z4 := HJ.out.z 4
              have r5 := HJ.out.c 5 _ rfl
              have z5 := HJ.out.z 5
              go_wp2_with fail
              generalize hwf : ((((((wc.setCell ⟨w.heap.size, 0, none⟩ (.int .i64 0)).setCell ⟨w.heap.size, 1, none⟩ (.int .i64 0)).setCell ⟨w.heap.size, 2, none⟩ (.int .i64 0)).setCell ⟨w.heap.size, 3, none⟩ (.slice none 0 0)).setCell ⟨w.heap.size, 4, none⟩ (.int .i64 0)).setCell ⟨w.heap.size, 5, none⟩ (.bool false)) = wf
              have hrow : wf.heap[w.heap.size]? = some (.cells zeroQ 51 (0, 0)) := by
                rw [← hwf, (block_set _ _ _ _ _ _ (block_set _ _ _ _ _ _ (block_set _ _ _ _ _ _ (block_set _ _ _ _ _ _ (block_set _ _ _ _ _ _ (block_set _ _ _ _ _ _ HJ.out.res))))))]
                rfl
              have hbel : Below w.heap.size w wf := by
                rw [← hwf]
                exact ((((((HJ.out.below.setCell (Nat.le_refl _) _).setCell (Nat.le_refl _) _).setCell (Nat.le_refl _) _).setCell (Nat.le_refl _) _).setCell (Nat.le_refl _) _).setCell (Nat.le_refl _) _)
              refine bodyPost_ret (v := .tuple #[.agg zeroQ, .int .i64 (3)]) ?_ rfl ⟨by rw [HR.out, HE.out]; rfl, hbel⟩
              rw [results_two rfl]
              have hld := run_loadVar_row (P := Tryz.prog) wf w.heap.size 51 51 zeroQ (0, 0) _ hrow Tryz.underlying51 rfl infoQ
              simp [asAddr, Result.andThen, hld]
          · have HE : Hid (comE s true = 3) := HE0.out.trans (by rw [h1, h2, h3]; rfl)
            have HR : Hid (comR s true = noCom) := HC.out.trans (if_neg (by rw [HE.out]; decide))
            have r0 := HJ.out.c 0 _ rfl
            have z0 := HJ.out.z 0
            have r1 := HJ.out.c 1 _ rfl
            have z1 := HJ.out.z 1
            have r2 := HJ.out.c 2 _ rfl
            have z2 := HJ.out.z 2
            have r3 := HJ.out.c 3 _ rfl
            have z3 := HJ.out.z 3
            have r4 := HJ.out.c 4 _ rfl
            have z4 := HJ.out.z 4
            have r5 := HJ.out.c 5 _ rfl
            have z5 := HJ.out.z 5
            go_wp2_with fail
            generalize hwf : ((((((wc.setCell ⟨w.heap.size, 0, none⟩ (.int .i64 0)).setCell ⟨w.heap.size, 1, none⟩ (.int .i64 0)).setCell ⟨w.heap.size, 2, none⟩ (.int .i64 0)).setCell ⟨w.heap.size, 3, none⟩ (.slice none 0 0)).setCell ⟨w.heap.size, 4, none⟩ (.int .i64 0)).setCell ⟨w.heap.size, 5, none⟩ (.bool false)) = wf
            have hrow : wf.heap[w.heap.size]? = some (.cells zeroQ 51 (0, 0)) := by
              rw [← hwf, (block_set _ _ _ _ _ _ (block_set _ _ _ _ _ _ (block_set _ _ _ _ _ _ (block_set _ _ _ _ _ _ (block_set _ _ _ _ _ _ (block_set _ _ _ _ _ _ HJ.out.res))))))]
              rfl
            have hbel : Below w.heap.size w wf := by
              rw [← hwf]
              exact ((((((HJ.out.below.setCell (Nat.le_refl _) _).setCell (Nat.le_refl _) _).setCell (Nat.le_refl _) _).setCell (Nat.le_refl _) _).setCell (Nat.le_refl _) _).setCell (Nat.le_refl _) _)
            refine bodyPost_ret (v := .tuple #[.agg zeroQ, .int .i64 (3)]) ?_ rfl ⟨by rw [HR.out, HE.out]; rfl, hbel⟩
            rw [results_two rfl]
            have hld := run_loadVar_row (P := Tryz.prog) wf w.heap.size 51 51 zeroQ (0, 0) _ hrow Tryz.underlying51 rfl infoQ
            simp [asAddr, Result.andThen, hld]
        · have HE : Hid (comE s true = 3) := HE0.out.trans (by rw [h1, h2]; rfl)
          have HR : Hid (comR s true = noCom) := HC.out.trans (if_neg (by rw [HE.out]; decide))
          have r0 := HJ.out.c 0 _ rfl
          have z0 := HJ.out.z 0
          have r1 := HJ.out.c 1 _ rfl
          have z1 := HJ.out.z 1
          have r2 := HJ.out.c 2 _ rfl
          have z2 := HJ.out.z 2
          have r3 := HJ.out.c 3 _ rfl
          have z3 := HJ.out.z 3
          have r4 := HJ.out.c 4 _ rfl
          have z4 := HJ.out.z 4
          have r5 := HJ.out.c 5 _ rfl
          have z5 := HJ.out.z 5
          go_wp2_with fail
          generalize hwf : ((((((wc.setCell ⟨w.heap.size, 0, none⟩ (.int .i64 0)).setCell ⟨w.heap.size, 1, none⟩ (.int .i64 0)).setCell ⟨w.heap.size, 2, none⟩ (.int .i64 0)).setCell ⟨w.heap.size, 3, none⟩ (.slice none 0 0)).setCell ⟨w.heap.size, 4, none⟩ (.int .i64 0)).setCell ⟨w.heap.size, 5, none⟩ (.bool false)) = wf
          have hrow : wf.heap[w.heap.size]? = some (.cells zeroQ 51 (0, 0)) := by
            rw [← hwf, (block_set _ _ _ _ _ _ (block_set _ _ _ _ _ _ (block_set _ _ _ _ _ _ (block_set _ _ _ _ _ _ (block_set _ _ _ _ _ _ (block_set _ _ _ _ _ _ HJ.out.res))))))]
            rfl
          have hbel : Below w.heap.size w wf := by
            rw [← hwf]
            exact ((((((HJ.out.below.setCell (Nat.le_refl _) _).setCell (Nat.le_refl _) _).setCell (Nat.le_refl _) _).setCell (Nat.le_refl _) _).setCell (Nat.le_refl _) _).setCell (Nat.le_refl _) _)
          refine bodyPost_ret (v := .tuple #[.agg zeroQ, .int .i64 (3)]) ?_ rfl ⟨by rw [HR.out, HE.out]; rfl, hbel⟩
          rw [results_two rfl]
          have hld := run_loadVar_row (P := Tryz.prog) wf w.heap.size 51 51 zeroQ (0, 0) _ hrow Tryz.underlying51 rfl infoQ
          simp [asAddr, Result.andThen, hld]
      · have HE : Hid (comE s true = 2) := HE0.out.trans (by rw [h1]; rfl)
        have HR : Hid (comR s true = noCom) := HC.out.trans (if_neg (by rw [HE.out]; decide))
        have r0 := HJ.out.c 0 _ rfl
        have z0 := HJ.out.z 0
        have r1 := HJ.out.c 1 _ rfl
        have z1 := HJ.out.z 1
        have r2 := HJ.out.c 2 _ rfl
        have z2 := HJ.out.z 2
        have r3 := HJ.out.c 3 _ rfl
        have z3 := HJ.out.z 3
        have r4 := HJ.out.c 4 _ rfl
        have z4 := HJ.out.z 4
        have r5 := HJ.out.c 5 _ rfl
        have z5 := HJ.out.z 5
        go_wp2_with fail
        generalize hwf : ((((((wc.setCell ⟨w.heap.size, 0, none⟩ (.int .i64 0)).setCell ⟨w.heap.size, 1, none⟩ (.int .i64 0)).setCell ⟨w.heap.size, 2, none⟩ (.int .i64 0)).setCell ⟨w.heap.size, 3, none⟩ (.slice none 0 0)).setCell ⟨w.heap.size, 4, none⟩ (.int .i64 0)).setCell ⟨w.heap.size, 5, none⟩ (.bool false)) = wf
        have hrow : wf.heap[w.heap.size]? = some (.cells zeroQ 51 (0, 0)) := by
          rw [← hwf, (block_set _ _ _ _ _ _ (block_set _ _ _ _ _ _ (block_set _ _ _ _ _ _ (block_set _ _ _ _ _ _ (block_set _ _ _ _ _ _ (block_set _ _ _ _ _ _ HJ.out.res))))))]
          rfl
        have hbel : Below w.heap.size w wf := by
          rw [← hwf]
          exact ((((((HJ.out.below.setCell (Nat.le_refl _) _).setCell (Nat.le_refl _) _).setCell (Nat.le_refl _) _).setCell (Nat.le_refl _) _).setCell (Nat.le_refl _) _).setCell (Nat.le_refl _) _)
        refine bodyPost_ret (v := .tuple #[.agg zeroQ, .int .i64 (2)]) ?_ rfl ⟨by rw [HR.out, HE.out]; rfl, hbel⟩
        rw [results_two rfl]
        have hld := run_loadVar_row (P := Tryz.prog) wf w.heap.size 51 51 zeroQ (0, 0) _ hrow Tryz.underlying51 rfl infoQ
        simp [asAddr, Result.andThen, hld]
  · have HE : Hid (comE s true = RE) := HE0.out.trans (by rw [hre]; rfl)
    have HR : Hid (comR s true = noCom) := HC.out.trans (if_neg (by rw [HE.out]; simpa using hre))
    have HJ : Hid (Jq w w2) := HX2.out.jq
    have r0 := HJ.out.c 0 _ rfl
    have z0 := HJ.out.z 0
    have r1 := HJ.out.c 1 _ rfl
    have z1 := HJ.out.z 1
    have r2 := HJ.out.c 2 _ rfl
    have z2 := HJ.out.z 2
    have r3 := HJ.out.c 3 _ rfl
    have z3 := HJ.out.z 3
    have r4 := HJ.out.c 4 _ rfl
    have z4 := HJ.out.z 4
    have r5 := HJ.out.c 5 _ rfl
    have z5 := HJ.out.z 5
    go_wp2_with fail
    generalize hwf : ((((((w2.setCell ⟨w.heap.size, 0, none⟩ (.int .i64 0)).setCell ⟨w.heap.size, 1, none⟩ (.int .i64 0)).setCell ⟨w.heap.size, 2, none⟩ (.int .i64 0)).setCell ⟨w.heap.size, 3, none⟩ (.slice none 0 0)).setCell ⟨w.heap.size, 4, none⟩ (.int .i64 0)).setCell ⟨w.heap.size, 5, none⟩ (.bool false)) = wf
    have hrow : wf.heap[w.heap.size]? = some (.cells zeroQ 51 (0, 0)) := by
      rw [← hwf, (block_set _ _ _ _ _ _ (block_set _ _ _ _ _ _ (block_set _ _ _ _ _ _ (block_set _ _ _ _ _ _ (block_set _ _ _ _ _ _ (block_set _ _ _ _ _ _ HJ.out.res))))))]
      rfl
    have hbel : Below w.heap.size w wf := by
      rw [← hwf]
      exact ((((((HJ.out.below.setCell (Nat.le_refl _) _).setCell (Nat.le_refl _) _).setCell (Nat.le_refl _) _).setCell (Nat.le_refl _) _).setCell (Nat.le_refl _) _).setCell (Nat.le_refl _) _)
    refine bodyPost_ret (v := .tuple #[.agg zeroQ, .int .i64 (RE)]) ?_ rfl ⟨by rw [HR.out, HE.out]; rfl, hbel⟩
    rw [results_two rfl]
    have hld := run_loadVar_row (P := Tryz.prog) wf w.heap.size 51 51 zeroQ (0, 0) _ hrow Tryz.underlying51 rfl infoQ
    simp [asAddr, Result.andThen, hld]

theorem r7comm_spec (s : ByteArray) (c : Bool) (w : World) (hs : s.size ≤ 140737488351232) :
    Calls Tryz.prog 20 #[.string s, .bool c] w fun e w' => e = .returned (.tuple #[.agg (comC (comR s c)), .int .i64 (comE s c)]) ∧ Below w.heap.size w w' := by
  cases c
  · cases h : (s.size : Int) != 18
    · exact r7comm_plain s w hs (by simp at h; omega)
    · exact r7comm_len0 s w hs h
  · cases h : decide ((s.size : Int) < 23)
    · have h23 : 23 ≤ s.size := by have := of_decide_eq_false h; omega
      cases h2 : (s.size : Int) != (comN s : Int)
      · cases hk : (s.extract 18 22).toList == noneT.toList
        · cases hs2 : (s.extract 18 22).toList == sowtT.toList
          · exact r7comm_kind s w hs h23 h2 hk hs2
          · exact r7comm_sowt s w hs h23 h2 hk hs2
        · have hs2 : ((s.extract 18 22).toList == sowtT.toList) = false := by
            rw [eq_of_beq hk, none_list, sowt_list]
            decide
          exact r7comm_none s w hs h23 h2 hk hs2
      · exact r7comm_len2 s w hs h23 h2
    · exact r7comm_len1 s w hs h

end Go.Proofs.YtaepgjheknkojaaGreat
