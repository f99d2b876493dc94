/- Own text: the walk of soundOf (aiff). -/
import Derived.Test.YtaepgjheknkojaaGreatQ7sound0
namespace Go.Proofs.YtaepgjheknkojaaGreat
open Go.RowKit
set_option linter.unusedSimpArgs false
set_option linter.unusedVariables false

set_option maxRecDepth 20000 in
set_option maxHeartbeats 3200000 in
theorem soundOf7_sowt (f s : ByteArray) (hs : s.size ≤ 140737488351232) (h1 : wholeB s (kB f) = true) (h2 : ((kindT s (kB f)).toList == noneT.toList) = false) (h3 : ((kindT s (kB f)).toList == sowtT.toList) = true) (w : World) :
    Calls Tryz.prog 56 #[.string f, .string s] w fun e w' => e = .returned (.tuple #[.agg (sndC7 (comR s (kB f))), .int .i64 (comE s (kB f))]) ∧ Below w.heap.size w w' := by
  have HX : Hid (comX s (kB f) = (⟨((frV (bytesOf (s.extract 8 18))).1 : Int), beI s 0 2, beI s 6 8, beI s 2 6, true⟩ : Com)) := by
    have hl := comX_lit s (kB f)
    rw [h3] at hl
    show _ = _
    rw [← hl]
    rfl
  have HE0 : Hid (comE s (kB f) = if ((frV (bytesOf (s.extract 8 18))).2 : Int) != 0 then ((frV (bytesOf (s.extract 8 18))).2 : Int) else againE (comX s (kB f))) := by
    show _ = _
    rw [comE_eq, h1]
    simp only [bne, h2, h3]
    rfl
  have HC : Hid (comR s (kB f) = if comE s (kB f) = 0 then comX s (kB f) else noCom) := rfl
  have HX0 : Hid (Box w.heap.size zeroS7 68 (w.alloc (.cells zeroS7 68)) ∧ Below w.heap.size w (w.alloc (.cells zeroS7 68))) := ⟨Box.new _ _ _, belA _ _⟩
  have hz := whole_size s (kB f) h1
  have kw := isWhole_spec f s hs
  rw [h1] at kw
  have kc := compOf_spec f s hz.2
  rw [none_list] at h2
  rw [sowt_list] at h3
  generalize kindT s (kB f) = KT at *
  have h18 := hz.1
  have sl8 : ∀ wx, (Instr.slice 9 (.string s) (some (.int .i64 8)) (some (.int .i64 18)) none).run Tryz.prog wx = .ok (.string (s.extract 8 18)) wx := fun wx => ext_run s 8 18 (by decide) (by omega) wx
  have sl2 : ∀ wx, (Instr.slice 9 (.string s) (some (.int .i64 2)) (some (.int .i64 6)) none).run Tryz.prog wx = .ok (.string (s.extract 2 6)) wx := fun wx => ext_run s 2 6 (by decide) (by omega) wx
  have sl6 : ∀ wx, (Instr.slice 9 (.string s) (some (.int .i64 6)) (some (.int .i64 8)) none).run Tryz.prog wx = .ok (.string (s.extract 6 8)) wx := fun wx => ext_run s 6 8 (by decide) (by omega) wx
  have sl0 : ∀ wx, (Instr.slice 9 (.string s) none (some (.int .i64 2)) none).run Tryz.prog wx = .ok (.string (s.extract 0 2)) wx := fun wx => slice_upto s 2 (by omega) wx
  have KB : Hid (∀ a b wx, Calls Tryz.prog 88 #[.string (s.extract a b)] wx fun e w' => e = .returned (.int .i64 (beI s a b)) ∧ w' = wx) := fun a b wx => fromBe_spec (s.extract a b) (by rw [ByteArray.size_extract]; omega) wx
  have KR : Hid (∀ wx, Calls Tryz.prog 87 #[.string (s.extract 8 18)] wx fun e w' => e = .returned (pairV (frV (bytesOf (s.extract 8 18)))) ∧ Below wx.heap.size wx w') := fun wx => fromRate_spec (s.extract 8 18) (by rw [ByteArray.size_extract]; omega) wx
  have K02 : Hid (∀ wx, Calls Tryz.prog 88 #[.string (s.extract 0 2)] wx fun e w' => e = .returned (.int .i64 (beI s 0 2)) ∧ w' = wx) := KB.out 0 2
  have K68 : Hid (∀ wx, Calls Tryz.prog 88 #[.string (s.extract 6 8)] wx fun e w' => e = .returned (.int .i64 (beI s 6 8)) ∧ w' = wx) := KB.out 6 8
  have K26 : Hid (∀ wx, Calls Tryz.prog 88 #[.string (s.extract 2 6)] wx fun e w' => e = .returned (.int .i64 (beI s 2 6)) ∧ w' = wx) := KB.out 2 6
  clear hz KB
  generalize beI s 2 6 = SM at *
  generalize beI s 0 2 = CHN at *
  generalize beI s 6 8 = WD at *
  generalize hFR : frV (bytesOf (s.extract 8 18)) = FR at *
  obtain ⟨RTn, REn⟩ := FR
  clear hFR
  simp only at HE0 HX KR
  obtain ⟨RT, hRT⟩ : ∃ RT : Int, RT = (RTn : Int) := ⟨_, rfl⟩
  obtain ⟨RE, hRE⟩ : ∃ RE : Int, RE = (REn : Int) := ⟨_, rfl⟩
  have KR2 : Hid (∀ wx, Calls Tryz.prog 87 #[.string (s.extract 8 18)] wx fun e w' => e = .returned (.tuple #[.int .i64 RT, .int .i64 RE]) ∧ Below wx.heap.size wx w') := by rw [hRT, hRE]; exact KR
  rw [← hRT] at HX
  rw [← hRE] at HE0
  clear hRT hRE KR
  have KA : Hid (∀ wx, Calls Tryz.prog 89 #[sndV7 ⟨RT, CHN, WD, SM, true⟩] wx fun e w' => e = .returned (.int .i64 (againE ⟨RT, CHN, WD, SM, true⟩)) ∧ Below wx.heap.size wx w') := fun wx => against7_spec ⟨RT, CHN, WD, SM, true⟩ wx
  go_enter Tryz.func56, Tryz.ntmps56
  go_wp2_with fail
  refine (kw _).mono ?_
  rintro e w2 ⟨rfl, rfl⟩
  clear kw
  go_wp2_with fail
  refine (kc _).mono ?_
  rintro e w2 ⟨rfl, rfl⟩
  clear kc
  go_wp2_with fail
  refine (KR2.out _).mono ?_
  rintro e w2 ⟨rfl, hB2⟩
  have HX2 : Hid (Box w.heap.size zeroS7 68 w2 ∧ Below w.heap.size w w2) := ⟨HX0.out.1.next hB2, below_on HX0.out.2 hB2⟩
  clear KR2 hB2 HX0
  cases hre : RE != 0
  · rw [hre] at HE0
    simp only [Bool.false_eq_true, if_false] at HE0
    go_upto_region 9 with fail
    have HFX : Hid (Jsx w w2.heap.size ⟨RT, CHN, WD, SM, true⟩ (w2.alloc (.cells (sndC7 ⟨RT, CHN, WD, SM, true⟩) 68)).drew) := Jsx.new HX2.out.1 HX2.out.2 ⟨RT, CHN, WD, SM, true⟩
    go_cut [9] from 36 to 48 (fun v wx => v = Value.pointer (some ⟨w2.heap.size, 0, none⟩) ∧ Jsx w w2.heap.size ⟨RT, CHN, WD, SM, true⟩ wx)
    case first =>
      refine wp_region_held_drew (S := fun _ => True) (by kernel_rfl) trivial (fun hS => ?_)
      refine wpAnyH_take (i := 0) (v := .int .i64 RT) rfl (by kernel_rfl) (by kernel_rfl) (by kernel_rfl) (fun _ _ _ h => h) (Or.inl ⟨by rfl, fun w hSw => by go_simp⟩) hS ?_
      simp only [Act.put, List.getElem_toArray, List.getElem_cons_succ, List.getElem_cons_zero, List.setIfInBounds_toArray, List.set_cons_zero, List.set_cons_succ]
      refine wpAnyH_take (i := 1) (v := .string s) rfl (by kernel_rfl) (by kernel_rfl) (by kernel_rfl) (fun _ _ _ h => h) (Or.inl ⟨by rfl, fun w hSw => by go_simp⟩) hS ?_
      simp only [Act.put, List.getElem_toArray, List.getElem_cons_succ, List.getElem_cons_zero, List.setIfInBounds_toArray, List.set_cons_zero, List.set_cons_succ]
      refine wpAnyH_take (i := 2) (v := .string (s.extract 0 2)) rfl (by kernel_rfl) (by kernel_rfl) (by kernel_rfl) (fun _ _ _ h => h) (Or.inl ⟨by rfl, fun w hSw => by go_simp⟩) hS ?_
      simp only [Act.put, List.getElem_toArray, List.getElem_cons_succ, List.getElem_cons_zero, List.setIfInBounds_toArray, List.set_cons_zero, List.set_cons_succ]
      refine wpAnyH_take (i := 4) (v := .string s) rfl (by kernel_rfl) (by kernel_rfl) (by kernel_rfl) (fun _ _ _ h => h) (Or.inl ⟨by rfl, fun w hSw => by go_simp⟩) hS ?_
      simp only [Act.put, List.getElem_toArray, List.getElem_cons_succ, List.getElem_cons_zero, List.setIfInBounds_toArray, List.set_cons_zero, List.set_cons_succ]
      refine wpAnyH_take (i := 5) (v := .string (s.extract 6 8)) rfl (by kernel_rfl) (by kernel_rfl) (by kernel_rfl) (fun _ _ _ h => h) (Or.inl ⟨by rfl, fun w hSw => by go_simp⟩) hS ?_
      simp only [Act.put, List.getElem_toArray, List.getElem_cons_succ, List.getElem_cons_zero, List.setIfInBounds_toArray, List.set_cons_zero, List.set_cons_succ]
      refine wpAnyH_take (i := 7) (v := .string s) rfl (by kernel_rfl) (by kernel_rfl) (by kernel_rfl) (fun _ _ _ h => h) (Or.inl ⟨by rfl, fun w hSw => by go_simp⟩) hS ?_
      simp only [Act.put, List.getElem_toArray, List.getElem_cons_succ, List.getElem_cons_zero, List.setIfInBounds_toArray, List.set_cons_zero, List.set_cons_succ]
      refine wpAnyH_take (i := 8) (v := .string (s.extract 2 6)) rfl (by kernel_rfl) (by kernel_rfl) (by kernel_rfl) (fun _ _ _ h => h) (Or.inl ⟨by rfl, fun w hSw => by go_simp⟩) hS ?_
      simp only [Act.put, List.getElem_toArray, List.getElem_cons_succ, List.getElem_cons_zero, List.setIfInBounds_toArray, List.set_cons_zero, List.set_cons_succ]
      refine wpAnyH_take (i := 10) (v := .string KT) rfl (by kernel_rfl) (by kernel_rfl) (by kernel_rfl) (fun _ _ _ h => h) (Or.inl ⟨by rfl, fun w hSw => by go_simp⟩) hS ?_
      simp only [Act.put, List.getElem_toArray, List.getElem_cons_succ, List.getElem_cons_zero, List.setIfInBounds_toArray, List.set_cons_zero, List.set_cons_succ]
      refine wpAnyH_take (i := 11) (v := .bool true) rfl (by kernel_rfl) (by kernel_rfl) (by kernel_rfl) (fun _ _ _ h => h) (Or.inl ⟨by rfl, fun w hSw => by go_simp⟩) hS ?_
      simp only [Act.put, List.getElem_toArray, List.getElem_cons_succ, List.getElem_cons_zero, List.setIfInBounds_toArray, List.set_cons_zero, List.set_cons_succ]
      refine wpAnyH_ready (rs := [3, 13]) (by kernel_rfl) (by simp) ?_
      refine AllReadyH.cons rfl (fun K hK => ?_) (AllReadyH.cons rfl (fun K hK => ?_) AllReadyH.nil)
      · go_simp
        refine (K02.out _).mono ?_
        rintro e w4 ⟨rfl, rfl⟩
        refine hK.out _ _ trivial (fun hS => ?_)
        clear hK K
        refine wpAnyH_ready (rs := [6, 13]) (by kernel_rfl) (by simp) ?_
        refine AllReadyH.cons rfl (fun K hK => ?_) (AllReadyH.cons rfl (fun K hK => ?_) AllReadyH.nil)
        · go_simp
          refine (K68.out _).mono ?_
          rintro e w4 ⟨rfl, rfl⟩
          refine hK.out _ _ trivial (fun hS => ?_)
          clear hK K
          refine wpAnyH_ready (rs := [9, 13]) (by kernel_rfl) (by simp) ?_
          refine AllReadyH.cons rfl (fun K hK => ?_) (AllReadyH.cons rfl (fun K hK => ?_) AllReadyH.nil)
          · go_simp
            refine (K26.out _).mono ?_
            rintro e w4 ⟨rfl, rfl⟩
            refine hK.out _ _ trivial (fun hS => ?_)
            clear hK K
            refine wpAnyH_take (i := 12) (v := .agg #[.int .i64 RT, .int .i64 CHN, .int .i64 WD, .int .i64 SM, .bool true]) rfl (by kernel_rfl) (by kernel_rfl) (by kernel_rfl) (fun _ _ _ h => h) (Or.inl ⟨by rfl, fun w hSw => by go_simp⟩) hS ?_
            simp only [Act.put, List.getElem_toArray, List.getElem_cons_succ, List.getElem_cons_zero, List.setIfInBounds_toArray, List.set_cons_zero, List.set_cons_succ]
            refine wpAnyH_ready (rs := [13]) (by kernel_rfl) (by simp) ?_
            refine AllReadyH.cons rfl (fun K hK => ?_) AllReadyH.nil
            go_simp
            refine hK.out _ _ trivial (fun hS => ?_)
            clear hK K
            refine wpAnyH_ready (rs := [14]) (by kernel_rfl) (by simp) ?_
            refine AllReadyH.cons rfl (fun K hK => ?_) AllReadyH.nil
            go_simp
            refine hK.out _ _ trivial (fun hS => ?_)
            clear hK K
            refine wpAnyH_done (by kernel_rfl) ?_ _
            go_wp2_with fail
            go_meet
            exact ⟨rfl, HFX.out⟩
          · go_simp
            refine hK.out _ _ trivial (fun hS => ?_)
            clear hK K
            refine wpAnyH_ready (rs := [9]) (by kernel_rfl) (by simp) ?_
            refine AllReadyH.cons rfl (fun K hK => ?_) AllReadyH.nil
            go_simp
            refine (K26.out _).mono ?_
            rintro e w4 ⟨rfl, rfl⟩
            refine hK.out _ _ trivial (fun hS => ?_)
            clear hK K
            refine wpAnyH_take (i := 12) (v := .agg #[.int .i64 RT, .int .i64 CHN, .int .i64 WD, .int .i64 SM, .bool true]) rfl (by kernel_rfl) (by kernel_rfl) (by kernel_rfl) (fun _ _ _ h => h) (Or.inl ⟨by rfl, fun w hSw => by go_simp⟩) hS ?_
            simp only [Act.put, List.getElem_toArray, List.getElem_cons_succ, List.getElem_cons_zero, List.setIfInBounds_toArray, List.set_cons_zero, List.set_cons_succ]
            refine wpAnyH_ready (rs := [14]) (by kernel_rfl) (by simp) ?_
            refine AllReadyH.cons rfl (fun K hK => ?_) AllReadyH.nil
            go_simp
            refine hK.out _ _ trivial (fun hS => ?_)
            clear hK K
            refine wpAnyH_done (by kernel_rfl) ?_ _
            go_wp2_with fail
            go_meet
            exact ⟨rfl, HFX.out⟩
        · go_simp
          refine hK.out _ _ trivial (fun hS => ?_)
          clear hK K
          refine wpAnyH_ready (rs := [6]) (by kernel_rfl) (by simp) ?_
          refine AllReadyH.cons rfl (fun K hK => ?_) AllReadyH.nil
          go_simp
          refine (K68.out _).mono ?_
          rintro e w4 ⟨rfl, rfl⟩
          refine hK.out _ _ trivial (fun hS => ?_)
          clear hK K
          refine wpAnyH_ready (rs := [9]) (by kernel_rfl) (by simp) ?_
          refine AllReadyH.cons rfl (fun K hK => ?_) AllReadyH.nil
          go_simp
          refine (K26.out _).mono ?_
          rintro e w4 ⟨rfl, rfl⟩
          refine hK.out _ _ trivial (fun hS => ?_)
          clear hK K
          refine wpAnyH_take (i := 12) (v := .agg #[.int .i64 RT, .int .i64 CHN, .int .i64 WD, .int .i64 SM, .bool true]) rfl (by kernel_rfl) (by kernel_rfl) (by kernel_rfl) (fun _ _ _ h => h) (Or.inl ⟨by rfl, fun w hSw => by go_simp⟩) hS ?_
          simp only [Act.put, List.getElem_toArray, List.getElem_cons_succ, List.getElem_cons_zero, List.setIfInBounds_toArray, List.set_cons_zero, List.set_cons_succ]
          refine wpAnyH_ready (rs := [14]) (by kernel_rfl) (by simp) ?_
          refine AllReadyH.cons rfl (fun K hK => ?_) AllReadyH.nil
          go_simp
          refine hK.out _ _ trivial (fun hS => ?_)
          clear hK K
          refine wpAnyH_done (by kernel_rfl) ?_ _
          go_wp2_with fail
          go_meet
          exact ⟨rfl, HFX.out⟩
      · go_simp
        refine hK.out _ _ trivial (fun hS => ?_)
        clear hK K
        refine wpAnyH_ready (rs := [3]) (by kernel_rfl) (by simp) ?_
        refine AllReadyH.cons rfl (fun K hK => ?_) AllReadyH.nil
        go_simp
        refine (K02.out _).mono ?_
        rintro e w4 ⟨rfl, rfl⟩
        refine hK.out _ _ trivial (fun hS => ?_)
        clear hK K
        refine wpAnyH_ready (rs := [6]) (by kernel_rfl) (by simp) ?_
        refine AllReadyH.cons rfl (fun K hK => ?_) AllReadyH.nil
        go_simp
        refine (K68.out _).mono ?_
        rintro e w4 ⟨rfl, rfl⟩
        refine hK.out _ _ trivial (fun hS => ?_)
        clear hK K
        refine wpAnyH_ready (rs := [9]) (by kernel_rfl) (by simp) ?_
        refine AllReadyH.cons rfl (fun K hK => ?_) AllReadyH.nil
        go_simp
        refine (K26.out _).mono ?_
        rintro e w4 ⟨rfl, rfl⟩
        refine hK.out _ _ trivial (fun hS => ?_)
        clear hK K
        refine wpAnyH_take (i := 12) (v := .agg #[.int .i64 RT, .int .i64 CHN, .int .i64 WD, .int .i64 SM, .bool true]) rfl (by kernel_rfl) (by kernel_rfl) (by kernel_rfl) (fun _ _ _ h => h) (Or.inl ⟨by rfl, fun w hSw => by go_simp⟩) hS ?_
        simp only [Act.put, List.getElem_toArray, List.getElem_cons_succ, List.getElem_cons_zero, List.setIfInBounds_toArray, List.set_cons_zero, List.set_cons_succ]
        refine wpAnyH_ready (rs := [14]) (by kernel_rfl) (by simp) ?_
        refine AllReadyH.cons rfl (fun K hK => ?_) AllReadyH.nil
        go_simp
        refine hK.out _ _ trivial (fun hS => ?_)
        clear hK K
        refine wpAnyH_done (by kernel_rfl) ?_ _
        go_wp2_with fail
        go_meet
        exact ⟨rfl, HFX.out⟩
    case rest =>
      obtain ⟨rfl, hj⟩ := hcut
      have HX3 : Hid (Jsx w w2.heap.size ⟨RT, CHN, WD, SM, true⟩ wc) := hj
      generalize w2.heap.size = Q at *
      have q0 := HX3.out.bx.c 0 _ rfl
      have q1 := HX3.out.bx.c 1 _ rfl
      have q2 := HX3.out.bx.c 2 _ rfl
      have q3 := HX3.out.bx.c 3 _ rfl
      have q4 := HX3.out.bx.c 4 _ rfl
      clear hj HX2 K02 K68 K26 hre HFX
      go_wp2_with fail
      refine (KA.out _).mono ?_
      rintro e w5 ⟨rfl, hB5⟩
      have HX5 : Hid (Jsx w Q ⟨RT, CHN, WD, SM, true⟩ w5) := HX3.out.next hB5
      have HEA : Hid (comE s (kB f) = againE ⟨RT, CHN, WD, SM, true⟩) := HE0.out.trans (by rw [HX.out])
      clear KA hB5 HX3 q0 q1 q2 q3 q4 HE0
      generalize againE ⟨RT, CHN, WD, SM, true⟩ = AE at *
      cases hae : AE != 0
      · have hae0 : AE = 0 := by simpa using hae
        have HE : Hid (comE s (kB f) = 0) := HEA.out.trans hae0
        have HR : Hid (comR s (kB f) = ⟨RT, CHN, WD, SM, true⟩) := (HC.out.trans (if_pos HE.out)).trans HX.out
        rw [hae0]
        clear hae hae0 HEA
        have q0 := HX5.out.bx.c 0 _ rfl
        have q1 := HX5.out.bx.c 1 _ rfl
        have q2 := HX5.out.bx.c 2 _ rfl
        have q3 := HX5.out.bx.c 3 _ rfl
        have q4 := HX5.out.bx.c 4 _ rfl
        have r0 := HX5.out.res.c 0 _ rfl
        have z0 := HX5.out.res.z 0
        have r1 := HX5.out.res.c 1 _ rfl
        have z1 := HX5.out.res.z 1
        have r2 := HX5.out.res.c 2 _ rfl
        have z2 := HX5.out.res.z 2
        have r3 := HX5.out.res.c 3 _ rfl
        have z3 := HX5.out.res.z 3
        have r4 := HX5.out.res.c 4 _ rfl
        have z4 := HX5.out.res.z 4
        have HFIN : Hid (Box w.heap.size (sndC7 ⟨RT, CHN, WD, SM, true⟩) 68 (((((w5.setCell ⟨w.heap.size, 0, none⟩ (.int .i64 RT)).setCell ⟨w.heap.size, 1, none⟩ (.int .i64 CHN)).setCell ⟨w.heap.size, 2, none⟩ (.int .i64 WD)).setCell ⟨w.heap.size, 3, none⟩ (.int .i64 SM)).setCell ⟨w.heap.size, 4, none⟩ (.bool true)) ∧ Below w.heap.size w (((((w5.setCell ⟨w.heap.size, 0, none⟩ (.int .i64 RT)).setCell ⟨w.heap.size, 1, none⟩ (.int .i64 CHN)).setCell ⟨w.heap.size, 2, none⟩ (.int .i64 WD)).setCell ⟨w.heap.size, 3, none⟩ (.int .i64 SM)).setCell ⟨w.heap.size, 4, none⟩ (.bool true))) := ⟨(((((HX5.out.res.set 0 (.int .i64 RT)).set 1 (.int .i64 CHN)).set 2 (.int .i64 WD)).set 3 (.int .i64 SM)).set 4 (.bool true)), (((((HX5.out.below.setCell (Nat.le_refl _) _).setCell (Nat.le_refl _) _).setCell (Nat.le_refl _) _).setCell (Nat.le_refl _) _).setCell (Nat.le_refl _) _)⟩
        go_wp2_with fail
        exact bodyPost_ret (v := .tuple #[.agg (sndC7 ⟨RT, CHN, WD, SM, true⟩), .int .i64 (0)]) (snd_ret7 HFIN.out.1 rfl _ _ rfl rfl) rfl ⟨by rw [HR.out, HE.out], HFIN.out.2⟩
      · have HE : Hid (comE s (kB f) = AE) := HEA.out
        have HR : Hid (comR s (kB f) = noCom) := HC.out.trans (if_neg (by rw [HE.out]; simpa using hae))
        have r0 := HX5.out.res.c 0 _ rfl
        have z0 := HX5.out.res.z 0
        have r1 := HX5.out.res.c 1 _ rfl
        have z1 := HX5.out.res.z 1
        have r2 := HX5.out.res.c 2 _ rfl
        have z2 := HX5.out.res.z 2
        have r3 := HX5.out.res.c 3 _ rfl
        have z3 := HX5.out.res.z 3
        have r4 := HX5.out.res.c 4 _ rfl
        have z4 := HX5.out.res.z 4
        have HFIN : Hid (Box w.heap.size zeroS7 68 (((((w5.setCell ⟨w.heap.size, 0, none⟩ (.int .i64 0)).setCell ⟨w.heap.size, 1, none⟩ (.int .i64 0)).setCell ⟨w.heap.size, 2, none⟩ (.int .i64 0)).setCell ⟨w.heap.size, 3, none⟩ (.int .i64 0)).setCell ⟨w.heap.size, 4, none⟩ (.bool false)) ∧ Below w.heap.size w (((((w5.setCell ⟨w.heap.size, 0, none⟩ (.int .i64 0)).setCell ⟨w.heap.size, 1, none⟩ (.int .i64 0)).setCell ⟨w.heap.size, 2, none⟩ (.int .i64 0)).setCell ⟨w.heap.size, 3, none⟩ (.int .i64 0)).setCell ⟨w.heap.size, 4, none⟩ (.bool false))) := ⟨(((((HX5.out.res.set 0 (.int .i64 0)).set 1 (.int .i64 0)).set 2 (.int .i64 0)).set 3 (.int .i64 0)).set 4 (.bool false)), (((((HX5.out.below.setCell (Nat.le_refl _) _).setCell (Nat.le_refl _) _).setCell (Nat.le_refl _) _).setCell (Nat.le_refl _) _).setCell (Nat.le_refl _) _)⟩
        go_wp2_with fail
        exact bodyPost_ret (v := .tuple #[.agg zeroS7, .int .i64 (AE)]) (snd_ret7 HFIN.out.1 rfl _ _ rfl rfl) rfl ⟨by rw [HR.out, HE.out]; rfl, HFIN.out.2⟩
  · have HE : Hid (comE s (kB f) = RE) := HE0.out.trans (by rw [hre]; rfl)
    have HR : Hid (comR s (kB f) = noCom) := HC.out.trans (if_neg (by rw [HE.out]; simpa using hre))
    have r0 := HX2.out.1.c 0 _ rfl
    have z0 := HX2.out.1.z 0
    have r1 := HX2.out.1.c 1 _ rfl
    have z1 := HX2.out.1.z 1
    have r2 := HX2.out.1.c 2 _ rfl
    have z2 := HX2.out.1.z 2
    have r3 := HX2.out.1.c 3 _ rfl
    have z3 := HX2.out.1.z 3
    have r4 := HX2.out.1.c 4 _ rfl
    have z4 := HX2.out.1.z 4
    have HFIN : Hid (Box w.heap.size zeroS7 68 (((((w2.setCell ⟨w.heap.size, 0, none⟩ (.int .i64 0)).setCell ⟨w.heap.size, 1, none⟩ (.int .i64 0)).setCell ⟨w.heap.size, 2, none⟩ (.int .i64 0)).setCell ⟨w.heap.size, 3, none⟩ (.int .i64 0)).setCell ⟨w.heap.size, 4, none⟩ (.bool false)) ∧ Below w.heap.size w (((((w2.setCell ⟨w.heap.size, 0, none⟩ (.int .i64 0)).setCell ⟨w.heap.size, 1, none⟩ (.int .i64 0)).setCell ⟨w.heap.size, 2, none⟩ (.int .i64 0)).setCell ⟨w.heap.size, 3, none⟩ (.int .i64 0)).setCell ⟨w.heap.size, 4, none⟩ (.bool false))) := ⟨(((((HX2.out.1.set 0 (.int .i64 0)).set 1 (.int .i64 0)).set 2 (.int .i64 0)).set 3 (.int .i64 0)).set 4 (.bool false)), (((((HX2.out.2.setCell (Nat.le_refl _) _).setCell (Nat.le_refl _) _).setCell (Nat.le_refl _) _).setCell (Nat.le_refl _) _).setCell (Nat.le_refl _) _)⟩
    go_wp2_with fail
    exact bodyPost_ret (v := .tuple #[.agg zeroS7, .int .i64 (RE)]) (snd_ret7 HFIN.out.1 rfl _ _ rfl rfl) rfl ⟨by rw [HR.out, HE.out]; rfl, HFIN.out.2⟩

end Go.Proofs.YtaepgjheknkojaaGreat
