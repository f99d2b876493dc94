/- Own text: the walk of read, where a head stands. -/
import Derived.Test.YtjkamannjgcmiaaDoorQ15re
namespace Go.Proofs.YtjkamannjgcmiaaDoor
open Go.RowKit
set_option linter.unusedSimpArgs false
set_option linter.unusedVariables false

set_option maxRecDepth 20000 in
set_option maxHeartbeats 3200000 in
theorem read_main (s : ByteArray) (hs : s.size ≤ 140737488351232) (w : World) (hL : S3.RulesAt w) (h27 : 27 ≤ s.size) (hm : ((s.extract 0 5).toList == [79, 103, 103, 83, 0]) = true) (hla : 27 + u8 (bytesOf s) 26 ≤ s.size) :
    Calls Tryd.prog 37 #[.string s] w fun e w' => RdE w.heap.size s e w' ∧ Below w.heap.size w w' := by
  have hsl : ∀ w, (Instr.slice 9 (.string s) none (some (.int .i64 5)) none).run Tryd.prog w = .ok (.string (s.extract 0 5)) w := slice_upto s 5 (by omega)
  have hx0 := u8_at s 26 (by omega)
  have hxb : (s[26]'(by omega)).toNat < 256 := UInt8.toNat_lt _
  obtain ⟨p, hp0⟩ : ∃ p, p = 27 + (s[26]'(by omega)).toNat := ⟨_, rfl⟩
  have hp : (27 : Int) + ((s[26]'(by omega)).toNat : Int) = (p : Int) := by omega
  have hps : p ≤ s.size := by omega
  have hp1 : 27 ≤ p := by omega
  have hp2 : p ≤ 282 := by omega
  have HPU : Hid (27 + u8 (bytesOf s) 26 = p) := by show _ = _; omega
  have hsl2 : ∀ w, (Instr.slice 9 (.string s) (some (.int .i64 27)) (some (.int .i64 (p : Int))) none).run Tryd.prog w = .ok (.string (s.extract 27 p)) w := slice_run s 27 p hp1 hps
  have hXs : (s.extract 27 p).size = p - 27 := ext_len s 27 p hp1 hps
  have HLA : Hid (numsL (s.extract 27 p) = (laN (bytesOf s)).map fun x : Nat => (x : Int)) := by
    show _ = _
    unfold numsL laN
    rw [bytesOf_ext, HPU.out]
  have HLO : Hid (lacOk (numsL (s.extract 27 p))) := fun x hx => by
    obtain ⟨y, hy, rfl⟩ := List.mem_map.1 hx
    have := bytesOf_lt _ y hy
    omega
  have hsum := jsum_le (numsL (s.extract 27 p)) HLO.out (numsL (s.extract 27 p)).length
  rw [List.take_of_length_le (Nat.le_refl _), numsL_len, hXs] at hsum
  obtain ⟨tt, htt⟩ : ∃ tt, tt = (natL (numsL (s.extract 27 p))).sum := ⟨_, rfl⟩
  rw [← htt] at hsum
  obtain ⟨en, hen0⟩ : ∃ en, en = p + tt := ⟨_, rfl⟩
  have hen : (p : Int) + (tt : Int) = (en : Int) := by omega
  have HEN : Hid (endN (bytesOf s) = en) := by
    show _ = _
    unfold endN
    rw [HPU.out, hen0, htt, HLA.out]
    congr 2
    unfold natL
    rw [List.map_map]
    exact (List.map_id _).symm
  have hpe : p ≤ en := by omega
  have hen2 : en ≤ 100000 := by omega
  have k1 := fun w => j_lacesIn (s.extract 27 p) (by omega) w
  have K2 : Hid (∀ w a, IntsAt w a (numsL (s.extract 27 p)) → Calls Tryd.prog 46 #[.slice a (p - 27) (p - 27)] w fun e w' => e = .returned (.int .i64 (tt : Int)) ∧ w' = w) := fun w a h => by
    have := j_total _ a (p - 27) w h HLO.out
    rwa [← htt, numsL_len, hXs] at this
  rw [hXs] at k1
  have HSZ := hid hXs
  generalize s.extract 27 p = X at *
  have hL0 := hid hL
  have K1 := hid k1
  have HM2 : Hid (seg (bytesOf s) 0 5 = markL) := by show _ = _; rw [← bytesOf_ext]; exact toL _ _ hm
  clear hx0 hla HLO hsum htt hen0 k1 hXs hL hp0
  go_enter Tryd.func37, Tryd.ntmps37
  go_upto_region 6 with fail
  clear hp hm hsl hxb
  have H0 : Hid (Box (w.alloc (.cells zeroS 74)) w.heap.size zeroS 74 ∧ Below w.heap.size w (w.alloc (.cells zeroS 74)) ∧ w.heap.size < (w.alloc (.cells zeroS 74)).heap.size) := ⟨Box.new _ _ _, below_new _ _, by simp⟩
  generalize w.alloc (.cells zeroS 74) = wa at *
  have k1 := K1.out wa
  go_wp2_with fail
  refine k1.mono ?_
  rintro e w1 ⟨rfl, hi1, hb1⟩
  have H1 : Hid (Box w1 w.heap.size zeroS 74 ∧ IntsAt w1 (some ⟨wa.heap.size, 0, none⟩) (numsL X) ∧ Below w.heap.size w w1) := ⟨H0.out.1.keep hb1, hi1, below_on H0.out.2.1 H0.out.2.1.size hb1⟩
  clear hi1 hb1 k1 K1 hsl2
  have k2 := K2.out w1 _ H1.out.2.1
  go_wp2_with fail
  refine k2.mono ?_
  rintro e w2 ⟨rfl, rfl⟩
  go_upto_region 8 with fail
  clear k2 K2 hen
  have HD1 : Hid (Box w2.drew w.heap.size zeroS 74 ∧ IntsAt w2.drew (some ⟨wa.heap.size, 0, none⟩) (numsL X) ∧ Below w.heap.size w w2.drew) := ⟨H1.out.1.drew, H1.out.2.1.below (below_drew _), below_on H1.out.2.2 H1.out.2.2.size (below_drew _)⟩
  clear H1
  refine wp_region_held_drew (S := fun wx => Hid (Below w.heap.size w wx)) (by kernel_rfl) (hid HD1.out.2.2) (fun hS => ?_)
  generalize w2.drew = w2 at *
  by_cases hend : s.size < en
  · have HNO : Hid (¬ rdOk (bytesOf s)) := fun q => by
      have := q.2.2.2.1
      rw [HEN.out, bytesOf_length] at this
      omega
    refine wpAnyH_take (i := 0) (v := .string s) rfl (by kernel_rfl) (by kernel_rfl) (by kernel_rfl) (fun _ _ _ h => h) (Or.inl ⟨by rfl, fun w hSw => by go_simp⟩) hS ?_
    simp only [Act.put, List.getElem_toArray, List.getElem_cons_succ, List.getElem_cons_zero, List.setIfInBounds_toArray, List.set_cons_zero, List.set_cons_succ]
    refine wpAnyH_take (i := 1) (v := .int .i64 (s.size : Int)) rfl (by kernel_rfl) (by kernel_rfl) (by kernel_rfl) (fun _ _ _ h => h) (Or.inl ⟨by rfl, fun w hSw => by go_simp⟩) hS ?_
    simp only [Act.put, List.getElem_toArray, List.getElem_cons_succ, List.getElem_cons_zero, List.setIfInBounds_toArray, List.set_cons_zero, List.set_cons_succ]
    refine wpAnyH_take (i := 2) (v := .int .i64 (en : Int)) rfl (by kernel_rfl) (by kernel_rfl) (by kernel_rfl) (fun _ _ _ h => h) (Or.inl ⟨by rfl, fun w hSw => by go_simp⟩) hS ?_
    simp only [Act.put, List.getElem_toArray, List.getElem_cons_succ, List.getElem_cons_zero, List.setIfInBounds_toArray, List.set_cons_zero, List.set_cons_succ]
    refine wpAnyH_take (i := 3) (v := .bool true) rfl (by kernel_rfl) (by kernel_rfl) (by kernel_rfl) (fun _ _ _ h => h) (Or.inl ⟨by rfl, fun w hSw => by go_simp⟩) hS ?_
    simp only [Act.put, List.getElem_toArray, List.getElem_cons_succ, List.getElem_cons_zero, List.setIfInBounds_toArray, List.set_cons_zero, List.set_cons_succ]
    refine wpAnyH_take (i := 4) (v := .bool true) rfl (by kernel_rfl) (by kernel_rfl) (by kernel_rfl) (fun _ _ _ h => h) (Or.inl ⟨by rfl, fun w hSw => by go_simp⟩) hS ?_
    simp only [Act.put, List.getElem_toArray, List.getElem_cons_succ, List.getElem_cons_zero, List.setIfInBounds_toArray, List.set_cons_zero, List.set_cons_succ]
    refine wpAnyH_take (i := 5) (v := undef) rfl (by kernel_rfl) (by kernel_rfl) (by kernel_rfl) (fun _ _ _ h => h) (Or.inr ⟨by rfl, rfl⟩) hS ?_
    simp only [Act.put, List.getElem_toArray, List.getElem_cons_succ, List.getElem_cons_zero, List.setIfInBounds_toArray, List.set_cons_zero, List.set_cons_succ]
    refine wpAnyH_take (i := 6) (v := undef) rfl (by kernel_rfl) (by kernel_rfl) (by kernel_rfl) (fun _ _ _ h => h) (Or.inr ⟨by rfl, rfl⟩) hS ?_
    simp only [Act.put, List.getElem_toArray, List.getElem_cons_succ, List.getElem_cons_zero, List.setIfInBounds_toArray, List.set_cons_zero, List.set_cons_succ]
    refine wpAnyH_take (i := 7) (v := undef) rfl (by kernel_rfl) (by kernel_rfl) (by kernel_rfl) (fun _ _ _ h => h) (Or.inr ⟨by rfl, rfl⟩) hS ?_
    simp only [Act.put, List.getElem_toArray, List.getElem_cons_succ, List.getElem_cons_zero, List.setIfInBounds_toArray, List.set_cons_zero, List.set_cons_succ]
    refine wpAnyH_take (i := 8) (v := undef) rfl (by kernel_rfl) (by kernel_rfl) (by kernel_rfl) (fun _ _ _ h => h) (Or.inr ⟨by rfl, rfl⟩) hS ?_
    simp only [Act.put, List.getElem_toArray, List.getElem_cons_succ, List.getElem_cons_zero, List.setIfInBounds_toArray, List.set_cons_zero, List.set_cons_succ]
    refine wpAnyH_take (i := 9) (v := undef) rfl (by kernel_rfl) (by kernel_rfl) (by kernel_rfl) (fun _ _ _ h => h) (Or.inr ⟨by rfl, rfl⟩) hS ?_
    simp only [Act.put, List.getElem_toArray, List.getElem_cons_succ, List.getElem_cons_zero, List.setIfInBounds_toArray, List.set_cons_zero, List.set_cons_succ]
    refine wpAnyH_take (i := 10) (v := undef) rfl (by kernel_rfl) (by kernel_rfl) (by kernel_rfl) (fun _ _ _ h => h) (Or.inr ⟨by rfl, rfl⟩) hS ?_
    simp only [Act.put, List.getElem_toArray, List.getElem_cons_succ, List.getElem_cons_zero, List.setIfInBounds_toArray, List.set_cons_zero, List.set_cons_succ]
    refine wpAnyH_take (i := 11) (v := undef) rfl (by kernel_rfl) (by kernel_rfl) (by kernel_rfl) (fun _ _ _ h => h) (Or.inr ⟨by rfl, rfl⟩) hS ?_
    simp only [Act.put, List.getElem_toArray, List.getElem_cons_succ, List.getElem_cons_zero, List.setIfInBounds_toArray, List.set_cons_zero, List.set_cons_succ]
    refine wpAnyH_take (i := 12) (v := undef) rfl (by kernel_rfl) (by kernel_rfl) (by kernel_rfl) (fun _ _ _ h => h) (Or.inr ⟨by rfl, rfl⟩) hS ?_
    simp only [Act.put, List.getElem_toArray, List.getElem_cons_succ, List.getElem_cons_zero, List.setIfInBounds_toArray, List.set_cons_zero, List.set_cons_succ]
    refine wpAnyH_take (i := 13) (v := undef) rfl (by kernel_rfl) (by kernel_rfl) (by kernel_rfl) (fun _ _ _ h => h) (Or.inr ⟨by rfl, rfl⟩) hS ?_
    simp only [Act.put, List.getElem_toArray, List.getElem_cons_succ, List.getElem_cons_zero, List.setIfInBounds_toArray, List.set_cons_zero, List.set_cons_succ]
    refine wpAnyH_take (i := 14) (v := .bool true) rfl (by kernel_rfl) (by kernel_rfl) (by kernel_rfl) (fun _ _ _ h => h) (Or.inl ⟨by rfl, fun w hSw => by go_simp⟩) hS ?_
    simp only [Act.put, List.getElem_toArray, List.getElem_cons_succ, List.getElem_cons_zero, List.setIfInBounds_toArray, List.set_cons_zero, List.set_cons_succ]
    refine wpAnyH_done (by kernel_rfl) ?_ _
    have HBB : Hid (Below w.heap.size w (w2.setRow w.heap.size zeroS)) := below_setRow HD1.out.2.2 (Nat.le_refl _) _
    go_wp2_with (refine wpList_store_row rfl 74 (.tmp 2) (.tmp 50) rfl w.heap.size zeroS rfl rfl 74 zeroS HD1.out.1.h info_sheet rfl (by simp [Value.oneCell']) ?_)
    refine bodyPost_ret (v := .tuple #[.agg zeroS, .int .i64 0, .int .i64 2]) ?_ rfl ⟨⟨fun q => absurd q HNO.out, fun _ => rfl⟩, HBB.out⟩
    rw [results_three rfl]
    have hld := run_loadVar_row (P := Tryd.prog) (w2.setRow w.heap.size zeroS) w.heap.size 74 74 zeroS (0, 0) _ (HD1.out.1.set zeroS).h Tryd.underlying74 rfl info_sheet
    simp [asAddr, Result.andThen, hld]
  · obtain ⟨A, hA⟩ : ∃ A, A = s.extract 0 22 := ⟨_, rfl⟩
    obtain ⟨B, hB⟩ : ∃ B, B = s.extract 26 en := ⟨_, rfl⟩
    obtain ⟨Y, hY⟩ : ∃ Y, Y = s.extract 22 26 := ⟨_, rfl⟩
    have q0 : ∀ w, (Instr.slice 9 (.string s) none (some (.int .i64 22)) none).run Tryd.prog w = .ok (.string A) w := fun w => by rw [hA]; exact slice_upto s 22 (by omega) w
    have q1 : ∀ w, (Instr.slice 9 (.string s) (some (.int .i64 26)) (some (.int .i64 (en : Int))) none).run Tryd.prog w = .ok (.string B) w := fun w => by rw [hB]; exact slice_run s 26 en (by omega) (by omega) w
    have q2 : ∀ w, (Instr.slice 9 (.string s) (some (.int .i64 22)) (some (.int .i64 26)) none).run Tryd.prog w = .ok (.string Y) w := fun w => by rw [hY]; exact slice_run s 22 26 (by omega) (by omega) w
    have ko := j_sumOf A B (by rw [hA, ext_len s 0 22 (by omega) (by omega)]; omega) (by rw [hB, ext_len s 26 en (by omega) (by omega)]; omega) w2 (hL0.out.below HD1.out.2.2)
    have HEQ : Hid ((textOf (S2.lowL (oggN (bytesOf A ++ zer4 ++ bytesOf B)) 4) = Y) ↔ oggN (sumL (bytesOf s) (endN (bytesOf s))) = leN (seg (bytesOf s) 22 26)) := by
      show _ ↔ _
      rw [hA, hB, hY, bytesOf_ext, bytesOf_ext, HEN.out]
      have hsm : sumL (bytesOf s) en = seg (bytesOf s) 0 22 ++ zer4 ++ seg (bytesOf s) 26 en := rfl
      rw [hsm]
      generalize hO : oggN (seg (bytesOf s) 0 22 ++ zer4 ++ seg (bytesOf s) 26 en) = O
      have hOl : O < 4294967296 := by rw [← hO]; exact ogg_lt _
      have hl4 : (seg (bytesOf s) 22 26).length = 4 := by rw [seg_length _ _ _ (by rw [bytesOf_length]; omega)]
      have hlt : ∀ b ∈ seg (bytesOf s) 22 26, b < 256 := fun b hb => bytesOf_lt s b (seg_mem hb)
      constructor
      · intro e
        have e2 : bytesOf (textOf (S2.lowL O 4)) = seg (bytesOf s) 22 26 := by rw [e, bytesOf_ext]
        rw [S2.bytesOf_textOf _ (S2.lowL_lt _ _)] at e2
        rw [← e2, le_low]
        omega
      · intro e
        apply bytes_inj
        rw [S2.bytesOf_textOf _ (S2.lowL_lt _ _), bytesOf_ext, e]
        have := low_le _ hlt
        rwa [hl4] at this
    have HE2 : Hid (en ≤ s.size) := by show _ ≤ _; omega
    clear hA hB hY
    generalize textOf (S2.lowL (oggN (bytesOf A ++ zer4 ++ bytesOf B)) 4) = R at *
    refine wpAnyH_take (i := 0) (v := .string s) rfl (by kernel_rfl) (by kernel_rfl) (by kernel_rfl) (fun _ _ _ h => h) (Or.inl ⟨by rfl, fun w hSw => by go_simp⟩) hS ?_
    simp only [Act.put, List.getElem_toArray, List.getElem_cons_succ, List.getElem_cons_zero, List.setIfInBounds_toArray, List.set_cons_zero, List.set_cons_succ]
    refine wpAnyH_take (i := 1) (v := .int .i64 (s.size : Int)) rfl (by kernel_rfl) (by kernel_rfl) (by kernel_rfl) (fun _ _ _ h => h) (Or.inl ⟨by rfl, fun w hSw => by go_simp⟩) hS ?_
    simp only [Act.put, List.getElem_toArray, List.getElem_cons_succ, List.getElem_cons_zero, List.setIfInBounds_toArray, List.set_cons_zero, List.set_cons_succ]
    refine wpAnyH_take (i := 2) (v := .int .i64 (en : Int)) rfl (by kernel_rfl) (by kernel_rfl) (by kernel_rfl) (fun _ _ _ h => h) (Or.inl ⟨by rfl, fun w hSw => by go_simp⟩) hS ?_
    simp only [Act.put, List.getElem_toArray, List.getElem_cons_succ, List.getElem_cons_zero, List.setIfInBounds_toArray, List.set_cons_zero, List.set_cons_succ]
    refine wpAnyH_take (i := 3) (v := .bool false) rfl (by kernel_rfl) (by kernel_rfl) (by kernel_rfl) (fun _ _ _ h => h) (Or.inl ⟨by rfl, fun w hSw => by go_simp⟩) hS ?_
    simp only [Act.put, List.getElem_toArray, List.getElem_cons_succ, List.getElem_cons_zero, List.setIfInBounds_toArray, List.set_cons_zero, List.set_cons_succ]
    refine wpAnyH_take (i := 4) (v := .bool false) rfl (by kernel_rfl) (by kernel_rfl) (by kernel_rfl) (fun _ _ _ h => h) (Or.inl ⟨by rfl, fun w hSw => by go_simp⟩) hS ?_
    simp only [Act.put, List.getElem_toArray, List.getElem_cons_succ, List.getElem_cons_zero, List.setIfInBounds_toArray, List.set_cons_zero, List.set_cons_succ]
    refine wpAnyH_take (i := 5) (v := .string s) rfl (by kernel_rfl) (by kernel_rfl) (by kernel_rfl) (fun _ _ _ h => h) (Or.inl ⟨by rfl, fun w hSw => by go_simp⟩) hS ?_
    simp only [Act.put, List.getElem_toArray, List.getElem_cons_succ, List.getElem_cons_zero, List.setIfInBounds_toArray, List.set_cons_zero, List.set_cons_succ]
    refine wpAnyH_take (i := 6) (v := .string A) rfl (by kernel_rfl) (by kernel_rfl) (by kernel_rfl) (fun _ _ _ h => h) (Or.inl ⟨by rfl, fun w hSw => by go_simp⟩) hS ?_
    simp only [Act.put, List.getElem_toArray, List.getElem_cons_succ, List.getElem_cons_zero, List.setIfInBounds_toArray, List.set_cons_zero, List.set_cons_succ]
    refine wpAnyH_take (i := 7) (v := .string s) rfl (by kernel_rfl) (by kernel_rfl) (by kernel_rfl) (fun _ _ _ h => h) (Or.inl ⟨by rfl, fun w hSw => by go_simp⟩) hS ?_
    simp only [Act.put, List.getElem_toArray, List.getElem_cons_succ, List.getElem_cons_zero, List.setIfInBounds_toArray, List.set_cons_zero, List.set_cons_succ]
    refine wpAnyH_take (i := 8) (v := .int .i64 (en : Int)) rfl (by kernel_rfl) (by kernel_rfl) (by kernel_rfl) (fun _ _ _ h => h) (Or.inl ⟨by rfl, fun w hSw => by go_simp⟩) hS ?_
    simp only [Act.put, List.getElem_toArray, List.getElem_cons_succ, List.getElem_cons_zero, List.setIfInBounds_toArray, List.set_cons_zero, List.set_cons_succ]
    refine wpAnyH_take (i := 9) (v := .string B) rfl (by kernel_rfl) (by kernel_rfl) (by kernel_rfl) (fun _ _ _ h => h) (Or.inl ⟨by rfl, fun w hSw => by go_simp⟩) hS ?_
    simp only [Act.put, List.getElem_toArray, List.getElem_cons_succ, List.getElem_cons_zero, List.setIfInBounds_toArray, List.set_cons_zero, List.set_cons_succ]
    refine wpAnyH_take (i := 11) (v := .string s) rfl (by kernel_rfl) (by kernel_rfl) (by kernel_rfl) (fun _ _ _ h => h) (Or.inl ⟨by rfl, fun w hSw => by go_simp⟩) hS ?_
    simp only [Act.put, List.getElem_toArray, List.getElem_cons_succ, List.getElem_cons_zero, List.setIfInBounds_toArray, List.set_cons_zero, List.set_cons_succ]
    refine wpAnyH_take (i := 12) (v := .string Y) rfl (by kernel_rfl) (by kernel_rfl) (by kernel_rfl) (fun _ _ _ h => h) (Or.inl ⟨by rfl, fun w hSw => by go_simp⟩) hS ?_
    simp only [Act.put, List.getElem_toArray, List.getElem_cons_succ, List.getElem_cons_zero, List.setIfInBounds_toArray, List.set_cons_zero, List.set_cons_succ]
    refine wpAnyH_ready (rs := [10]) (by kernel_rfl) (by simp) ?_
    refine AllReadyH.cons rfl (fun K hK => ?_) AllReadyH.nil
    go_simp
    refine ko.mono ?_
    rintro e w3 ⟨rfl, hb3⟩
    have H3 : Hid (Box w3 w.heap.size zeroS 74 ∧ IntsAt w3 (some ⟨wa.heap.size, 0, none⟩) (numsL X) ∧ Below w.heap.size w w3) := ⟨HD1.out.1.keep hb3, HD1.out.2.1.below hb3, below_on HD1.out.2.2 HD1.out.2.2.size hb3⟩
    refine hK.out _ _ (hid H3.out.2.2) (fun hS2 => ?_)
    clear hK K hS HD1 hb3 ko
    by_cases hq : R = Y
    · have HOK : Hid (rdOk (bytesOf s)) := ⟨by rw [bytesOf_length]; exact h27, HM2.out, by rw [HPU.out, bytesOf_length]; exact hps, by rw [HEN.out, bytesOf_length]; exact HE2.out, HEQ.out.1 hq⟩
      subst hq
      refine wpAnyH_take (i := 13) (v := .bool false) rfl (by kernel_rfl) (by kernel_rfl) (by kernel_rfl) (fun _ _ _ h => h) (Or.inl ⟨by rfl, fun w hSw => by go_simp⟩) hS2 ?_
      simp only [Act.put, List.getElem_toArray, List.getElem_cons_succ, List.getElem_cons_zero, List.setIfInBounds_toArray, List.set_cons_zero, List.set_cons_succ]
      refine wpAnyH_take (i := 14) (v := .bool false) rfl (by kernel_rfl) (by kernel_rfl) (by kernel_rfl) (fun _ _ _ h => h) (Or.inl ⟨by rfl, fun w hSw => by go_simp⟩) hS2 ?_
      simp only [Act.put, List.getElem_toArray, List.getElem_cons_succ, List.getElem_cons_zero, List.setIfInBounds_toArray, List.set_cons_zero, List.set_cons_succ]
      refine wpAnyH_done (by kernel_rfl) ?_ _
      obtain ⟨fl, hfl⟩ : ∃ fl, fl = (s[5]'(by omega)).toNat := ⟨_, rfl⟩
      have hflb : (s[5]'(by omega)).toNat < 256 := UInt8.toNat_lt _
      have HFL : Hid ((s[5]'(by omega)).toNat = fl ∧ fl < 256 ∧ u8 (bytesOf s) 5 = fl) := ⟨hfl.symm, by omega, by rw [u8_at s 5 (by omega)]; exact hfl.symm⟩
      obtain ⟨X6, hX6⟩ : ∃ X, X = s.extract 6 14 := ⟨_, rfl⟩
      obtain ⟨X14, hX14⟩ : ∃ X, X = s.extract 14 18 := ⟨_, rfl⟩
      obtain ⟨X18, hX18⟩ : ∃ X, X = s.extract 18 22 := ⟨_, rfl⟩
      have r0 : ∀ w, (Instr.slice 9 (.string s) (some (.int .i64 6)) (some (.int .i64 14)) none).run Tryd.prog w = .ok (.string X6) w := fun w => by rw [hX6]; exact slice_run s 6 14 (by omega) (by omega) w
      have r1 : ∀ w, (Instr.slice 9 (.string s) (some (.int .i64 14)) (some (.int .i64 18)) none).run Tryd.prog w = .ok (.string X14) w := fun w => by rw [hX14]; exact slice_run s 14 18 (by omega) (by omega) w
      have r2 : ∀ w, (Instr.slice 9 (.string s) (some (.int .i64 18)) (some (.int .i64 22)) none).run Tryd.prog w = .ok (.string X18) w := fun w => by rw [hX18]; exact slice_run s 18 22 (by omega) (by omega) w
      have z6 : X6.size = 8 := by rw [hX6, ext_len s 6 14 (by omega) (by omega)]
      have z14 : X14.size = 4 := by rw [hX14, ext_len s 14 18 (by omega) (by omega)]
      have z18 : X18.size = 4 := by rw [hX18, ext_len s 18 22 (by omega) (by omega)]
      obtain ⟨gr, hgr⟩ : ∃ gr, gr = sgI (leN (bytesOf X6)) := ⟨_, rfl⟩
      obtain ⟨se, hse⟩ : ∃ se, se = leN (bytesOf X14) := ⟨_, rfl⟩
      obtain ⟨sq, hsq⟩ : ∃ sq, sq = leN (bytesOf X18) := ⟨_, rfl⟩
      have KG : Hid (∀ wx, Calls Tryd.prog 58 #[.string X6] wx fun e w' => e = .returned (.int .i64 gr) ∧ Below wx.heap.size wx w') := fun wx => by rw [hgr]; exact j_granuleIn X6 z6 wx
      have k14 : ∀ (Z : ByteArray), Z.size = 4 → ∀ wx, Calls Tryd.prog 59 #[.string Z] wx fun e w' => e = .returned (.int .i64 (leN (bytesOf Z) : Nat)) ∧ Below wx.heap.size wx w' := fun Z hZ wx => by
        have k := S2.fromLe_spec Z (by omega) wx
        rw [(from_four Z hZ).1] at k
        exact k.mono (fun e w' h => ⟨h.1, by rw [h.2]; exact Below.refl _ _⟩)
      have KS : Hid (∀ wx, Calls Tryd.prog 59 #[.string X14] wx fun e w' => e = .returned (.int .i64 (se : Int)) ∧ Below wx.heap.size wx w') := fun wx => by rw [hse]; exact k14 X14 z14 wx
      have KQ : Hid (∀ wx, Calls Tryd.prog 59 #[.string X18] wx fun e w' => e = .returned (.int .i64 (sq : Int)) ∧ Below wx.heap.size wx w') := fun wx => by rw [hsq]; exact k14 X18 z18 wx
      have HPL : Hid (rdG (bytesOf s) = ⟨(fl : Int), (se : Int), (sq : Int), gr, numsL X⟩) := by
        show _ = _
        unfold rdG
        rw [HFL.out.2.2, hse, hsq, hgr, hX6, hX14, hX18, bytesOf_ext, bytesOf_ext, bytesOf_ext, HLA.out]
      have HWA : Hid (w.heap.size < wa.heap.size) := H0.out.2.2
      have h5 : (5 : Int) < (s.size : Int) := by omega
      clear hX6 hX14 hX18 z6 z14 z18 hgr hse hsq k14 hfl hflb q0 q1 q2
      go_upto_region 10 with fail
      go_cut [8] from 51 to 64 (fun s8 wx => ∃ g, s8 = .pointer (some ⟨g, 0, none⟩) ∧ Box wx w.heap.size zeroS 74 ∧ IntsAt wx (some ⟨wa.heap.size, 0, none⟩) (numsL X) ∧ Below w.heap.size w wx ∧ Box wx g #[.int .i64 (fl : Int), .int .i64 (se : Int), .int .i64 (sq : Int), .int .i64 gr, .slice (some ⟨wa.heap.size, 0, none⟩) (p - 27) (p - 27)] 49 ∧ w.heap.size < g)
      case first =>
        refine wp_region_held_drew (S := fun wx => Hid (Below w.heap.size w wx)) (by kernel_rfl) (hid (below_on H3.out.2.2 H3.out.2.2.size (below_drew _))) (fun hS => ?_)
        have HD3 : Hid (Box w3.drew w.heap.size zeroS 74 ∧ IntsAt w3.drew (some ⟨wa.heap.size, 0, none⟩) (numsL X) ∧ Below w.heap.size w w3.drew) := ⟨H3.out.1.drew, H3.out.2.1.below (below_drew _), below_on H3.out.2.2 H3.out.2.2.size (below_drew _)⟩
        generalize w3.drew = w4 at *
        refine wpAnyH_take (i := 0) (v := .string s) rfl (by kernel_rfl) (by kernel_rfl) (by kernel_rfl) (fun _ _ _ h => h) (Or.inl ⟨by rfl, fun w hSw => by go_simp⟩) hS ?_
        simp only [Act.put, List.getElem_toArray, List.getElem_cons_succ, List.getElem_cons_zero, List.setIfInBounds_toArray, List.set_cons_zero, List.set_cons_succ]
        refine wpAnyH_take (i := 1) (v := .int .u8 ((s[5]'(by omega)).toNat : Int)) rfl (by kernel_rfl) (by kernel_rfl) (by kernel_rfl) (fun _ _ _ h => h) (Or.inl ⟨by rfl, fun w hSw => by go_simp⟩) hS ?_
        simp only [Act.put, List.getElem_toArray, List.getElem_cons_succ, List.getElem_cons_zero, List.setIfInBounds_toArray, List.set_cons_zero, List.set_cons_succ]
        refine wpAnyH_take (i := 2) (v := .int .i64 (fl : Int)) rfl (by kernel_rfl) (by kernel_rfl) (by kernel_rfl) (fun _ _ _ h => h) (Or.inl ⟨by rfl, fun w hSw => by go_simp <;> (have e := HFL.out; first | omega | (rw [IntKind.wrap_i64]; omega) | (congr 1; rw [IntKind.wrap_i64]; omega))⟩) hS ?_
        simp only [Act.put, List.getElem_toArray, List.getElem_cons_succ, List.getElem_cons_zero, List.setIfInBounds_toArray, List.set_cons_zero, List.set_cons_succ]
        refine wpAnyH_take (i := 3) (v := .string s) rfl (by kernel_rfl) (by kernel_rfl) (by kernel_rfl) (fun _ _ _ h => h) (Or.inl ⟨by rfl, fun w hSw => by go_simp⟩) hS ?_
        simp only [Act.put, List.getElem_toArray, List.getElem_cons_succ, List.getElem_cons_zero, List.setIfInBounds_toArray, List.set_cons_zero, List.set_cons_succ]
        refine wpAnyH_take (i := 4) (v := .string X6) rfl (by kernel_rfl) (by kernel_rfl) (by kernel_rfl) (fun _ _ _ h => h) (Or.inl ⟨by rfl, fun w hSw => by go_simp⟩) hS ?_
        simp only [Act.put, List.getElem_toArray, List.getElem_cons_succ, List.getElem_cons_zero, List.setIfInBounds_toArray, List.set_cons_zero, List.set_cons_succ]
        refine wpAnyH_take (i := 6) (v := .string s) rfl (by kernel_rfl) (by kernel_rfl) (by kernel_rfl) (fun _ _ _ h => h) (Or.inl ⟨by rfl, fun w hSw => by go_simp⟩) hS ?_
        simp only [Act.put, List.getElem_toArray, List.getElem_cons_succ, List.getElem_cons_zero, List.setIfInBounds_toArray, List.set_cons_zero, List.set_cons_succ]
        refine wpAnyH_take (i := 7) (v := .string X14) rfl (by kernel_rfl) (by kernel_rfl) (by kernel_rfl) (fun _ _ _ h => h) (Or.inl ⟨by rfl, fun w hSw => by go_simp⟩) hS ?_
        simp only [Act.put, List.getElem_toArray, List.getElem_cons_succ, List.getElem_cons_zero, List.setIfInBounds_toArray, List.set_cons_zero, List.set_cons_succ]
        refine wpAnyH_take (i := 9) (v := .string s) rfl (by kernel_rfl) (by kernel_rfl) (by kernel_rfl) (fun _ _ _ h => h) (Or.inl ⟨by rfl, fun w hSw => by go_simp⟩) hS ?_
        simp only [Act.put, List.getElem_toArray, List.getElem_cons_succ, List.getElem_cons_zero, List.setIfInBounds_toArray, List.set_cons_zero, List.set_cons_succ]
        refine wpAnyH_take (i := 10) (v := .string X18) rfl (by kernel_rfl) (by kernel_rfl) (by kernel_rfl) (fun _ _ _ h => h) (Or.inl ⟨by rfl, fun w hSw => by go_simp⟩) hS ?_
        simp only [Act.put, List.getElem_toArray, List.getElem_cons_succ, List.getElem_cons_zero, List.setIfInBounds_toArray, List.set_cons_zero, List.set_cons_succ]
        refine wpAnyH_take (i := 12) (v := .slice (some ⟨wa.heap.size, 0, none⟩) (p - 27) (p - 27)) rfl (by kernel_rfl) (by kernel_rfl) (by kernel_rfl) (fun _ _ _ h => h) (Or.inl ⟨by rfl, fun w hSw => by go_simp⟩) hS ?_
        simp only [Act.put, List.getElem_toArray, List.getElem_cons_succ, List.getElem_cons_zero, List.setIfInBounds_toArray, List.set_cons_zero, List.set_cons_succ]
        refine wpAnyH_ready (rs := [5, 14]) (by kernel_rfl) (by simp) ?_
        refine AllReadyH.cons rfl (fun K hK => ?_) (AllReadyH.cons rfl (fun K hK => ?_) AllReadyH.nil)
        · go_simp
          refine (KG.out _).mono ?_
          rintro e w1x ⟨rfl, hb⟩
          have HX1 : Hid (Box w1x w.heap.size zeroS 74 ∧ IntsAt w1x (some ⟨wa.heap.size, 0, none⟩) (numsL X) ∧ Below w.heap.size w w1x) := ⟨HD3.out.1.keep hb, HD3.out.2.1.below hb, below_on HD3.out.2.2 HD3.out.2.2.size hb⟩
          refine hK.out _ _ (hid HX1.out.2.2) (fun hSx1 => ?_)
          clear hK K hb hS HD3
          refine wpAnyH_ready (rs := [8, 14]) (by kernel_rfl) (by simp) ?_
          refine AllReadyH.cons rfl (fun K hK => ?_) (AllReadyH.cons rfl (fun K hK => ?_) AllReadyH.nil)
          · go_simp
            refine (KS.out _).mono ?_
            rintro e w2x ⟨rfl, hb⟩
            have HX2 : Hid (Box w2x w.heap.size zeroS 74 ∧ IntsAt w2x (some ⟨wa.heap.size, 0, none⟩) (numsL X) ∧ Below w.heap.size w w2x) := ⟨HX1.out.1.keep hb, HX1.out.2.1.below hb, below_on HX1.out.2.2 HX1.out.2.2.size hb⟩
            refine hK.out _ _ (hid HX2.out.2.2) (fun hSx2 => ?_)
            clear hK K hb hSx1 HX1
            refine wpAnyH_ready (rs := [11, 14]) (by kernel_rfl) (by simp) ?_
            refine AllReadyH.cons rfl (fun K hK => ?_) (AllReadyH.cons rfl (fun K hK => ?_) AllReadyH.nil)
            · go_simp
              refine (KQ.out _).mono ?_
              rintro e w3x ⟨rfl, hb⟩
              have HX3 : Hid (Box w3x w.heap.size zeroS 74 ∧ IntsAt w3x (some ⟨wa.heap.size, 0, none⟩) (numsL X) ∧ Below w.heap.size w w3x) := ⟨HX2.out.1.keep hb, HX2.out.2.1.below hb, below_on HX2.out.2.2 HX2.out.2.2.size hb⟩
              refine hK.out _ _ (hid HX3.out.2.2) (fun hSx3 => ?_)
              clear hK K hb hSx2 HX2
              refine wpAnyH_take (i := 13) (v := .agg #[.int .i64 (fl : Int), .int .i64 (se : Int), .int .i64 (sq : Int), .int .i64 gr, .slice (some ⟨wa.heap.size, 0, none⟩) (p - 27) (p - 27)]) rfl (by kernel_rfl) (by kernel_rfl) (by kernel_rfl) (fun _ _ _ h => h) (Or.inl ⟨by rfl, fun w hSw => by go_simp⟩) hSx3 ?_
              simp only [Act.put, List.getElem_toArray, List.getElem_cons_succ, List.getElem_cons_zero, List.setIfInBounds_toArray, List.set_cons_zero, List.set_cons_succ]
              refine wpAnyH_ready (rs := [14]) (by kernel_rfl) (by simp) ?_
              refine AllReadyH.cons rfl (fun K hK => ?_) AllReadyH.nil
              go_simp
              have hg0 := HX3.out.1.lt
              have hb := below_new w3x (.cells zeroP 49)
              have HX4 : Hid (Box (w3x.alloc (.cells zeroP 49)) w.heap.size zeroS 74 ∧ IntsAt (w3x.alloc (.cells zeroP 49)) (some ⟨wa.heap.size, 0, none⟩) (numsL X) ∧ Below w.heap.size w (w3x.alloc (.cells zeroP 49)) ∧ Box (w3x.alloc (.cells zeroP 49)) w3x.heap.size zeroP 49 ∧ w.heap.size < w3x.heap.size ∧ (0 < (numsL X).length → wa.heap.size < w3x.heap.size)) := ⟨HX3.out.1.keep hb, HX3.out.2.1.below hb, below_on HX3.out.2.2 HX3.out.2.2.size hb, Box.new _ _ _, hg0, fun h0 => by
                obtain ⟨b, off, eb, hc⟩ := HX3.out.2.1.lies h0
                injection eb with eb
                injection eb with eb
                rw [eb]
                exact lt_cell (hc 0 h0)⟩
              obtain ⟨w4x, hwn⟩ : ∃ w4x, w4x = w3x.alloc (.cells zeroP 49) := ⟨_, rfl⟩
              obtain ⟨g, hg⟩ : ∃ g, g = w3x.heap.size := ⟨_, rfl⟩
              rw [← hwn, ← hg] at HX4
              rw [← hwn, ← hg]
              clear hwn hg hb hg0
              refine hK.out _ _ (hid HX4.out.2.2.1) (fun hSx4 => ?_)
              clear hK K hSx3 HX3
              refine wpAnyH_ready (rs := [15]) (by kernel_rfl) (by simp) ?_
              refine AllReadyH.cons rfl (fun K hK => ?_) AllReadyH.nil
              rw [if_pos (by rfl)]
              refine wp_store_row 49 (.tmp 8) (.tmp 64) rfl g #[.int .i64 (fl : Int), .int .i64 (se : Int), .int .i64 (sq : Int), .int .i64 gr, .slice (some ⟨wa.heap.size, 0, none⟩) (p - 27) (p - 27)] rfl rfl 49 zeroP HX4.out.2.2.2.1.h info_page rfl (by simp [Value.oneCell']) ?_
              have HZ : Hid (Box (w4x.setRow g #[.int .i64 (fl : Int), .int .i64 (se : Int), .int .i64 (sq : Int), .int .i64 gr, .slice (some ⟨wa.heap.size, 0, none⟩) (p - 27) (p - 27)]) w.heap.size zeroS 74 ∧ IntsAt (w4x.setRow g #[.int .i64 (fl : Int), .int .i64 (se : Int), .int .i64 (sq : Int), .int .i64 gr, .slice (some ⟨wa.heap.size, 0, none⟩) (p - 27) (p - 27)]) (some ⟨wa.heap.size, 0, none⟩) (numsL X) ∧ Below w.heap.size w (w4x.setRow g #[.int .i64 (fl : Int), .int .i64 (se : Int), .int .i64 (sq : Int), .int .i64 gr, .slice (some ⟨wa.heap.size, 0, none⟩) (p - 27) (p - 27)]) ∧ Box (w4x.setRow g #[.int .i64 (fl : Int), .int .i64 (se : Int), .int .i64 (sq : Int), .int .i64 gr, .slice (some ⟨wa.heap.size, 0, none⟩) (p - 27) (p - 27)]) g #[.int .i64 (fl : Int), .int .i64 (se : Int), .int .i64 (sq : Int), .int .i64 gr, .slice (some ⟨wa.heap.size, 0, none⟩) (p - 27) (p - 27)] 49 ∧ w.heap.size < g) := ⟨HX4.out.1.other (by have := HX4.out.2.2.2.2.1; omega) _, HX4.out.2.1.keep1 (fun h0 b hb => setRow_other _ _ _ _ (by have hb2 : wa.heap.size = b := Option.some.inj hb; have := HX4.out.2.2.2.2.2 h0; omega)), below_setRow HX4.out.2.2.1 (Nat.le_of_lt HX4.out.2.2.2.2.1) _, HX4.out.2.2.2.1.set _, HX4.out.2.2.2.2.1⟩
              refine hK.out _ _ (hid HZ.out.2.2.1) (fun hS9 => ?_)
              clear hK K hSx4
              refine wpAnyH_done (by kernel_rfl) ?_ _
              go_wp2_with fail
              go_meet
              exact ⟨g, rfl, HZ.out⟩
            · go_simp
              have hg0 := HX2.out.1.lt
              have hb := below_new w2x (.cells zeroP 49)
              have HX5 : Hid (Box (w2x.alloc (.cells zeroP 49)) w.heap.size zeroS 74 ∧ IntsAt (w2x.alloc (.cells zeroP 49)) (some ⟨wa.heap.size, 0, none⟩) (numsL X) ∧ Below w.heap.size w (w2x.alloc (.cells zeroP 49)) ∧ Box (w2x.alloc (.cells zeroP 49)) w2x.heap.size zeroP 49 ∧ w.heap.size < w2x.heap.size ∧ (0 < (numsL X).length → wa.heap.size < w2x.heap.size)) := ⟨HX2.out.1.keep hb, HX2.out.2.1.below hb, below_on HX2.out.2.2 HX2.out.2.2.size hb, Box.new _ _ _, hg0, fun h0 => by
                obtain ⟨b, off, eb, hc⟩ := HX2.out.2.1.lies h0
                injection eb with eb
                injection eb with eb
                rw [eb]
                exact lt_cell (hc 0 h0)⟩
              obtain ⟨w5x, hwn⟩ : ∃ w5x, w5x = w2x.alloc (.cells zeroP 49) := ⟨_, rfl⟩
              obtain ⟨g, hg⟩ : ∃ g, g = w2x.heap.size := ⟨_, rfl⟩
              rw [← hwn, ← hg] at HX5
              rw [← hwn, ← hg]
              clear hwn hg hb hg0
              refine hK.out _ _ (hid HX5.out.2.2.1) (fun hSx5 => ?_)
              clear hK K hSx2 HX2
              refine wpAnyH_ready (rs := [11]) (by kernel_rfl) (by simp) ?_
              refine AllReadyH.cons rfl (fun K hK => ?_) AllReadyH.nil
              go_simp
              refine (KQ.out _).mono ?_
              rintro e w6x ⟨rfl, hb⟩
              have HX6 : Hid (Box w6x w.heap.size zeroS 74 ∧ IntsAt w6x (some ⟨wa.heap.size, 0, none⟩) (numsL X) ∧ Below w.heap.size w w6x ∧ Box w6x g zeroP 49 ∧ w.heap.size < g ∧ (0 < (numsL X).length → wa.heap.size < g)) := ⟨HX5.out.1.keep hb, HX5.out.2.1.below hb, below_on HX5.out.2.2.1 HX5.out.2.2.1.size hb, HX5.out.2.2.2.1.keep hb, HX5.out.2.2.2.2⟩
              refine hK.out _ _ (hid HX6.out.2.2.1) (fun hSx6 => ?_)
              clear hK K hb hSx5 HX5
              refine wpAnyH_take (i := 13) (v := .agg #[.int .i64 (fl : Int), .int .i64 (se : Int), .int .i64 (sq : Int), .int .i64 gr, .slice (some ⟨wa.heap.size, 0, none⟩) (p - 27) (p - 27)]) rfl (by kernel_rfl) (by kernel_rfl) (by kernel_rfl) (fun _ _ _ h => h) (Or.inl ⟨by rfl, fun w hSw => by go_simp⟩) hSx6 ?_
              simp only [Act.put, List.getElem_toArray, List.getElem_cons_succ, List.getElem_cons_zero, List.setIfInBounds_toArray, List.set_cons_zero, List.set_cons_succ]
              refine wpAnyH_ready (rs := [15]) (by kernel_rfl) (by simp) ?_
              refine AllReadyH.cons rfl (fun K hK => ?_) AllReadyH.nil
              rw [if_pos (by rfl)]
              refine wp_store_row 49 (.tmp 8) (.tmp 64) rfl g #[.int .i64 (fl : Int), .int .i64 (se : Int), .int .i64 (sq : Int), .int .i64 gr, .slice (some ⟨wa.heap.size, 0, none⟩) (p - 27) (p - 27)] rfl rfl 49 zeroP HX6.out.2.2.2.1.h info_page rfl (by simp [Value.oneCell']) ?_
              have HZ : Hid (Box (w6x.setRow g #[.int .i64 (fl : Int), .int .i64 (se : Int), .int .i64 (sq : Int), .int .i64 gr, .slice (some ⟨wa.heap.size, 0, none⟩) (p - 27) (p - 27)]) w.heap.size zeroS 74 ∧ IntsAt (w6x.setRow g #[.int .i64 (fl : Int), .int .i64 (se : Int), .int .i64 (sq : Int), .int .i64 gr, .slice (some ⟨wa.heap.size, 0, none⟩) (p - 27) (p - 27)]) (some ⟨wa.heap.size, 0, none⟩) (numsL X) ∧ Below w.heap.size w (w6x.setRow g #[.int .i64 (fl : Int), .int .i64 (se : Int), .int .i64 (sq : Int), .int .i64 gr, .slice (some ⟨wa.heap.size, 0, none⟩) (p - 27) (p - 27)]) ∧ Box (w6x.setRow g #[.int .i64 (fl : Int), .int .i64 (se : Int), .int .i64 (sq : Int), .int .i64 gr, .slice (some ⟨wa.heap.size, 0, none⟩) (p - 27) (p - 27)]) g #[.int .i64 (fl : Int), .int .i64 (se : Int), .int .i64 (sq : Int), .int .i64 gr, .slice (some ⟨wa.heap.size, 0, none⟩) (p - 27) (p - 27)] 49 ∧ w.heap.size < g) := ⟨HX6.out.1.other (by have := HX6.out.2.2.2.2.1; omega) _, HX6.out.2.1.keep1 (fun h0 b hb => setRow_other _ _ _ _ (by have hb2 : wa.heap.size = b := Option.some.inj hb; have := HX6.out.2.2.2.2.2 h0; omega)), below_setRow HX6.out.2.2.1 (Nat.le_of_lt HX6.out.2.2.2.2.1) _, HX6.out.2.2.2.1.set _, HX6.out.2.2.2.2.1⟩
              refine hK.out _ _ (hid HZ.out.2.2.1) (fun hS9 => ?_)
              clear hK K hSx6
              refine wpAnyH_done (by kernel_rfl) ?_ _
              go_wp2_with fail
              go_meet
              exact ⟨g, rfl, HZ.out⟩
          · go_simp
            have hg0 := HX1.out.1.lt
            have hb := below_new w1x (.cells zeroP 49)
            have HX7 : Hid (Box (w1x.alloc (.cells zeroP 49)) w.heap.size zeroS 74 ∧ IntsAt (w1x.alloc (.cells zeroP 49)) (some ⟨wa.heap.size, 0, none⟩) (numsL X) ∧ Below w.heap.size w (w1x.alloc (.cells zeroP 49)) ∧ Box (w1x.alloc (.cells zeroP 49)) w1x.heap.size zeroP 49 ∧ w.heap.size < w1x.heap.size ∧ (0 < (numsL X).length → wa.heap.size < w1x.heap.size)) := ⟨HX1.out.1.keep hb, HX1.out.2.1.below hb, below_on HX1.out.2.2 HX1.out.2.2.size hb, Box.new _ _ _, hg0, fun h0 => by
              obtain ⟨b, off, eb, hc⟩ := HX1.out.2.1.lies h0
              injection eb with eb
              injection eb with eb
              rw [eb]
              exact lt_cell (hc 0 h0)⟩
            obtain ⟨w7x, hwn⟩ : ∃ w7x, w7x = w1x.alloc (.cells zeroP 49) := ⟨_, rfl⟩
            obtain ⟨g, hg⟩ : ∃ g, g = w1x.heap.size := ⟨_, rfl⟩
            rw [← hwn, ← hg] at HX7
            rw [← hwn, ← hg]
            clear hwn hg hb hg0
            refine hK.out _ _ (hid HX7.out.2.2.1) (fun hSx7 => ?_)
            clear hK K hSx1 HX1
            refine wpAnyH_ready (rs := [8]) (by kernel_rfl) (by simp) ?_
            refine AllReadyH.cons rfl (fun K hK => ?_) AllReadyH.nil
            go_simp
            refine (KS.out _).mono ?_
            rintro e w8x ⟨rfl, hb⟩
            have HX8 : Hid (Box w8x w.heap.size zeroS 74 ∧ IntsAt w8x (some ⟨wa.heap.size, 0, none⟩) (numsL X) ∧ Below w.heap.size w w8x ∧ Box w8x g zeroP 49 ∧ w.heap.size < g ∧ (0 < (numsL X).length → wa.heap.size < g)) := ⟨HX7.out.1.keep hb, HX7.out.2.1.below hb, below_on HX7.out.2.2.1 HX7.out.2.2.1.size hb, HX7.out.2.2.2.1.keep hb, HX7.out.2.2.2.2⟩
            refine hK.out _ _ (hid HX8.out.2.2.1) (fun hSx8 => ?_)
            clear hK K hb hSx7 HX7
            refine wpAnyH_ready (rs := [11]) (by kernel_rfl) (by simp) ?_
            refine AllReadyH.cons rfl (fun K hK => ?_) AllReadyH.nil
            go_simp
            refine (KQ.out _).mono ?_
            rintro e w9x ⟨rfl, hb⟩
            have HX9 : Hid (Box w9x w.heap.size zeroS 74 ∧ IntsAt w9x (some ⟨wa.heap.size, 0, none⟩) (numsL X) ∧ Below w.heap.size w w9x ∧ Box w9x g zeroP 49 ∧ w.heap.size < g ∧ (0 < (numsL X).length → wa.heap.size < g)) := ⟨HX8.out.1.keep hb, HX8.out.2.1.below hb, below_on HX8.out.2.2.1 HX8.out.2.2.1.size hb, HX8.out.2.2.2.1.keep hb, HX8.out.2.2.2.2⟩
            refine hK.out _ _ (hid HX9.out.2.2.1) (fun hSx9 => ?_)
            clear hK K hb hSx8 HX8
            refine wpAnyH_take (i := 13) (v := .agg #[.int .i64 (fl : Int), .int .i64 (se : Int), .int .i64 (sq : Int), .int .i64 gr, .slice (some ⟨wa.heap.size, 0, none⟩) (p - 27) (p - 27)]) rfl (by kernel_rfl) (by kernel_rfl) (by kernel_rfl) (fun _ _ _ h => h) (Or.inl ⟨by rfl, fun w hSw => by go_simp⟩) hSx9 ?_
            simp only [Act.put, List.getElem_toArray, List.getElem_cons_succ, List.getElem_cons_zero, List.setIfInBounds_toArray, List.set_cons_zero, List.set_cons_succ]
            refine wpAnyH_ready (rs := [15]) (by kernel_rfl) (by simp) ?_
            refine AllReadyH.cons rfl (fun K hK => ?_) AllReadyH.nil
            rw [if_pos (by rfl)]
            refine wp_store_row 49 (.tmp 8) (.tmp 64) rfl g #[.int .i64 (fl : Int), .int .i64 (se : Int), .int .i64 (sq : Int), .int .i64 gr, .slice (some ⟨wa.heap.size, 0, none⟩) (p - 27) (p - 27)] rfl rfl 49 zeroP HX9.out.2.2.2.1.h info_page rfl (by simp [Value.oneCell']) ?_
            have HZ : Hid (Box (w9x.setRow g #[.int .i64 (fl : Int), .int .i64 (se : Int), .int .i64 (sq : Int), .int .i64 gr, .slice (some ⟨wa.heap.size, 0, none⟩) (p - 27) (p - 27)]) w.heap.size zeroS 74 ∧ IntsAt (w9x.setRow g #[.int .i64 (fl : Int), .int .i64 (se : Int), .int .i64 (sq : Int), .int .i64 gr, .slice (some ⟨wa.heap.size, 0, none⟩) (p - 27) (p - 27)]) (some ⟨wa.heap.size, 0, none⟩) (numsL X) ∧ Below w.heap.size w (w9x.setRow g #[.int .i64 (fl : Int), .int .i64 (se : Int), .int .i64 (sq : Int), .int .i64 gr, .slice (some ⟨wa.heap.size, 0, none⟩) (p - 27) (p - 27)]) ∧ Box (w9x.setRow g #[.int .i64 (fl : Int), .int .i64 (se : Int), .int .i64 (sq : Int), .int .i64 gr, .slice (some ⟨wa.heap.size, 0, none⟩) (p - 27) (p - 27)]) g #[.int .i64 (fl : Int), .int .i64 (se : Int), .int .i64 (sq : Int), .int .i64 gr, .slice (some ⟨wa.heap.size, 0, none⟩) (p - 27) (p - 27)] 49 ∧ w.heap.size < g) := ⟨HX9.out.1.other (by have := HX9.out.2.2.2.2.1; omega) _, HX9.out.2.1.keep1 (fun h0 b hb => setRow_other _ _ _ _ (by have hb2 : wa.heap.size = b := Option.some.inj hb; have := HX9.out.2.2.2.2.2 h0; omega)), below_setRow HX9.out.2.2.1 (Nat.le_of_lt HX9.out.2.2.2.2.1) _, HX9.out.2.2.2.1.set _, HX9.out.2.2.2.2.1⟩
            refine hK.out _ _ (hid HZ.out.2.2.1) (fun hS9 => ?_)
            clear hK K hSx9
            refine wpAnyH_done (by kernel_rfl) ?_ _
            go_wp2_with fail
            go_meet
            exact ⟨g, rfl, HZ.out⟩
        · go_simp
          have hg0 := HD3.out.1.lt
          have hb := below_new w4 (.cells zeroP 49)
          have HX10 : Hid (Box (w4.alloc (.cells zeroP 49)) w.heap.size zeroS 74 ∧ IntsAt (w4.alloc (.cells zeroP 49)) (some ⟨wa.heap.size, 0, none⟩) (numsL X) ∧ Below w.heap.size w (w4.alloc (.cells zeroP 49)) ∧ Box (w4.alloc (.cells zeroP 49)) w4.heap.size zeroP 49 ∧ w.heap.size < w4.heap.size ∧ (0 < (numsL X).length → wa.heap.size < w4.heap.size)) := ⟨HD3.out.1.keep hb, HD3.out.2.1.below hb, below_on HD3.out.2.2 HD3.out.2.2.size hb, Box.new _ _ _, hg0, fun h0 => by
            obtain ⟨b, off, eb, hc⟩ := HD3.out.2.1.lies h0
            injection eb with eb
            injection eb with eb
            rw [eb]
            exact lt_cell (hc 0 h0)⟩
          obtain ⟨w10x, hwn⟩ : ∃ w10x, w10x = w4.alloc (.cells zeroP 49) := ⟨_, rfl⟩
          obtain ⟨g, hg⟩ : ∃ g, g = w4.heap.size := ⟨_, rfl⟩
          rw [← hwn, ← hg] at HX10
          rw [← hwn, ← hg]
          clear hwn hg hb hg0
          refine hK.out _ _ (hid HX10.out.2.2.1) (fun hSx10 => ?_)
          clear hK K hS HD3
          refine wpAnyH_ready (rs := [5]) (by kernel_rfl) (by simp) ?_
          refine AllReadyH.cons rfl (fun K hK => ?_) AllReadyH.nil
          go_simp
          refine (KG.out _).mono ?_
          rintro e w11x ⟨rfl, hb⟩
          have HX11 : Hid (Box w11x w.heap.size zeroS 74 ∧ IntsAt w11x (some ⟨wa.heap.size, 0, none⟩) (numsL X) ∧ Below w.heap.size w w11x ∧ Box w11x g zeroP 49 ∧ w.heap.size < g ∧ (0 < (numsL X).length → wa.heap.size < g)) := ⟨HX10.out.1.keep hb, HX10.out.2.1.below hb, below_on HX10.out.2.2.1 HX10.out.2.2.1.size hb, HX10.out.2.2.2.1.keep hb, HX10.out.2.2.2.2⟩
          refine hK.out _ _ (hid HX11.out.2.2.1) (fun hSx11 => ?_)
          clear hK K hb hSx10 HX10
          refine wpAnyH_ready (rs := [8]) (by kernel_rfl) (by simp) ?_
          refine AllReadyH.cons rfl (fun K hK => ?_) AllReadyH.nil
          go_simp
          refine (KS.out _).mono ?_
          rintro e w12x ⟨rfl, hb⟩
          have HX12 : Hid (Box w12x w.heap.size zeroS 74 ∧ IntsAt w12x (some ⟨wa.heap.size, 0, none⟩) (numsL X) ∧ Below w.heap.size w w12x ∧ Box w12x g zeroP 49 ∧ w.heap.size < g ∧ (0 < (numsL X).length → wa.heap.size < g)) := ⟨HX11.out.1.keep hb, HX11.out.2.1.below hb, below_on HX11.out.2.2.1 HX11.out.2.2.1.size hb, HX11.out.2.2.2.1.keep hb, HX11.out.2.2.2.2⟩
          refine hK.out _ _ (hid HX12.out.2.2.1) (fun hSx12 => ?_)
          clear hK K hb hSx11 HX11
          refine wpAnyH_ready (rs := [11]) (by kernel_rfl) (by simp) ?_
          refine AllReadyH.cons rfl (fun K hK => ?_) AllReadyH.nil
          go_simp
          refine (KQ.out _).mono ?_
          rintro e w13x ⟨rfl, hb⟩
          have HX13 : Hid (Box w13x w.heap.size zeroS 74 ∧ IntsAt w13x (some ⟨wa.heap.size, 0, none⟩) (numsL X) ∧ Below w.heap.size w w13x ∧ Box w13x g zeroP 49 ∧ w.heap.size < g ∧ (0 < (numsL X).length → wa.heap.size < g)) := ⟨HX12.out.1.keep hb, HX12.out.2.1.below hb, below_on HX12.out.2.2.1 HX12.out.2.2.1.size hb, HX12.out.2.2.2.1.keep hb, HX12.out.2.2.2.2⟩
          refine hK.out _ _ (hid HX13.out.2.2.1) (fun hSx13 => ?_)
          clear hK K hb hSx12 HX12
          refine wpAnyH_take (i := 13) (v := .agg #[.int .i64 (fl : Int), .int .i64 (se : Int), .int .i64 (sq : Int), .int .i64 gr, .slice (some ⟨wa.heap.size, 0, none⟩) (p - 27) (p - 27)]) rfl (by kernel_rfl) (by kernel_rfl) (by kernel_rfl) (fun _ _ _ h => h) (Or.inl ⟨by rfl, fun w hSw => by go_simp⟩) hSx13 ?_
          simp only [Act.put, List.getElem_toArray, List.getElem_cons_succ, List.getElem_cons_zero, List.setIfInBounds_toArray, List.set_cons_zero, List.set_cons_succ]
          refine wpAnyH_ready (rs := [15]) (by kernel_rfl) (by simp) ?_
          refine AllReadyH.cons rfl (fun K hK => ?_) AllReadyH.nil
          rw [if_pos (by rfl)]
          refine wp_store_row 49 (.tmp 8) (.tmp 64) rfl g #[.int .i64 (fl : Int), .int .i64 (se : Int), .int .i64 (sq : Int), .int .i64 gr, .slice (some ⟨wa.heap.size, 0, none⟩) (p - 27) (p - 27)] rfl rfl 49 zeroP HX13.out.2.2.2.1.h info_page rfl (by simp [Value.oneCell']) ?_
          have HZ : Hid (Box (w13x.setRow g #[.int .i64 (fl : Int), .int .i64 (se : Int), .int .i64 (sq : Int), .int .i64 gr, .slice (some ⟨wa.heap.size, 0, none⟩) (p - 27) (p - 27)]) w.heap.size zeroS 74 ∧ IntsAt (w13x.setRow g #[.int .i64 (fl : Int), .int .i64 (se : Int), .int .i64 (sq : Int), .int .i64 gr, .slice (some ⟨wa.heap.size, 0, none⟩) (p - 27) (p - 27)]) (some ⟨wa.heap.size, 0, none⟩) (numsL X) ∧ Below w.heap.size w (w13x.setRow g #[.int .i64 (fl : Int), .int .i64 (se : Int), .int .i64 (sq : Int), .int .i64 gr, .slice (some ⟨wa.heap.size, 0, none⟩) (p - 27) (p - 27)]) ∧ Box (w13x.setRow g #[.int .i64 (fl : Int), .int .i64 (se : Int), .int .i64 (sq : Int), .int .i64 gr, .slice (some ⟨wa.heap.size, 0, none⟩) (p - 27) (p - 27)]) g #[.int .i64 (fl : Int), .int .i64 (se : Int), .int .i64 (sq : Int), .int .i64 gr, .slice (some ⟨wa.heap.size, 0, none⟩) (p - 27) (p - 27)] 49 ∧ w.heap.size < g) := ⟨HX13.out.1.other (by have := HX13.out.2.2.2.2.1; omega) _, HX13.out.2.1.keep1 (fun h0 b hb => setRow_other _ _ _ _ (by have hb2 : wa.heap.size = b := Option.some.inj hb; have := HX13.out.2.2.2.2.2 h0; omega)), below_setRow HX13.out.2.2.1 (Nat.le_of_lt HX13.out.2.2.2.2.1) _, HX13.out.2.2.2.1.set _, HX13.out.2.2.2.2.1⟩
          refine hK.out _ _ (hid HZ.out.2.2.1) (fun hS9 => ?_)
          clear hK K hSx13
          refine wpAnyH_done (by kernel_rfl) ?_ _
          go_wp2_with fail
          go_meet
          exact ⟨g, rfl, HZ.out⟩
      case rest =>
        obtain ⟨g, rfl, hc1, hc2, hc3, hc4, hc5⟩ := hcut
        have HC : Hid (Box wc w.heap.size zeroS 74 ∧ IntsAt wc (some ⟨wa.heap.size, 0, none⟩) (numsL X) ∧ Below w.heap.size w wc ∧ Box wc g #[.int .i64 (fl : Int), .int .i64 (se : Int), .int .i64 (sq : Int), .int .i64 gr, .slice (some ⟨wa.heap.size, 0, none⟩) (p - 27) (p - 27)] 49 ∧ w.heap.size < g) := ⟨hc1, hc2, hc3, hc4, hc5⟩
        have hsl5 : ∀ w, (Instr.slice 9 (.string s) (some (.int .i64 (p : Int))) (some (.int .i64 (en : Int))) none).run Tryd.prog w = .ok (.string (s.extract p en)) w := slice_run s p en hpe HE2.out
        have HRS : Hid (rdP s = ⟨⟨(fl : Int), (se : Int), (sq : Int), gr, numsL X⟩, s.extract p en⟩) := by
          show _ = _
          unfold rdP
          rw [HPL.out, HPU.out, HEN.out]
        have HLX : Hid ((numsL X).length = p - 27) := by show _ = _; rw [numsL_len]; exact HSZ.out
        clear hc1 hc2 hc3 hc4 hc5 H3 r0 r1 r2 h5
        go_upto_region 11 with fail
        refine wp_region_held_drew (S := fun wx => Hid (Box wx g #[.int .i64 (fl : Int), .int .i64 (se : Int), .int .i64 (sq : Int), .int .i64 gr, .slice (some ⟨wa.heap.size, 0, none⟩) (p - 27) (p - 27)] 49)) (by kernel_rfl) (hid HC.out.2.2.2.1.drew) (fun hS => ?_)
        refine wpAnyH_take (i := 0) (v := .agg #[.int .i64 (fl : Int), .int .i64 (se : Int), .int .i64 (sq : Int), .int .i64 gr, .slice (some ⟨wa.heap.size, 0, none⟩) (p - 27) (p - 27)]) rfl (by kernel_rfl) (by kernel_rfl) (by kernel_rfl) (fun _ _ _ h => h) (Or.inl ⟨by rfl, fun w hSw => by have b0 := hSw.out.c 0 _ rfl; have b1 := hSw.out.c 1 _ rfl; have b2 := hSw.out.c 2 _ rfl; have b3 := hSw.out.c 3 _ rfl; have b4 := hSw.out.c 4 _ rfl; go_simp⟩) hS ?_
        simp only [Act.put, List.getElem_toArray, List.getElem_cons_succ, List.getElem_cons_zero, List.setIfInBounds_toArray, List.set_cons_zero, List.set_cons_succ]
        refine wpAnyH_take (i := 1) (v := .string s) rfl (by kernel_rfl) (by kernel_rfl) (by kernel_rfl) (fun _ _ _ h => h) (Or.inl ⟨by rfl, fun w hSw => by go_simp⟩) hS ?_
        simp only [Act.put, List.getElem_toArray, List.getElem_cons_succ, List.getElem_cons_zero, List.setIfInBounds_toArray, List.set_cons_zero, List.set_cons_succ]
        refine wpAnyH_take (i := 2) (v := .int .i64 (p : Int)) rfl (by kernel_rfl) (by kernel_rfl) (by kernel_rfl) (fun _ _ _ h => h) (Or.inl ⟨by rfl, fun w hSw => by go_simp⟩) hS ?_
        simp only [Act.put, List.getElem_toArray, List.getElem_cons_succ, List.getElem_cons_zero, List.setIfInBounds_toArray, List.set_cons_zero, List.set_cons_succ]
        refine wpAnyH_take (i := 3) (v := .int .i64 (en : Int)) rfl (by kernel_rfl) (by kernel_rfl) (by kernel_rfl) (fun _ _ _ h => h) (Or.inl ⟨by rfl, fun w hSw => by go_simp⟩) hS ?_
        simp only [Act.put, List.getElem_toArray, List.getElem_cons_succ, List.getElem_cons_zero, List.setIfInBounds_toArray, List.set_cons_zero, List.set_cons_succ]
        refine wpAnyH_take (i := 4) (v := .string (s.extract p en)) rfl (by kernel_rfl) (by kernel_rfl) (by kernel_rfl) (fun _ _ _ h => h) (Or.inl ⟨by rfl, fun w hSw => by go_simp⟩) hS ?_
        simp only [Act.put, List.getElem_toArray, List.getElem_cons_succ, List.getElem_cons_zero, List.setIfInBounds_toArray, List.set_cons_zero, List.set_cons_succ]
        refine wpAnyH_take (i := 5) (v := .agg #[.int .i64 (fl : Int), .int .i64 (se : Int), .int .i64 (sq : Int), .int .i64 gr, .slice (some ⟨wa.heap.size, 0, none⟩) (p - 27) (p - 27), .string (s.extract p en)]) rfl (by kernel_rfl) (by kernel_rfl) (by kernel_rfl) (fun _ _ _ h => h) (Or.inl ⟨by rfl, fun w hSw => by go_simp⟩) hS ?_
        simp only [Act.put, List.getElem_toArray, List.getElem_cons_succ, List.getElem_cons_zero, List.setIfInBounds_toArray, List.set_cons_zero, List.set_cons_succ]
        refine wpAnyH_take (i := 6) (v := .int .i64 (en : Int)) rfl (by kernel_rfl) (by kernel_rfl) (by kernel_rfl) (fun _ _ _ h => h) (Or.inl ⟨by rfl, fun w hSw => by go_simp⟩) hS ?_
        simp only [Act.put, List.getElem_toArray, List.getElem_cons_succ, List.getElem_cons_zero, List.setIfInBounds_toArray, List.set_cons_zero, List.set_cons_succ]
        refine wpAnyH_ready (rs := [7]) (by kernel_rfl) (by simp) ?_
        refine AllReadyH.cons rfl (fun K hK => ?_) AllReadyH.nil
        rw [if_pos (by rfl)]
        refine wp_store_row 74 (.tmp 2) (.tmp 70) rfl w.heap.size #[.int .i64 (fl : Int), .int .i64 (se : Int), .int .i64 (sq : Int), .int .i64 gr, .slice (some ⟨wa.heap.size, 0, none⟩) (p - 27) (p - 27), .string (s.extract p en)] rfl rfl 74 zeroS HC.out.1.drew.h info_sheet rfl (by simp [Value.oneCell']) ?_
        have HF : Hid (Box (wc.drew.setRow w.heap.size #[.int .i64 (fl : Int), .int .i64 (se : Int), .int .i64 (sq : Int), .int .i64 gr, .slice (some ⟨wa.heap.size, 0, none⟩) (p - 27) (p - 27), .string (s.extract p en)]) w.heap.size #[.int .i64 (fl : Int), .int .i64 (se : Int), .int .i64 (sq : Int), .int .i64 gr, .slice (some ⟨wa.heap.size, 0, none⟩) (p - 27) (p - 27), .string (s.extract p en)] 74 ∧ IntsAt (wc.drew.setRow w.heap.size #[.int .i64 (fl : Int), .int .i64 (se : Int), .int .i64 (sq : Int), .int .i64 gr, .slice (some ⟨wa.heap.size, 0, none⟩) (p - 27) (p - 27), .string (s.extract p en)]) (some ⟨wa.heap.size, 0, none⟩) (numsL X) ∧ Below w.heap.size w (wc.drew.setRow w.heap.size #[.int .i64 (fl : Int), .int .i64 (se : Int), .int .i64 (sq : Int), .int .i64 gr, .slice (some ⟨wa.heap.size, 0, none⟩) (p - 27) (p - 27), .string (s.extract p en)])) := ⟨HC.out.1.drew.set _, (HC.out.2.1.below (below_drew _)).keep1 (fun h0 b hb => setRow_other _ _ _ _ (by have hb2 : wa.heap.size = b := Option.some.inj hb; have := HWA.out; omega)), below_setRow (below_on HC.out.2.2.1 HC.out.2.2.1.size (below_drew _)) (Nat.le_refl _) _⟩
        have HG9 : Hid (Box (wc.drew.setRow w.heap.size #[.int .i64 (fl : Int), .int .i64 (se : Int), .int .i64 (sq : Int), .int .i64 gr, .slice (some ⟨wa.heap.size, 0, none⟩) (p - 27) (p - 27), .string (s.extract p en)]) g #[.int .i64 (fl : Int), .int .i64 (se : Int), .int .i64 (sq : Int), .int .i64 gr, .slice (some ⟨wa.heap.size, 0, none⟩) (p - 27) (p - 27)] 49) := HC.out.2.2.2.1.drew.other (by have := HC.out.2.2.2.2; omega) _
        generalize wc.drew.setRow w.heap.size #[.int .i64 (fl : Int), .int .i64 (se : Int), .int .i64 (sq : Int), .int .i64 gr, .slice (some ⟨wa.heap.size, 0, none⟩) (p - 27) (p - 27), .string (s.extract p en)] = wf at *
        refine hK.out _ _ HG9 (fun hS9 => ?_)
        clear hK K hS HC
        refine wpAnyH_take (i := 8) (v := .int .i64 (en : Int)) rfl (by kernel_rfl) (by kernel_rfl) (by kernel_rfl) (fun _ _ _ h => h) (Or.inl ⟨by rfl, fun w hSw => by go_simp⟩) hS9 ?_
        simp only [Act.put, List.getElem_toArray, List.getElem_cons_succ, List.getElem_cons_zero, List.setIfInBounds_toArray, List.set_cons_zero, List.set_cons_succ]
        refine wpAnyH_take (i := 9) (v := .int .i64 0) rfl (by kernel_rfl) (by kernel_rfl) (by kernel_rfl) (fun _ _ _ h => h) (Or.inl ⟨by rfl, fun w hSw => by go_simp⟩) hS9 ?_
        simp only [Act.put, List.getElem_toArray, List.getElem_cons_succ, List.getElem_cons_zero, List.setIfInBounds_toArray, List.set_cons_zero, List.set_cons_succ]
        refine wpAnyH_done (by kernel_rfl) ?_ _
        go_wp2_with fail
        refine bodyPost_ret (v := .tuple #[.agg #[.int .i64 (fl : Int), .int .i64 (se : Int), .int .i64 (sq : Int), .int .i64 gr, .slice (some ⟨wa.heap.size, 0, none⟩) (p - 27) (p - 27), .string (s.extract p en)], .int .i64 (en : Int), .int .i64 0]) ?_ rfl ⟨⟨fun _ => ⟨some ⟨wa.heap.size, 0, none⟩, p - 27, by rw [HRS.out, HEN.out, show shV ⟨⟨(fl : Int), (se : Int), (sq : Int), gr, numsL X⟩, s.extract p en⟩ (some ⟨wa.heap.size, 0, none⟩) (p - 27) = .agg #[.int .i64 (fl : Int), .int .i64 (se : Int), .int .i64 (sq : Int), .int .i64 gr, .slice (some ⟨wa.heap.size, 0, none⟩) (p - 27) (p - 27), .string (s.extract p en)] from by rw [← HLX.out]], by rw [HRS.out]; exact ⟨HF.out.2.1, by rw [← HLX.out]; exact Nat.le_refl _, fun q => by cases q⟩, fun b hb => by have hb2 : wa.heap.size = b := Option.some.inj hb; have := HWA.out; omega⟩, fun q => absurd HOK.out q⟩, HF.out.2.2⟩
        rw [results_three rfl]
        have hld := run_loadVar_row (P := Tryd.prog) wf w.heap.size 74 74 #[.int .i64 (fl : Int), .int .i64 (se : Int), .int .i64 (sq : Int), .int .i64 gr, .slice (some ⟨wa.heap.size, 0, none⟩) (p - 27) (p - 27), .string (s.extract p en)] (0, 0) _ HF.out.1.h Tryd.underlying74 rfl info_sheet
        simp [asAddr, Result.andThen, hld]
    · have HNO : Hid (¬ rdOk (bytesOf s)) := fun q => hq (HEQ.out.2 q.2.2.2.2)
      have hne : (R.toList == Y.toList) = false := by
        rw [beq_eq_false_iff_ne]
        intro e
        apply hq
        apply bytes_inj
        unfold bytesOf
        rw [← ByteArray.toList_eq, ← ByteArray.toList_eq, e]
      refine wpAnyH_take (i := 13) (v := .bool true) rfl (by kernel_rfl) (by kernel_rfl) (by kernel_rfl) (fun _ _ _ h => h) (Or.inl ⟨by rfl, fun w hSw => by go_simp⟩) hS2 ?_
      simp only [Act.put, List.getElem_toArray, List.getElem_cons_succ, List.getElem_cons_zero, List.setIfInBounds_toArray, List.set_cons_zero, List.set_cons_succ]
      refine wpAnyH_take (i := 14) (v := .bool true) rfl (by kernel_rfl) (by kernel_rfl) (by kernel_rfl) (fun _ _ _ h => h) (Or.inl ⟨by rfl, fun w hSw => by go_simp⟩) hS2 ?_
      simp only [Act.put, List.getElem_toArray, List.getElem_cons_succ, List.getElem_cons_zero, List.setIfInBounds_toArray, List.set_cons_zero, List.set_cons_succ]
      refine wpAnyH_done (by kernel_rfl) ?_ _
      have HBB : Hid (Below w.heap.size w (w3.setRow w.heap.size zeroS)) := below_setRow H3.out.2.2 (Nat.le_refl _) _
      go_wp2_with (refine wpList_store_row rfl 74 (.tmp 2) (.tmp 50) rfl w.heap.size zeroS rfl rfl 74 zeroS H3.out.1.h info_sheet rfl (by simp [Value.oneCell']) ?_)
      refine bodyPost_ret (v := .tuple #[.agg zeroS, .int .i64 0, .int .i64 2]) ?_ rfl ⟨⟨fun q => absurd q HNO.out, fun _ => rfl⟩, HBB.out⟩
      rw [results_three rfl]
      have hld := run_loadVar_row (P := Tryd.prog) (w3.setRow w.heap.size zeroS) w.heap.size 74 74 zeroS (0, 0) _ (H3.out.1.set zeroS).h Tryd.underlying74 rfl info_sheet
      simp [asAddr, Result.andThen, hld]

theorem j_read (s : ByteArray) (hs : s.size ≤ 140737488351232) (w : World) (hL : S3.RulesAt w) : Calls Tryd.prog 37 #[.string s] w fun e w' => RdE w.heap.size s e w' ∧ Below w.heap.size w w' := by
  by_cases h : 27 ≤ s.size ∧ seg (bytesOf s) 0 5 = markL ∧ 27 + u8 (bytesOf s) 26 ≤ s.size
  · refine read_main s hs w hL h.1 ?_ h.2.2
    cases hm : ((s.extract 0 5).toList == [79, 103, 103, 83, 0])
    · exact absurd (by rw [bytesOf_ext, h.2.1]; rfl) (toL_no _ _ hm)
    · rfl
  · exact read_early s hs w h

end Go.Proofs.YtjkamannjgcmiaaDoor
