/- Own text: the program's ofType. -/
import Derived.Test.YtkhdkmdiblomhaaG27x
namespace Go.Proofs.Ytkhdkmdiblomhaa
open Go.RowKit
set_option linter.unusedSimpArgs false
set_option linter.unusedVariables false

def ofT (t b : Int) : Option (Int × Int) := match kindN t with
  | none => none
  | some (k, o) => if o ≤ b then some (k, o) else none
theorem ofT_0 (b : Int) (hb : 1 ≤ b) : ofT 0 b = some (0, 0) := by unfold ofT; show (if (0 : Int) ≤ b then some ((0 : Int), (0 : Int)) else none) = _; rw [if_pos (by omega)]
theorem ofT_1 (b : Int) (hb : 1 ≤ b) : ofT 1 b = some (1, 0) := by unfold ofT; show (if (0 : Int) ≤ b then some ((1 : Int), (0 : Int)) else none) = _; rw [if_pos (by omega)]
theorem ofT_2 (t b : Int) (h : 8 ≤ t ∧ t ≤ 12 ∧ t - 8 ≤ b) : ofT t b = some (2, t - 8) := by
  unfold ofT kindN
  rw [if_neg (by omega), if_neg (by omega), if_pos (by omega)]
  show (if t - 8 ≤ b then some ((2 : Int), t - 8) else none) = _
  rw [if_pos h.2.2]
theorem ofT_2n (t b : Int) (h0 : 2 ≤ t) (h1 : t ≤ 31) (h : ¬ (8 ≤ t ∧ t ≤ 12 ∧ t - 8 ≤ b)) : ofT t b = none := by
  unfold ofT kindN
  rw [if_neg (by omega), if_neg (by omega)]
  by_cases hh : 8 ≤ t ∧ t ≤ 12
  · rw [if_pos hh]
    show (if t - 8 ≤ b then some ((2 : Int), t - 8) else none) = _
    rw [if_neg (by omega)]
  · rw [if_neg hh, if_neg (by omega)]
theorem ofT_3 (t b : Int) (h : 32 ≤ t ∧ t ≤ 63 ∧ t - 31 ≤ b) : ofT t b = some (3, t - 31) := by
  unfold ofT kindN
  rw [if_neg (by omega), if_neg (by omega), if_neg (by omega), if_pos (by omega)]
  show (if t - 31 ≤ b then some ((3 : Int), t - 31) else none) = _
  rw [if_pos h.2.2]
theorem ofT_3n (t b : Int) (h0 : 32 ≤ t) (h1 : t ≤ 63) (h : ¬ t - 31 ≤ b) : ofT t b = none := by
  unfold ofT kindN
  rw [if_neg (by omega), if_neg (by omega), if_neg (by omega), if_pos (by omega)]
  show (if t - 31 ≤ b then some ((3 : Int), t - 31) else none) = _
  rw [if_neg h]
set_option maxRecDepth 20000 in
set_option maxHeartbeats 3200000 in
theorem s_oftype (t b : Int) (ht0 : 0 ≤ t) (ht1 : t ≤ 63) (hb : 1 ≤ b) (w : World) : Calls Try.prog 42 #[.int .i64 t, .int .i64 b] w fun e w' => Below w.heap.size w w' ∧ OPost (ofT t b) (∃ k o, e = .returned (.tuple #[subV ⟨k, o, 0, 0, 0, [], R0⟩ none 0 none 0 none 0, .bool false])) (fun p => e = .returned (.tuple #[subV ⟨p.1, p.2, 0, 0, 0, [], R0⟩ none 0 none 0 none 0, .bool true])) := by
  by_cases h0 : t = 0
  · subst h0
    go_enter Try.func42, Try.ntmps42
    go_wp2_with fail
    generalize hwf : World.alloc _ _ = wf
    have hH : wf.heap[w.heap.size]? = some (.cells (subC ⟨0, 0, 0, 0, 0, [], R0⟩ none 0 none 0 none 0) 26 (0, 0)) := by rw [← hwf]; exact heap_alloc_new _ _
    have hS : Below w.heap.size w wf := by rw [← hwf]; exact (Below.refl _ _).alloc (Nat.le_refl _) _
    refine bodyPost_ret (v := .tuple #[.agg (subC ⟨0, 0, 0, 0, 0, [], R0⟩ none 0 none 0 none 0), .bool true]) ?_ rfl ⟨hS, OPost.some_ (ofT_0 b hb) rfl⟩
    rw [results_two rfl]
    have hld := run_loadVar_row (P := Try.prog) (wf) (w.heap.size) 26 26 (subC ⟨0, 0, 0, 0, 0, [], R0⟩ none 0 none 0 none 0) (0, 0) _ hH Try.underlying26 rfl info_Sub
    simp [asAddr, Result.andThen, hld]
  by_cases h1 : t = 1
  · subst h1
    go_enter Try.func42, Try.ntmps42
    go_wp2_with fail
    generalize hwf : World.alloc _ _ = wf
    have hH : wf.heap[w.heap.size]? = some (.cells (subC ⟨1, 0, 0, 0, 0, [], R0⟩ none 0 none 0 none 0) 26 (0, 0)) := by rw [← hwf]; exact heap_alloc_new _ _
    have hS : Below w.heap.size w wf := by rw [← hwf]; exact (Below.refl _ _).alloc (Nat.le_refl _) _
    refine bodyPost_ret (v := .tuple #[.agg (subC ⟨1, 0, 0, 0, 0, [], R0⟩ none 0 none 0 none 0), .bool true]) ?_ rfl ⟨hS, OPost.some_ (ofT_1 b hb) rfl⟩
    rw [results_two rfl]
    have hld := run_loadVar_row (P := Try.prog) (wf) (w.heap.size) 26 26 (subC ⟨1, 0, 0, 0, 0, [], R0⟩ none 0 none 0 none 0) (0, 0) _ hH Try.underlying26 rfl info_Sub
    simp [asAddr, Result.andThen, hld]
  have hb0 : (t == 0) = false := by rw [beq_eq_false_iff_ne]; exact h0
  have hb1 : (t == 1) = false := by rw [beq_eq_false_iff_ne]; exact h1
  by_cases h31 : t ≤ 31
  · by_cases hg : 8 ≤ t ∧ t ≤ 12 ∧ t - 8 ≤ b
    · have HO : ordOk 2 (t - 8) b := by omega
      have KO : Hid (∀ wx, Calls Try.prog 51 #[subV ⟨2, t - 8, 0, 0, 0, [], R0⟩ none 0 none 0 none 0, .int .i64 b] wx fun e w' => e = .returned (.bool true) ∧ Below wx.heap.size wx w') := fun wx => s_order ⟨2, t - 8, 0, 0, 0, [], R0⟩ none 0 none 0 none 0 b true (tt_iff HO) wx
      have HT : Hid (∀ wy, wy = ((w.alloc (.cells (subC ⟨0, 0, 0, 0, 0, [], R0⟩ none 0 none 0 none 0) 26)).alloc (.cells (subC ⟨2, t - 8, 0, 0, 0, [], R0⟩ none 0 none 0 none 0) 26)).drew → wy.heap[w.heap.size]? = some (.cells (subC ⟨0, 0, 0, 0, 0, [], R0⟩ none 0 none 0 none 0) 26 (0, 0)) ∧ wy.heap[w.heap.size + 1]? = some (.cells (subC ⟨2, t - 8, 0, 0, 0, [], R0⟩ none 0 none 0 none 0) 26 (0, 0)) ∧ Below w.heap.size w wy) := fun wy hy => by
        rw [hy]
        refine ⟨heap_two _ _ _, ?_, (((Below.refl _ _).alloc (Nat.le_refl _) _).alloc (by simp) _).trans ⟨rfl, rfl, rfl, Nat.le_refl _, fun _ _ => rfl⟩⟩
        have hh := heap_alloc_new (w.alloc (.cells (subC ⟨0, 0, 0, 0, 0, [], R0⟩ none 0 none 0 none 0) 26)) (.cells (subC ⟨2, t - 8, 0, 0, 0, [], R0⟩ none 0 none 0 none 0) 26)
        rw [show (w.alloc (.cells (subC ⟨0, 0, 0, 0, 0, [], R0⟩ none 0 none 0 none 0) 26)).heap.size = w.heap.size + 1 from by simp] at hh
        exact hh
      clear HO
      go_enter Try.func42, Try.ntmps42
      go_wp2_with fail
      generalize hwd : World.alloc _ _ = wd
      have HD := HT.out wd.drew (by rw [← hwd]; rfl)
      have HD : Hid (_ ∧ _ ∧ _) := HD
      clear HT hwd
      refine wp_region_held_drew (S := fun wx => wx.heap[w.heap.size + 1]? = some (.cells (subC ⟨2, t - 8, 0, 0, 0, [], R0⟩ none 0 none 0 none 0) 26 (0, 0))) (by kernel_rfl) HD.out.2.1 (fun hS => ?_)
      refine wpAnyH_take (i := 0) (v := subV ⟨2, t - 8, 0, 0, 0, [], R0⟩ none 0 none 0 none 0) rfl (by kernel_rfl) (by kernel_rfl) (by kernel_rfl) (fun _ _ _ h => h) (Or.inl ⟨by rfl, fun w hSw => by obtain ⟨x0, x1, x2, x3, x4, x5, x6, x7, x8, x9⟩ := sub_cells hSw; go_simp⟩) hS ?_
      simp only [Act.put, List.getElem_toArray, List.getElem_cons_succ, List.getElem_cons_zero, List.setIfInBounds_toArray, List.set_cons_zero, List.set_cons_succ]
      refine wpAnyH_take (i := 1) (v := subV ⟨2, t - 8, 0, 0, 0, [], R0⟩ none 0 none 0 none 0) rfl (by kernel_rfl) (by kernel_rfl) (by kernel_rfl) (fun _ _ _ h => h) (Or.inl ⟨by rfl, fun w hSw => by obtain ⟨x0, x1, x2, x3, x4, x5, x6, x7, x8, x9⟩ := sub_cells hSw; go_simp⟩) hS ?_
      simp only [Act.put, List.getElem_toArray, List.getElem_cons_succ, List.getElem_cons_zero, List.setIfInBounds_toArray, List.set_cons_zero, List.set_cons_succ]
      refine wpAnyH_take (i := 2) (v := .int .i64 b) rfl (by kernel_rfl) (by kernel_rfl) (by kernel_rfl) (fun _ _ _ h => h) (Or.inl ⟨by rfl, fun w hSw => by go_simp⟩) hS ?_
      simp only [Act.put, List.getElem_toArray, List.getElem_cons_succ, List.getElem_cons_zero, List.setIfInBounds_toArray, List.set_cons_zero, List.set_cons_succ]
      refine wpAnyH_ready (rs := [3]) (by kernel_rfl) (by simp) ?_
      refine AllReadyH.cons rfl (fun K hK => ?_) AllReadyH.nil
      go_simp
      refine (KO.out _).mono ?_
      rintro e w4 ⟨rfl, hb4⟩
      have hz4 : w4.heap[w.heap.size]? = some (.cells (subC ⟨0, 0, 0, 0, 0, [], R0⟩ none 0 none 0 none 0) 26 (0, 0)) := by rw [hb4.block _ (lt_of_block HD.out.1)]; exact HD.out.1
      have hs4 : w4.heap[w.heap.size + 1]? = some (.cells (subC ⟨2, t - 8, 0, 0, 0, [], R0⟩ none 0 none 0 none 0) 26 (0, 0)) := by rw [hb4.block _ (lt_of_block HD.out.2.1)]; exact HD.out.2.1
      have HB4 : Hid (Below w.heap.size w w4) := HD.out.2.2.trans (hb4.mono HD.out.2.2.size)
      refine hK.out _ _ hs4 (fun hS4 => ?_)
      clear hK K KO hb4
      try simp only [Act.put, List.getElem_toArray, List.getElem_cons_succ, List.getElem_cons_zero, List.setIfInBounds_toArray, List.set_cons_zero, List.set_cons_succ]
      obtain ⟨x0, x1, x2, x3, x4, x5, x6, x7, x8, x9⟩ := sub_cells hz4
      have fu0 := row_frozen hz4 0
      have fu1 := row_frozen hz4 1
      have fu2 := row_frozen hz4 2
      have fu3 := row_frozen hz4 3
      have fu4 := row_frozen hz4 4
      have fu5 := row_frozen hz4 5
      have fu6 := row_frozen hz4 6
      have fu7 := row_frozen hz4 7
      have fu8 := row_frozen hz4 8
      have fu9 := row_frozen hz4 9
      refine wpAnyH_ready (rs := [4]) (by kernel_rfl) (by simp) ?_
      refine AllReadyH.cons rfl (fun K hK => ?_) AllReadyH.nil
      go_simp
      generalize hwf : World.setCell _ _ _ = wf at *
      have hH : wf.heap[w.heap.size]? = some (.cells (subC ⟨2, t - 8, 0, 0, 0, [], R0⟩ none 0 none 0 none 0) 26 (0, 0)) := by rw [← hwf]; exact set10_a _ _ _ _ _ _ _ _ _ _ _ hz4
      have hN : wf.heap[w.heap.size + 1]? = some (.cells (subC ⟨2, t - 8, 0, 0, 0, [], R0⟩ none 0 none 0 none 0) 26 (0, 0)) := by rw [← hwf, set10_d _ _ _ _ _ _ _ _ _ _ _ _ (by omega)]; exact hs4
      have HB5 : Hid (Below w.heap.size w wf) := by rw [← hwf]; exact set10_b _ _ _ _ _ _ _ _ _ _ _ _ (Nat.le_refl _) HB4.out
      refine hK.out _ _ hN (fun hS5 => ?_)
      clear hK K hwf hz4 hs4 HB4 x0 x1 x2 x3 x4 x5 x6 x7 x8 x9 fu0 fu1 fu2 fu3 fu4 fu5 fu6 fu7 fu8 fu9
      try simp only [Act.put, List.getElem_toArray, List.getElem_cons_succ, List.getElem_cons_zero, List.setIfInBounds_toArray, List.set_cons_zero, List.set_cons_succ]
      refine wpAnyH_take (i := 5) (v := .bool true) rfl (by kernel_rfl) (by kernel_rfl) (by kernel_rfl) (fun _ _ _ h => h) (Or.inl ⟨by rfl, fun w hSw => by go_simp⟩) hS5 ?_
      simp only [Act.put, List.getElem_toArray, List.getElem_cons_succ, List.getElem_cons_zero, List.setIfInBounds_toArray, List.set_cons_zero, List.set_cons_succ]
      refine wpAnyH_done (by kernel_rfl) ?_ _
      go_wp2_with fail
      refine bodyPost_ret (v := .tuple #[.agg (subC ⟨2, t - 8, 0, 0, 0, [], R0⟩ none 0 none 0 none 0), .bool true]) ?_ rfl ⟨HB5.out, OPost.some_ (ofT_2 t b hg) rfl⟩
      rw [results_two rfl]
      have hld := run_loadVar_row (P := Try.prog) (wf) (w.heap.size) 26 26 (subC ⟨2, t - 8, 0, 0, 0, [], R0⟩ none 0 none 0 none 0) (0, 0) _ hH Try.underlying26 rfl info_Sub
      simp [asAddr, Result.andThen, hld]
    · have HO : ¬ ordOk 2 (t - 8) b := by omega
      have KO : Hid (∀ wx, Calls Try.prog 51 #[subV ⟨2, t - 8, 0, 0, 0, [], R0⟩ none 0 none 0 none 0, .int .i64 b] wx fun e w' => e = .returned (.bool false) ∧ Below wx.heap.size wx w') := fun wx => s_order ⟨2, t - 8, 0, 0, 0, [], R0⟩ none 0 none 0 none 0 b false (ff_iff HO) wx
      have HT : Hid (∀ wy, wy = ((w.alloc (.cells (subC ⟨0, 0, 0, 0, 0, [], R0⟩ none 0 none 0 none 0) 26)).alloc (.cells (subC ⟨2, t - 8, 0, 0, 0, [], R0⟩ none 0 none 0 none 0) 26)).drew → wy.heap[w.heap.size]? = some (.cells (subC ⟨0, 0, 0, 0, 0, [], R0⟩ none 0 none 0 none 0) 26 (0, 0)) ∧ wy.heap[w.heap.size + 1]? = some (.cells (subC ⟨2, t - 8, 0, 0, 0, [], R0⟩ none 0 none 0 none 0) 26 (0, 0)) ∧ Below w.heap.size w wy) := fun wy hy => by
        rw [hy]
        refine ⟨heap_two _ _ _, ?_, (((Below.refl _ _).alloc (Nat.le_refl _) _).alloc (by simp) _).trans ⟨rfl, rfl, rfl, Nat.le_refl _, fun _ _ => rfl⟩⟩
        have hh := heap_alloc_new (w.alloc (.cells (subC ⟨0, 0, 0, 0, 0, [], R0⟩ none 0 none 0 none 0) 26)) (.cells (subC ⟨2, t - 8, 0, 0, 0, [], R0⟩ none 0 none 0 none 0) 26)
        rw [show (w.alloc (.cells (subC ⟨0, 0, 0, 0, 0, [], R0⟩ none 0 none 0 none 0) 26)).heap.size = w.heap.size + 1 from by simp] at hh
        exact hh
      clear HO
      go_enter Try.func42, Try.ntmps42
      go_wp2_with fail
      generalize hwd : World.alloc _ _ = wd
      have HD := HT.out wd.drew (by rw [← hwd]; rfl)
      have HD : Hid (_ ∧ _ ∧ _) := HD
      clear HT hwd
      refine wp_region_held_drew (S := fun wx => wx.heap[w.heap.size + 1]? = some (.cells (subC ⟨2, t - 8, 0, 0, 0, [], R0⟩ none 0 none 0 none 0) 26 (0, 0))) (by kernel_rfl) HD.out.2.1 (fun hS => ?_)
      refine wpAnyH_take (i := 0) (v := subV ⟨2, t - 8, 0, 0, 0, [], R0⟩ none 0 none 0 none 0) rfl (by kernel_rfl) (by kernel_rfl) (by kernel_rfl) (fun _ _ _ h => h) (Or.inl ⟨by rfl, fun w hSw => by obtain ⟨x0, x1, x2, x3, x4, x5, x6, x7, x8, x9⟩ := sub_cells hSw; go_simp⟩) hS ?_
      simp only [Act.put, List.getElem_toArray, List.getElem_cons_succ, List.getElem_cons_zero, List.setIfInBounds_toArray, List.set_cons_zero, List.set_cons_succ]
      refine wpAnyH_take (i := 1) (v := subV ⟨2, t - 8, 0, 0, 0, [], R0⟩ none 0 none 0 none 0) rfl (by kernel_rfl) (by kernel_rfl) (by kernel_rfl) (fun _ _ _ h => h) (Or.inl ⟨by rfl, fun w hSw => by obtain ⟨x0, x1, x2, x3, x4, x5, x6, x7, x8, x9⟩ := sub_cells hSw; go_simp⟩) hS ?_
      simp only [Act.put, List.getElem_toArray, List.getElem_cons_succ, List.getElem_cons_zero, List.setIfInBounds_toArray, List.set_cons_zero, List.set_cons_succ]
      refine wpAnyH_take (i := 2) (v := .int .i64 b) rfl (by kernel_rfl) (by kernel_rfl) (by kernel_rfl) (fun _ _ _ h => h) (Or.inl ⟨by rfl, fun w hSw => by go_simp⟩) hS ?_
      simp only [Act.put, List.getElem_toArray, List.getElem_cons_succ, List.getElem_cons_zero, List.setIfInBounds_toArray, List.set_cons_zero, List.set_cons_succ]
      refine wpAnyH_ready (rs := [3]) (by kernel_rfl) (by simp) ?_
      refine AllReadyH.cons rfl (fun K hK => ?_) AllReadyH.nil
      go_simp
      refine (KO.out _).mono ?_
      rintro e w4 ⟨rfl, hb4⟩
      have hz4 : w4.heap[w.heap.size]? = some (.cells (subC ⟨0, 0, 0, 0, 0, [], R0⟩ none 0 none 0 none 0) 26 (0, 0)) := by rw [hb4.block _ (lt_of_block HD.out.1)]; exact HD.out.1
      have hs4 : w4.heap[w.heap.size + 1]? = some (.cells (subC ⟨2, t - 8, 0, 0, 0, [], R0⟩ none 0 none 0 none 0) 26 (0, 0)) := by rw [hb4.block _ (lt_of_block HD.out.2.1)]; exact HD.out.2.1
      have HB4 : Hid (Below w.heap.size w w4) := HD.out.2.2.trans (hb4.mono HD.out.2.2.size)
      refine hK.out _ _ hs4 (fun hS4 => ?_)
      clear hK K KO hb4
      try simp only [Act.put, List.getElem_toArray, List.getElem_cons_succ, List.getElem_cons_zero, List.setIfInBounds_toArray, List.set_cons_zero, List.set_cons_succ]
      obtain ⟨x0, x1, x2, x3, x4, x5, x6, x7, x8, x9⟩ := sub_cells hz4
      have fu0 := row_frozen hz4 0
      have fu1 := row_frozen hz4 1
      have fu2 := row_frozen hz4 2
      have fu3 := row_frozen hz4 3
      have fu4 := row_frozen hz4 4
      have fu5 := row_frozen hz4 5
      have fu6 := row_frozen hz4 6
      have fu7 := row_frozen hz4 7
      have fu8 := row_frozen hz4 8
      have fu9 := row_frozen hz4 9
      refine wpAnyH_ready (rs := [4]) (by kernel_rfl) (by simp) ?_
      refine AllReadyH.cons rfl (fun K hK => ?_) AllReadyH.nil
      go_simp
      generalize hwf : World.setCell _ _ _ = wf at *
      have hH : wf.heap[w.heap.size]? = some (.cells (subC ⟨2, t - 8, 0, 0, 0, [], R0⟩ none 0 none 0 none 0) 26 (0, 0)) := by rw [← hwf]; exact set10_a _ _ _ _ _ _ _ _ _ _ _ hz4
      have hN : wf.heap[w.heap.size + 1]? = some (.cells (subC ⟨2, t - 8, 0, 0, 0, [], R0⟩ none 0 none 0 none 0) 26 (0, 0)) := by rw [← hwf, set10_d _ _ _ _ _ _ _ _ _ _ _ _ (by omega)]; exact hs4
      have HB5 : Hid (Below w.heap.size w wf) := by rw [← hwf]; exact set10_b _ _ _ _ _ _ _ _ _ _ _ _ (Nat.le_refl _) HB4.out
      refine hK.out _ _ hN (fun hS5 => ?_)
      clear hK K hwf hz4 hs4 HB4 x0 x1 x2 x3 x4 x5 x6 x7 x8 x9 fu0 fu1 fu2 fu3 fu4 fu5 fu6 fu7 fu8 fu9
      try simp only [Act.put, List.getElem_toArray, List.getElem_cons_succ, List.getElem_cons_zero, List.setIfInBounds_toArray, List.set_cons_zero, List.set_cons_succ]
      refine wpAnyH_take (i := 5) (v := .bool false) rfl (by kernel_rfl) (by kernel_rfl) (by kernel_rfl) (fun _ _ _ h => h) (Or.inl ⟨by rfl, fun w hSw => by go_simp⟩) hS5 ?_
      simp only [Act.put, List.getElem_toArray, List.getElem_cons_succ, List.getElem_cons_zero, List.setIfInBounds_toArray, List.set_cons_zero, List.set_cons_succ]
      refine wpAnyH_done (by kernel_rfl) ?_ _
      go_wp2_with fail
      refine bodyPost_ret (v := .tuple #[.agg (subC ⟨2, t - 8, 0, 0, 0, [], R0⟩ none 0 none 0 none 0), .bool false]) ?_ rfl ⟨HB5.out, OPost.none_ (ofT_2n t b (by omega) h31 (by omega)) ⟨_, _, rfl⟩⟩
      rw [results_two rfl]
      have hld := run_loadVar_row (P := Try.prog) (wf) (w.heap.size) 26 26 (subC ⟨2, t - 8, 0, 0, 0, [], R0⟩ none 0 none 0 none 0) (0, 0) _ hH Try.underlying26 rfl info_Sub
      simp [asAddr, Result.andThen, hld]
  · by_cases hg : t - 31 ≤ b
    · have HO : ordOk 3 (t - 31) b := by omega
      have KO : Hid (∀ wx, Calls Try.prog 51 #[subV ⟨3, t - 31, 0, 0, 0, [], R0⟩ none 0 none 0 none 0, .int .i64 b] wx fun e w' => e = .returned (.bool true) ∧ Below wx.heap.size wx w') := fun wx => s_order ⟨3, t - 31, 0, 0, 0, [], R0⟩ none 0 none 0 none 0 b true (tt_iff HO) wx
      have HT : Hid (∀ wy, wy = ((w.alloc (.cells (subC ⟨0, 0, 0, 0, 0, [], R0⟩ none 0 none 0 none 0) 26)).alloc (.cells (subC ⟨3, t - 31, 0, 0, 0, [], R0⟩ none 0 none 0 none 0) 26)).drew → wy.heap[w.heap.size]? = some (.cells (subC ⟨0, 0, 0, 0, 0, [], R0⟩ none 0 none 0 none 0) 26 (0, 0)) ∧ wy.heap[w.heap.size + 1]? = some (.cells (subC ⟨3, t - 31, 0, 0, 0, [], R0⟩ none 0 none 0 none 0) 26 (0, 0)) ∧ Below w.heap.size w wy) := fun wy hy => by
        rw [hy]
        refine ⟨heap_two _ _ _, ?_, (((Below.refl _ _).alloc (Nat.le_refl _) _).alloc (by simp) _).trans ⟨rfl, rfl, rfl, Nat.le_refl _, fun _ _ => rfl⟩⟩
        have hh := heap_alloc_new (w.alloc (.cells (subC ⟨0, 0, 0, 0, 0, [], R0⟩ none 0 none 0 none 0) 26)) (.cells (subC ⟨3, t - 31, 0, 0, 0, [], R0⟩ none 0 none 0 none 0) 26)
        rw [show (w.alloc (.cells (subC ⟨0, 0, 0, 0, 0, [], R0⟩ none 0 none 0 none 0) 26)).heap.size = w.heap.size + 1 from by simp] at hh
        exact hh
      clear HO
      go_enter Try.func42, Try.ntmps42
      go_wp2_with fail
      generalize hwd : World.alloc _ _ = wd
      have HD := HT.out wd.drew (by rw [← hwd]; rfl)
      have HD : Hid (_ ∧ _ ∧ _) := HD
      clear HT hwd
      refine wp_region_held_drew (S := fun wx => wx.heap[w.heap.size + 1]? = some (.cells (subC ⟨3, t - 31, 0, 0, 0, [], R0⟩ none 0 none 0 none 0) 26 (0, 0))) (by kernel_rfl) HD.out.2.1 (fun hS => ?_)
      refine wpAnyH_take (i := 0) (v := subV ⟨3, t - 31, 0, 0, 0, [], R0⟩ none 0 none 0 none 0) rfl (by kernel_rfl) (by kernel_rfl) (by kernel_rfl) (fun _ _ _ h => h) (Or.inl ⟨by rfl, fun w hSw => by obtain ⟨x0, x1, x2, x3, x4, x5, x6, x7, x8, x9⟩ := sub_cells hSw; go_simp⟩) hS ?_
      simp only [Act.put, List.getElem_toArray, List.getElem_cons_succ, List.getElem_cons_zero, List.setIfInBounds_toArray, List.set_cons_zero, List.set_cons_succ]
      refine wpAnyH_take (i := 1) (v := subV ⟨3, t - 31, 0, 0, 0, [], R0⟩ none 0 none 0 none 0) rfl (by kernel_rfl) (by kernel_rfl) (by kernel_rfl) (fun _ _ _ h => h) (Or.inl ⟨by rfl, fun w hSw => by obtain ⟨x0, x1, x2, x3, x4, x5, x6, x7, x8, x9⟩ := sub_cells hSw; go_simp⟩) hS ?_
      simp only [Act.put, List.getElem_toArray, List.getElem_cons_succ, List.getElem_cons_zero, List.setIfInBounds_toArray, List.set_cons_zero, List.set_cons_succ]
      refine wpAnyH_take (i := 2) (v := .int .i64 b) rfl (by kernel_rfl) (by kernel_rfl) (by kernel_rfl) (fun _ _ _ h => h) (Or.inl ⟨by rfl, fun w hSw => by go_simp⟩) hS ?_
      simp only [Act.put, List.getElem_toArray, List.getElem_cons_succ, List.getElem_cons_zero, List.setIfInBounds_toArray, List.set_cons_zero, List.set_cons_succ]
      refine wpAnyH_ready (rs := [3]) (by kernel_rfl) (by simp) ?_
      refine AllReadyH.cons rfl (fun K hK => ?_) AllReadyH.nil
      go_simp
      refine (KO.out _).mono ?_
      rintro e w4 ⟨rfl, hb4⟩
      have hz4 : w4.heap[w.heap.size]? = some (.cells (subC ⟨0, 0, 0, 0, 0, [], R0⟩ none 0 none 0 none 0) 26 (0, 0)) := by rw [hb4.block _ (lt_of_block HD.out.1)]; exact HD.out.1
      have hs4 : w4.heap[w.heap.size + 1]? = some (.cells (subC ⟨3, t - 31, 0, 0, 0, [], R0⟩ none 0 none 0 none 0) 26 (0, 0)) := by rw [hb4.block _ (lt_of_block HD.out.2.1)]; exact HD.out.2.1
      have HB4 : Hid (Below w.heap.size w w4) := HD.out.2.2.trans (hb4.mono HD.out.2.2.size)
      refine hK.out _ _ hs4 (fun hS4 => ?_)
      clear hK K KO hb4
      try simp only [Act.put, List.getElem_toArray, List.getElem_cons_succ, List.getElem_cons_zero, List.setIfInBounds_toArray, List.set_cons_zero, List.set_cons_succ]
      obtain ⟨x0, x1, x2, x3, x4, x5, x6, x7, x8, x9⟩ := sub_cells hz4
      have fu0 := row_frozen hz4 0
      have fu1 := row_frozen hz4 1
      have fu2 := row_frozen hz4 2
      have fu3 := row_frozen hz4 3
      have fu4 := row_frozen hz4 4
      have fu5 := row_frozen hz4 5
      have fu6 := row_frozen hz4 6
      have fu7 := row_frozen hz4 7
      have fu8 := row_frozen hz4 8
      have fu9 := row_frozen hz4 9
      refine wpAnyH_ready (rs := [4]) (by kernel_rfl) (by simp) ?_
      refine AllReadyH.cons rfl (fun K hK => ?_) AllReadyH.nil
      go_simp
      generalize hwf : World.setCell _ _ _ = wf at *
      have hH : wf.heap[w.heap.size]? = some (.cells (subC ⟨3, t - 31, 0, 0, 0, [], R0⟩ none 0 none 0 none 0) 26 (0, 0)) := by rw [← hwf]; exact set10_a _ _ _ _ _ _ _ _ _ _ _ hz4
      have hN : wf.heap[w.heap.size + 1]? = some (.cells (subC ⟨3, t - 31, 0, 0, 0, [], R0⟩ none 0 none 0 none 0) 26 (0, 0)) := by rw [← hwf, set10_d _ _ _ _ _ _ _ _ _ _ _ _ (by omega)]; exact hs4
      have HB5 : Hid (Below w.heap.size w wf) := by rw [← hwf]; exact set10_b _ _ _ _ _ _ _ _ _ _ _ _ (Nat.le_refl _) HB4.out
      refine hK.out _ _ hN (fun hS5 => ?_)
      clear hK K hwf hz4 hs4 HB4 x0 x1 x2 x3 x4 x5 x6 x7 x8 x9 fu0 fu1 fu2 fu3 fu4 fu5 fu6 fu7 fu8 fu9
      try simp only [Act.put, List.getElem_toArray, List.getElem_cons_succ, List.getElem_cons_zero, List.setIfInBounds_toArray, List.set_cons_zero, List.set_cons_succ]
      refine wpAnyH_take (i := 5) (v := .bool true) rfl (by kernel_rfl) (by kernel_rfl) (by kernel_rfl) (fun _ _ _ h => h) (Or.inl ⟨by rfl, fun w hSw => by go_simp⟩) hS5 ?_
      simp only [Act.put, List.getElem_toArray, List.getElem_cons_succ, List.getElem_cons_zero, List.setIfInBounds_toArray, List.set_cons_zero, List.set_cons_succ]
      refine wpAnyH_done (by kernel_rfl) ?_ _
      go_wp2_with fail
      refine bodyPost_ret (v := .tuple #[.agg (subC ⟨3, t - 31, 0, 0, 0, [], R0⟩ none 0 none 0 none 0), .bool true]) ?_ rfl ⟨HB5.out, OPost.some_ (ofT_3 t b (by omega)) rfl⟩
      rw [results_two rfl]
      have hld := run_loadVar_row (P := Try.prog) (wf) (w.heap.size) 26 26 (subC ⟨3, t - 31, 0, 0, 0, [], R0⟩ none 0 none 0 none 0) (0, 0) _ hH Try.underlying26 rfl info_Sub
      simp [asAddr, Result.andThen, hld]
    · have HO : ¬ ordOk 3 (t - 31) b := by omega
      have KO : Hid (∀ wx, Calls Try.prog 51 #[subV ⟨3, t - 31, 0, 0, 0, [], R0⟩ none 0 none 0 none 0, .int .i64 b] wx fun e w' => e = .returned (.bool false) ∧ Below wx.heap.size wx w') := fun wx => s_order ⟨3, t - 31, 0, 0, 0, [], R0⟩ none 0 none 0 none 0 b false (ff_iff HO) wx
      have HT : Hid (∀ wy, wy = ((w.alloc (.cells (subC ⟨0, 0, 0, 0, 0, [], R0⟩ none 0 none 0 none 0) 26)).alloc (.cells (subC ⟨3, t - 31, 0, 0, 0, [], R0⟩ none 0 none 0 none 0) 26)).drew → wy.heap[w.heap.size]? = some (.cells (subC ⟨0, 0, 0, 0, 0, [], R0⟩ none 0 none 0 none 0) 26 (0, 0)) ∧ wy.heap[w.heap.size + 1]? = some (.cells (subC ⟨3, t - 31, 0, 0, 0, [], R0⟩ none 0 none 0 none 0) 26 (0, 0)) ∧ Below w.heap.size w wy) := fun wy hy => by
        rw [hy]
        refine ⟨heap_two _ _ _, ?_, (((Below.refl _ _).alloc (Nat.le_refl _) _).alloc (by simp) _).trans ⟨rfl, rfl, rfl, Nat.le_refl _, fun _ _ => rfl⟩⟩
        have hh := heap_alloc_new (w.alloc (.cells (subC ⟨0, 0, 0, 0, 0, [], R0⟩ none 0 none 0 none 0) 26)) (.cells (subC ⟨3, t - 31, 0, 0, 0, [], R0⟩ none 0 none 0 none 0) 26)
        rw [show (w.alloc (.cells (subC ⟨0, 0, 0, 0, 0, [], R0⟩ none 0 none 0 none 0) 26)).heap.size = w.heap.size + 1 from by simp] at hh
        exact hh
      clear HO
      go_enter Try.func42, Try.ntmps42
      go_wp2_with fail
      generalize hwd : World.alloc _ _ = wd
      have HD := HT.out wd.drew (by rw [← hwd]; rfl)
      have HD : Hid (_ ∧ _ ∧ _) := HD
      clear HT hwd
      refine wp_region_held_drew (S := fun wx => wx.heap[w.heap.size + 1]? = some (.cells (subC ⟨3, t - 31, 0, 0, 0, [], R0⟩ none 0 none 0 none 0) 26 (0, 0))) (by kernel_rfl) HD.out.2.1 (fun hS => ?_)
      refine wpAnyH_take (i := 0) (v := subV ⟨3, t - 31, 0, 0, 0, [], R0⟩ none 0 none 0 none 0) rfl (by kernel_rfl) (by kernel_rfl) (by kernel_rfl) (fun _ _ _ h => h) (Or.inl ⟨by rfl, fun w hSw => by obtain ⟨x0, x1, x2, x3, x4, x5, x6, x7, x8, x9⟩ := sub_cells hSw; go_simp⟩) hS ?_
      simp only [Act.put, List.getElem_toArray, List.getElem_cons_succ, List.getElem_cons_zero, List.setIfInBounds_toArray, List.set_cons_zero, List.set_cons_succ]
      refine wpAnyH_take (i := 1) (v := subV ⟨3, t - 31, 0, 0, 0, [], R0⟩ none 0 none 0 none 0) rfl (by kernel_rfl) (by kernel_rfl) (by kernel_rfl) (fun _ _ _ h => h) (Or.inl ⟨by rfl, fun w hSw => by obtain ⟨x0, x1, x2, x3, x4, x5, x6, x7, x8, x9⟩ := sub_cells hSw; go_simp⟩) hS ?_
      simp only [Act.put, List.getElem_toArray, List.getElem_cons_succ, List.getElem_cons_zero, List.setIfInBounds_toArray, List.set_cons_zero, List.set_cons_succ]
      refine wpAnyH_take (i := 2) (v := .int .i64 b) rfl (by kernel_rfl) (by kernel_rfl) (by kernel_rfl) (fun _ _ _ h => h) (Or.inl ⟨by rfl, fun w hSw => by go_simp⟩) hS ?_
      simp only [Act.put, List.getElem_toArray, List.getElem_cons_succ, List.getElem_cons_zero, List.setIfInBounds_toArray, List.set_cons_zero, List.set_cons_succ]
      refine wpAnyH_ready (rs := [3]) (by kernel_rfl) (by simp) ?_
      refine AllReadyH.cons rfl (fun K hK => ?_) AllReadyH.nil
      go_simp
      refine (KO.out _).mono ?_
      rintro e w4 ⟨rfl, hb4⟩
      have hz4 : w4.heap[w.heap.size]? = some (.cells (subC ⟨0, 0, 0, 0, 0, [], R0⟩ none 0 none 0 none 0) 26 (0, 0)) := by rw [hb4.block _ (lt_of_block HD.out.1)]; exact HD.out.1
      have hs4 : w4.heap[w.heap.size + 1]? = some (.cells (subC ⟨3, t - 31, 0, 0, 0, [], R0⟩ none 0 none 0 none 0) 26 (0, 0)) := by rw [hb4.block _ (lt_of_block HD.out.2.1)]; exact HD.out.2.1
      have HB4 : Hid (Below w.heap.size w w4) := HD.out.2.2.trans (hb4.mono HD.out.2.2.size)
      refine hK.out _ _ hs4 (fun hS4 => ?_)
      clear hK K KO hb4
      try simp only [Act.put, List.getElem_toArray, List.getElem_cons_succ, List.getElem_cons_zero, List.setIfInBounds_toArray, List.set_cons_zero, List.set_cons_succ]
      obtain ⟨x0, x1, x2, x3, x4, x5, x6, x7, x8, x9⟩ := sub_cells hz4
      have fu0 := row_frozen hz4 0
      have fu1 := row_frozen hz4 1
      have fu2 := row_frozen hz4 2
      have fu3 := row_frozen hz4 3
      have fu4 := row_frozen hz4 4
      have fu5 := row_frozen hz4 5
      have fu6 := row_frozen hz4 6
      have fu7 := row_frozen hz4 7
      have fu8 := row_frozen hz4 8
      have fu9 := row_frozen hz4 9
      refine wpAnyH_ready (rs := [4]) (by kernel_rfl) (by simp) ?_
      refine AllReadyH.cons rfl (fun K hK => ?_) AllReadyH.nil
      go_simp
      generalize hwf : World.setCell _ _ _ = wf at *
      have hH : wf.heap[w.heap.size]? = some (.cells (subC ⟨3, t - 31, 0, 0, 0, [], R0⟩ none 0 none 0 none 0) 26 (0, 0)) := by rw [← hwf]; exact set10_a _ _ _ _ _ _ _ _ _ _ _ hz4
      have hN : wf.heap[w.heap.size + 1]? = some (.cells (subC ⟨3, t - 31, 0, 0, 0, [], R0⟩ none 0 none 0 none 0) 26 (0, 0)) := by rw [← hwf, set10_d _ _ _ _ _ _ _ _ _ _ _ _ (by omega)]; exact hs4
      have HB5 : Hid (Below w.heap.size w wf) := by rw [← hwf]; exact set10_b _ _ _ _ _ _ _ _ _ _ _ _ (Nat.le_refl _) HB4.out
      refine hK.out _ _ hN (fun hS5 => ?_)
      clear hK K hwf hz4 hs4 HB4 x0 x1 x2 x3 x4 x5 x6 x7 x8 x9 fu0 fu1 fu2 fu3 fu4 fu5 fu6 fu7 fu8 fu9
      try simp only [Act.put, List.getElem_toArray, List.getElem_cons_succ, List.getElem_cons_zero, List.setIfInBounds_toArray, List.set_cons_zero, List.set_cons_succ]
      refine wpAnyH_take (i := 5) (v := .bool false) rfl (by kernel_rfl) (by kernel_rfl) (by kernel_rfl) (fun _ _ _ h => h) (Or.inl ⟨by rfl, fun w hSw => by go_simp⟩) hS5 ?_
      simp only [Act.put, List.getElem_toArray, List.getElem_cons_succ, List.getElem_cons_zero, List.setIfInBounds_toArray, List.set_cons_zero, List.set_cons_succ]
      refine wpAnyH_done (by kernel_rfl) ?_ _
      go_wp2_with fail
      refine bodyPost_ret (v := .tuple #[.agg (subC ⟨3, t - 31, 0, 0, 0, [], R0⟩ none 0 none 0 none 0), .bool false]) ?_ rfl ⟨HB5.out, OPost.none_ (ofT_3n t b (by omega) ht1 (by omega)) ⟨_, _, rfl⟩⟩
      rw [results_two rfl]
      have hld := run_loadVar_row (P := Try.prog) (wf) (w.heap.size) 26 26 (subC ⟨3, t - 31, 0, 0, 0, [], R0⟩ none 0 none 0 none 0) (0, 0) _ hH Try.underlying26 rfl info_Sub
      simp [asAddr, Result.andThen, hld]

end Go.Proofs.Ytkhdkmdiblomhaa
