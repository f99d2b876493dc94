/- Own text: a new filter of the program's. -/
import Derived.Test.YtecdcmjeiogenaaQ17see
import Derived.Test.YtecdcmjeiogenaaR17nw
namespace Go.Proofs.Ytecdcmjeiogenaa
open Go.RowKit
set_option linter.unusedSimpArgs false
set_option linter.unusedVariables false

theorem made_16 (n : Nat) : madeCells #[.int .i16 0] n = (sC (List.replicate n 0)).toArray := by
  have hr0 : sC (List.replicate n 0) = List.replicate n (Value.int .i16 0) := by simp [sC]
  rw [hr0]
  apply Array.ext_getElem?
  intro j
  have hr : (List.replicate n (Value.int .i16 0)).toArray[j]? = if j < n then some (Value.int .i16 0) else none := by
    rw [List.getElem?_toArray, List.getElem?_replicate]
  rw [hr]
  by_cases hj : j < n
  · rw [if_pos hj]
    simp only [madeCells, Array.getElem?_map, Array.getElem?_range, hj, if_true, Option.map_some]
    have hs1 : (#[.int .i16 0] : Array Value).size = 1 := rfl
    rw [hs1, Nat.mod_one]
    rfl
  · rw [if_neg hj, Array.getElem?_eq_none (by rw [size_madeCells]; omega)]
theorem make_16 (n : Nat) (hn : n ≤ 1000) (w : World) : (Instr.makeSlice 65 (.int .i64 (n : Int)) (.int .i64 (n : Int))).run Try.prog w = .ok (.slice (some ⟨w.heap.size, 0, none⟩) n n) (w.alloc (.cells (sC (List.replicate n 0)).toArray 68)) := by
  obtain ⟨i, h1, h2, h3, h4⟩ := info_parts5 info16
  have hh := run_make (P := Try.prog) w 65 68 i _ und16 h1 h2 .i64 .i64 (n : Int) (n : Int) (by omega) (Int.le_refl _) (by rw [h4]; omega) (by omega)
  rw [h3] at hh
  rw [← made_16]
  simpa [Value.cells] using hh
theorem TapAt.new {w : World} {g bw bn bp n : Nat} (h2 : 2 ≤ n) (h32 : n ≤ 32) (hg : w.heap[g]? = some (.cells #[.slice (some ⟨bw, 0, none⟩) n n, .slice (some ⟨bn, 0, none⟩) n n, .slice (some ⟨bp, 0, none⟩) n n] 67 (0, 0))) (hw : R16 w bw (List.replicate n 0)) (hn : R16 w bn (List.replicate n 0)) (hp : R16 w bp (List.replicate n 0)) (nd : [g, bw, bn, bp].Nodup) : TapAt w g bw bn bp (newS n) := by
  have e1 : (newS n).W = List.replicate n 0 := rfl
  have e2 : (newS n).S = List.replicate n 0 := by show List.replicate (max 1 n) 0 = _; rw [Nat.max_eq_right (by omega)]
  have e3 : (newS n).W.length = n := List.length_replicate
  refine ⟨⟨by rw [e3]; exact hg⟩, by rw [e1]; exact hw, by rw [e2, List.map_replicate]; exact hn, by rw [e2, List.map_replicate]; exact hp, by rw [e2, e1], by omega, by omega, nd⟩
/-- A new filter, told. -/
def TapsP (n : Nat) (w : World) (e : Ending) (w' : World) : Prop := ∃ g bw bn bp, e = .returned (.pointer (some ⟨g, 0, none⟩)) ∧ TapAt w' g bw bn bp (newS n) ∧ w.heap.size ≤ g ∧ w.heap.size ≤ bw ∧ w.heap.size ≤ bn ∧ w.heap.size ≤ bp ∧ Below w.heap.size w w'
attribute [local go_sem] Oper.semAt_some
set_option maxRecDepth 20000 in
set_option maxHeartbeats 3200000 in
theorem p_newTaps (n : Nat) (hn2 : 2 ≤ n) (hn : n ≤ 32) (w : World) : Calls Try.prog 28 #[.int .i64 (n : Int)] w (TapsP n w) := by
  go_enter Try.func28, Try.ntmps28
  go_upto_region 1 with fail
  refine wp_region_held_drew (S := fun _ => Hid True) (by kernel_rfl) (hid trivial) (fun hS => ?_)
  refine wpAnyH_take (i := 0) (v := .int .i64 (n : Int)) rfl (by kernel_rfl) (by kernel_rfl) (by kernel_rfl) (fun _ _ _ h => h) (Or.inl ⟨by rfl, fun w hSw => by go_simp⟩) hS ?_
  simp only [Act.put, List.getElem_toArray, List.getElem_cons_succ, List.getElem_cons_zero, List.setIfInBounds_toArray, List.set_cons_zero, List.set_cons_succ]
  refine wpAnyH_take (i := 2) (v := .int .i64 (n : Int)) rfl (by kernel_rfl) (by kernel_rfl) (by kernel_rfl) (fun _ _ _ h => h) (Or.inl ⟨by rfl, fun w hSw => by go_simp⟩) hS ?_
  simp only [Act.put, List.getElem_toArray, List.getElem_cons_succ, List.getElem_cons_zero, List.setIfInBounds_toArray, List.set_cons_zero, List.set_cons_succ]
  refine wpAnyH_take (i := 4) (v := .int .i64 (n : Int)) rfl (by kernel_rfl) (by kernel_rfl) (by kernel_rfl) (fun _ _ _ h => h) (Or.inl ⟨by rfl, fun w hSw => by go_simp⟩) hS ?_
  simp only [Act.put, List.getElem_toArray, List.getElem_cons_succ, List.getElem_cons_zero, List.setIfInBounds_toArray, List.set_cons_zero, List.set_cons_succ]
  refine wpAnyH_ready (rs := [1, 3, 5]) (by kernel_rfl) (by simp) ?_
  refine AllReadyH.cons rfl (fun K hK => ?_) (AllReadyH.cons rfl (fun K hK => ?_) (AllReadyH.cons rfl (fun K hK => ?_) AllReadyH.nil))
  · have hmk := make_16 n (by omega) w.drew
    go_simp
    clear hmk
    generalize hw : (World.alloc w _).drew = w5
    have H5 : Hid (R16 w5 w.heap.size (List.replicate n 0) ∧ Below w.heap.size w w5 ∧ w.heap.size < w5.heap.size) := by
      rw [← hw]
      exact ⟨heap_alloc_new _ _, (below_new _ _).trans (below_on (Below.refl _ _) (by simp) (below_drew _)), by simp⟩
    refine hK.out _ _ hS (fun _ => ?_)
    clear hK K hw
    try simp only [Act.put, List.getElem_toArray, List.getElem_cons_succ, List.getElem_cons_zero, List.setIfInBounds_toArray, List.set_cons_zero, List.set_cons_succ]
    refine wpAnyH_ready (rs := [3, 5]) (by kernel_rfl) (by simp) ?_
    refine AllReadyH.cons rfl (fun K hK => ?_) (AllReadyH.cons rfl (fun K hK => ?_) AllReadyH.nil)
    · have hmk := make_16 n (by omega) w5
      go_simp
      clear hmk
      generalize hw : World.alloc w5 _ = w6
      have H6 : Hid (R16 w6 w.heap.size (List.replicate n 0) ∧ R16 w6 w5.heap.size (List.replicate n 0) ∧ Below w.heap.size w w6 ∧ w.heap.size < w5.heap.size ∧ w5.heap.size < w6.heap.size) := by
        rw [← hw]
        exact ⟨H5.out.1.keep ((below_new w5 _).block _ H5.out.1.lt), heap_alloc_new _ _, below_on H5.out.2.1 H5.out.2.1.size (below_new _ _), by have := H5.out.2.2; omega, by simp⟩
      refine hK.out _ _ hS (fun _ => ?_)
      clear hK K hw
      try simp only [Act.put, List.getElem_toArray, List.getElem_cons_succ, List.getElem_cons_zero, List.setIfInBounds_toArray, List.set_cons_zero, List.set_cons_succ]
      refine wpAnyH_ready (rs := [5]) (by kernel_rfl) (by simp) ?_
      refine AllReadyH.cons rfl (fun K hK => ?_) AllReadyH.nil
      have hmk := make_16 n (by omega) w6
      go_simp
      clear hmk
      generalize hw : World.alloc w6 _ = w7
      have H7 : Hid (R16 w7 w.heap.size (List.replicate n 0) ∧ R16 w7 w5.heap.size (List.replicate n 0) ∧ R16 w7 w6.heap.size (List.replicate n 0) ∧ Below w.heap.size w w7 ∧ w.heap.size < w5.heap.size ∧ w5.heap.size < w6.heap.size ∧ w6.heap.size < w7.heap.size) := by
        rw [← hw]
        exact ⟨H6.out.1.keep ((below_new w6 _).block _ H6.out.1.lt), H6.out.2.1.keep ((below_new w6 _).block _ H6.out.2.1.lt), heap_alloc_new _ _, below_on H6.out.2.2.1 H6.out.2.2.1.size (below_new _ _), H6.out.2.2.2.1, H6.out.2.2.2.2, by simp⟩
      refine hK.out _ _ hS (fun _ => ?_)
      clear hK K hw
      try simp only [Act.put, List.getElem_toArray, List.getElem_cons_succ, List.getElem_cons_zero, List.setIfInBounds_toArray, List.set_cons_zero, List.set_cons_succ]
      refine wpAnyH_take (i := 6) (v := .agg #[.slice (some ⟨w.heap.size, 0, none⟩) n n, .slice (some ⟨w5.heap.size, 0, none⟩) n n, .slice (some ⟨w6.heap.size, 0, none⟩) n n]) rfl (by kernel_rfl) (by kernel_rfl) (by kernel_rfl) (fun _ _ _ h => h) (Or.inl ⟨by rfl, fun w hSw => by go_simp⟩) hS ?_
      simp only [Act.put, List.getElem_toArray, List.getElem_cons_succ, List.getElem_cons_zero, List.setIfInBounds_toArray, List.set_cons_zero, List.set_cons_succ]
      refine wpAnyH_ready (rs := [7]) (by kernel_rfl) (by simp) ?_
      refine AllReadyH.cons rfl (fun K hK => ?_) AllReadyH.nil
      go_simp
      generalize hw : World.alloc w7 _ = w8
      have H8 : Hid (TapAt w8 w7.heap.size (w.heap.size) (w5.heap.size) (w6.heap.size) (newS n) ∧ Below w.heap.size w w8) := by
        obtain ⟨_, _, _, m4, m5, m6, m7⟩ := H7.out
        rw [← hw]
        exact ⟨TapAt.new hn2 hn (heap_alloc_new _ _) (H7.out.1.keep ((below_new w7 _).block _ H7.out.1.lt)) (H7.out.2.1.keep ((below_new w7 _).block _ H7.out.2.1.lt)) (H7.out.2.2.1.keep ((below_new w7 _).block _ H7.out.2.2.1.lt)) (by simp only [List.nodup_cons, List.mem_cons, List.not_mem_nil, or_false, not_or, not_false_eq_true, List.nodup_nil, and_true]; omega), below_on m4 m4.size (below_new _ _)⟩
      have HLT : Hid (w.heap.size < w5.heap.size ∧ w5.heap.size < w6.heap.size ∧ w6.heap.size < w7.heap.size) := H7.out.2.2.2.2
      refine hK.out _ _ hS (fun _ => ?_)
      clear hK K hw
      try simp only [Act.put, List.getElem_toArray, List.getElem_cons_succ, List.getElem_cons_zero, List.setIfInBounds_toArray, List.set_cons_zero, List.set_cons_succ]
      refine wpAnyH_take (i := 8) (v := .pointer (some ⟨w7.heap.size, 0, none⟩)) rfl (by kernel_rfl) (by kernel_rfl) (by kernel_rfl) (fun _ _ _ h => h) (Or.inl ⟨by rfl, fun w hSw => by go_simp⟩) hS ?_
      simp only [Act.put, List.getElem_toArray, List.getElem_cons_succ, List.getElem_cons_zero, List.setIfInBounds_toArray, List.set_cons_zero, List.set_cons_succ]
      refine wpAnyH_done (by kernel_rfl) ?_ _
      go_wp2_with fail
      go_ret
      exact ⟨w7.heap.size, w.heap.size, w5.heap.size, w6.heap.size, rfl, H8.out.1, by have := HLT.out; omega, by have := HLT.out; omega, by have := HLT.out; omega, by have := HLT.out; omega, H8.out.2⟩
    · have hmk := make_16 n (by omega) w5
      go_simp
      clear hmk
      generalize hw : World.alloc w5 _ = w6
      have H6 : Hid (R16 w6 w.heap.size (List.replicate n 0) ∧ R16 w6 w5.heap.size (List.replicate n 0) ∧ Below w.heap.size w w6 ∧ w.heap.size < w5.heap.size ∧ w5.heap.size < w6.heap.size) := by
        rw [← hw]
        exact ⟨H5.out.1.keep ((below_new w5 _).block _ H5.out.1.lt), heap_alloc_new _ _, below_on H5.out.2.1 H5.out.2.1.size (below_new _ _), by have := H5.out.2.2; omega, by simp⟩
      refine hK.out _ _ hS (fun _ => ?_)
      clear hK K hw
      try simp only [Act.put, List.getElem_toArray, List.getElem_cons_succ, List.getElem_cons_zero, List.setIfInBounds_toArray, List.set_cons_zero, List.set_cons_succ]
      refine wpAnyH_ready (rs := [3]) (by kernel_rfl) (by simp) ?_
      refine AllReadyH.cons rfl (fun K hK => ?_) AllReadyH.nil
      have hmk := make_16 n (by omega) w6
      go_simp
      clear hmk
      generalize hw : World.alloc w6 _ = w7
      have H7 : Hid (R16 w7 w.heap.size (List.replicate n 0) ∧ R16 w7 w5.heap.size (List.replicate n 0) ∧ R16 w7 w6.heap.size (List.replicate n 0) ∧ Below w.heap.size w w7 ∧ w.heap.size < w5.heap.size ∧ w5.heap.size < w6.heap.size ∧ w6.heap.size < w7.heap.size) := by
        rw [← hw]
        exact ⟨H6.out.1.keep ((below_new w6 _).block _ H6.out.1.lt), H6.out.2.1.keep ((below_new w6 _).block _ H6.out.2.1.lt), heap_alloc_new _ _, below_on H6.out.2.2.1 H6.out.2.2.1.size (below_new _ _), H6.out.2.2.2.1, H6.out.2.2.2.2, by simp⟩
      refine hK.out _ _ hS (fun _ => ?_)
      clear hK K hw
      try simp only [Act.put, List.getElem_toArray, List.getElem_cons_succ, List.getElem_cons_zero, List.setIfInBounds_toArray, List.set_cons_zero, List.set_cons_succ]
      refine wpAnyH_take (i := 6) (v := .agg #[.slice (some ⟨w.heap.size, 0, none⟩) n n, .slice (some ⟨w6.heap.size, 0, none⟩) n n, .slice (some ⟨w5.heap.size, 0, none⟩) n n]) rfl (by kernel_rfl) (by kernel_rfl) (by kernel_rfl) (fun _ _ _ h => h) (Or.inl ⟨by rfl, fun w hSw => by go_simp⟩) hS ?_
      simp only [Act.put, List.getElem_toArray, List.getElem_cons_succ, List.getElem_cons_zero, List.setIfInBounds_toArray, List.set_cons_zero, List.set_cons_succ]
      refine wpAnyH_ready (rs := [7]) (by kernel_rfl) (by simp) ?_
      refine AllReadyH.cons rfl (fun K hK => ?_) AllReadyH.nil
      go_simp
      generalize hw : World.alloc w7 _ = w8
      have H8 : Hid (TapAt w8 w7.heap.size (w.heap.size) (w6.heap.size) (w5.heap.size) (newS n) ∧ Below w.heap.size w w8) := by
        obtain ⟨_, _, _, m4, m5, m6, m7⟩ := H7.out
        rw [← hw]
        exact ⟨TapAt.new hn2 hn (heap_alloc_new _ _) (H7.out.1.keep ((below_new w7 _).block _ H7.out.1.lt)) (H7.out.2.2.1.keep ((below_new w7 _).block _ H7.out.2.2.1.lt)) (H7.out.2.1.keep ((below_new w7 _).block _ H7.out.2.1.lt)) (by simp only [List.nodup_cons, List.mem_cons, List.not_mem_nil, or_false, not_or, not_false_eq_true, List.nodup_nil, and_true]; omega), below_on m4 m4.size (below_new _ _)⟩
      have HLT : Hid (w.heap.size < w5.heap.size ∧ w5.heap.size < w6.heap.size ∧ w6.heap.size < w7.heap.size) := H7.out.2.2.2.2
      refine hK.out _ _ hS (fun _ => ?_)
      clear hK K hw
      try simp only [Act.put, List.getElem_toArray, List.getElem_cons_succ, List.getElem_cons_zero, List.setIfInBounds_toArray, List.set_cons_zero, List.set_cons_succ]
      refine wpAnyH_take (i := 8) (v := .pointer (some ⟨w7.heap.size, 0, none⟩)) rfl (by kernel_rfl) (by kernel_rfl) (by kernel_rfl) (fun _ _ _ h => h) (Or.inl ⟨by rfl, fun w hSw => by go_simp⟩) hS ?_
      simp only [Act.put, List.getElem_toArray, List.getElem_cons_succ, List.getElem_cons_zero, List.setIfInBounds_toArray, List.set_cons_zero, List.set_cons_succ]
      refine wpAnyH_done (by kernel_rfl) ?_ _
      go_wp2_with fail
      go_ret
      exact ⟨w7.heap.size, w.heap.size, w6.heap.size, w5.heap.size, rfl, H8.out.1, by have := HLT.out; omega, by have := HLT.out; omega, by have := HLT.out; omega, by have := HLT.out; omega, H8.out.2⟩
  · have hmk := make_16 n (by omega) w.drew
    go_simp
    clear hmk
    generalize hw : (World.alloc w _).drew = w5
    have H5 : Hid (R16 w5 w.heap.size (List.replicate n 0) ∧ Below w.heap.size w w5 ∧ w.heap.size < w5.heap.size) := by
      rw [← hw]
      exact ⟨heap_alloc_new _ _, (below_new _ _).trans (below_on (Below.refl _ _) (by simp) (below_drew _)), by simp⟩
    refine hK.out _ _ hS (fun _ => ?_)
    clear hK K hw
    try simp only [Act.put, List.getElem_toArray, List.getElem_cons_succ, List.getElem_cons_zero, List.setIfInBounds_toArray, List.set_cons_zero, List.set_cons_succ]
    refine wpAnyH_ready (rs := [1, 5]) (by kernel_rfl) (by simp) ?_
    refine AllReadyH.cons rfl (fun K hK => ?_) (AllReadyH.cons rfl (fun K hK => ?_) AllReadyH.nil)
    · have hmk := make_16 n (by omega) w5
      go_simp
      clear hmk
      generalize hw : World.alloc w5 _ = w6
      have H6 : Hid (R16 w6 w.heap.size (List.replicate n 0) ∧ R16 w6 w5.heap.size (List.replicate n 0) ∧ Below w.heap.size w w6 ∧ w.heap.size < w5.heap.size ∧ w5.heap.size < w6.heap.size) := by
        rw [← hw]
        exact ⟨H5.out.1.keep ((below_new w5 _).block _ H5.out.1.lt), heap_alloc_new _ _, below_on H5.out.2.1 H5.out.2.1.size (below_new _ _), by have := H5.out.2.2; omega, by simp⟩
      refine hK.out _ _ hS (fun _ => ?_)
      clear hK K hw
      try simp only [Act.put, List.getElem_toArray, List.getElem_cons_succ, List.getElem_cons_zero, List.setIfInBounds_toArray, List.set_cons_zero, List.set_cons_succ]
      refine wpAnyH_ready (rs := [5]) (by kernel_rfl) (by simp) ?_
      refine AllReadyH.cons rfl (fun K hK => ?_) AllReadyH.nil
      have hmk := make_16 n (by omega) w6
      go_simp
      clear hmk
      generalize hw : World.alloc w6 _ = w7
      have H7 : Hid (R16 w7 w.heap.size (List.replicate n 0) ∧ R16 w7 w5.heap.size (List.replicate n 0) ∧ R16 w7 w6.heap.size (List.replicate n 0) ∧ Below w.heap.size w w7 ∧ w.heap.size < w5.heap.size ∧ w5.heap.size < w6.heap.size ∧ w6.heap.size < w7.heap.size) := by
        rw [← hw]
        exact ⟨H6.out.1.keep ((below_new w6 _).block _ H6.out.1.lt), H6.out.2.1.keep ((below_new w6 _).block _ H6.out.2.1.lt), heap_alloc_new _ _, below_on H6.out.2.2.1 H6.out.2.2.1.size (below_new _ _), H6.out.2.2.2.1, H6.out.2.2.2.2, by simp⟩
      refine hK.out _ _ hS (fun _ => ?_)
      clear hK K hw
      try simp only [Act.put, List.getElem_toArray, List.getElem_cons_succ, List.getElem_cons_zero, List.setIfInBounds_toArray, List.set_cons_zero, List.set_cons_succ]
      refine wpAnyH_take (i := 6) (v := .agg #[.slice (some ⟨w5.heap.size, 0, none⟩) n n, .slice (some ⟨w.heap.size, 0, none⟩) n n, .slice (some ⟨w6.heap.size, 0, none⟩) n n]) rfl (by kernel_rfl) (by kernel_rfl) (by kernel_rfl) (fun _ _ _ h => h) (Or.inl ⟨by rfl, fun w hSw => by go_simp⟩) hS ?_
      simp only [Act.put, List.getElem_toArray, List.getElem_cons_succ, List.getElem_cons_zero, List.setIfInBounds_toArray, List.set_cons_zero, List.set_cons_succ]
      refine wpAnyH_ready (rs := [7]) (by kernel_rfl) (by simp) ?_
      refine AllReadyH.cons rfl (fun K hK => ?_) AllReadyH.nil
      go_simp
      generalize hw : World.alloc w7 _ = w8
      have H8 : Hid (TapAt w8 w7.heap.size (w5.heap.size) (w.heap.size) (w6.heap.size) (newS n) ∧ Below w.heap.size w w8) := by
        obtain ⟨_, _, _, m4, m5, m6, m7⟩ := H7.out
        rw [← hw]
        exact ⟨TapAt.new hn2 hn (heap_alloc_new _ _) (H7.out.2.1.keep ((below_new w7 _).block _ H7.out.2.1.lt)) (H7.out.1.keep ((below_new w7 _).block _ H7.out.1.lt)) (H7.out.2.2.1.keep ((below_new w7 _).block _ H7.out.2.2.1.lt)) (by simp only [List.nodup_cons, List.mem_cons, List.not_mem_nil, or_false, not_or, not_false_eq_true, List.nodup_nil, and_true]; omega), below_on m4 m4.size (below_new _ _)⟩
      have HLT : Hid (w.heap.size < w5.heap.size ∧ w5.heap.size < w6.heap.size ∧ w6.heap.size < w7.heap.size) := H7.out.2.2.2.2
      refine hK.out _ _ hS (fun _ => ?_)
      clear hK K hw
      try simp only [Act.put, List.getElem_toArray, List.getElem_cons_succ, List.getElem_cons_zero, List.setIfInBounds_toArray, List.set_cons_zero, List.set_cons_succ]
      refine wpAnyH_take (i := 8) (v := .pointer (some ⟨w7.heap.size, 0, none⟩)) rfl (by kernel_rfl) (by kernel_rfl) (by kernel_rfl) (fun _ _ _ h => h) (Or.inl ⟨by rfl, fun w hSw => by go_simp⟩) hS ?_
      simp only [Act.put, List.getElem_toArray, List.getElem_cons_succ, List.getElem_cons_zero, List.setIfInBounds_toArray, List.set_cons_zero, List.set_cons_succ]
      refine wpAnyH_done (by kernel_rfl) ?_ _
      go_wp2_with fail
      go_ret
      exact ⟨w7.heap.size, w5.heap.size, w.heap.size, w6.heap.size, rfl, H8.out.1, by have := HLT.out; omega, by have := HLT.out; omega, by have := HLT.out; omega, by have := HLT.out; omega, H8.out.2⟩
    · have hmk := make_16 n (by omega) w5
      go_simp
      clear hmk
      generalize hw : World.alloc w5 _ = w6
      have H6 : Hid (R16 w6 w.heap.size (List.replicate n 0) ∧ R16 w6 w5.heap.size (List.replicate n 0) ∧ Below w.heap.size w w6 ∧ w.heap.size < w5.heap.size ∧ w5.heap.size < w6.heap.size) := by
        rw [← hw]
        exact ⟨H5.out.1.keep ((below_new w5 _).block _ H5.out.1.lt), heap_alloc_new _ _, below_on H5.out.2.1 H5.out.2.1.size (below_new _ _), by have := H5.out.2.2; omega, by simp⟩
      refine hK.out _ _ hS (fun _ => ?_)
      clear hK K hw
      try simp only [Act.put, List.getElem_toArray, List.getElem_cons_succ, List.getElem_cons_zero, List.setIfInBounds_toArray, List.set_cons_zero, List.set_cons_succ]
      refine wpAnyH_ready (rs := [1]) (by kernel_rfl) (by simp) ?_
      refine AllReadyH.cons rfl (fun K hK => ?_) AllReadyH.nil
      have hmk := make_16 n (by omega) w6
      go_simp
      clear hmk
      generalize hw : World.alloc w6 _ = w7
      have H7 : Hid (R16 w7 w.heap.size (List.replicate n 0) ∧ R16 w7 w5.heap.size (List.replicate n 0) ∧ R16 w7 w6.heap.size (List.replicate n 0) ∧ Below w.heap.size w w7 ∧ w.heap.size < w5.heap.size ∧ w5.heap.size < w6.heap.size ∧ w6.heap.size < w7.heap.size) := by
        rw [← hw]
        exact ⟨H6.out.1.keep ((below_new w6 _).block _ H6.out.1.lt), H6.out.2.1.keep ((below_new w6 _).block _ H6.out.2.1.lt), heap_alloc_new _ _, below_on H6.out.2.2.1 H6.out.2.2.1.size (below_new _ _), H6.out.2.2.2.1, H6.out.2.2.2.2, by simp⟩
      refine hK.out _ _ hS (fun _ => ?_)
      clear hK K hw
      try simp only [Act.put, List.getElem_toArray, List.getElem_cons_succ, List.getElem_cons_zero, List.setIfInBounds_toArray, List.set_cons_zero, List.set_cons_succ]
      refine wpAnyH_take (i := 6) (v := .agg #[.slice (some ⟨w6.heap.size, 0, none⟩) n n, .slice (some ⟨w.heap.size, 0, none⟩) n n, .slice (some ⟨w5.heap.size, 0, none⟩) n n]) rfl (by kernel_rfl) (by kernel_rfl) (by kernel_rfl) (fun _ _ _ h => h) (Or.inl ⟨by rfl, fun w hSw => by go_simp⟩) hS ?_
      simp only [Act.put, List.getElem_toArray, List.getElem_cons_succ, List.getElem_cons_zero, List.setIfInBounds_toArray, List.set_cons_zero, List.set_cons_succ]
      refine wpAnyH_ready (rs := [7]) (by kernel_rfl) (by simp) ?_
      refine AllReadyH.cons rfl (fun K hK => ?_) AllReadyH.nil
      go_simp
      generalize hw : World.alloc w7 _ = w8
      have H8 : Hid (TapAt w8 w7.heap.size (w6.heap.size) (w.heap.size) (w5.heap.size) (newS n) ∧ Below w.heap.size w w8) := by
        obtain ⟨_, _, _, m4, m5, m6, m7⟩ := H7.out
        rw [← hw]
        exact ⟨TapAt.new hn2 hn (heap_alloc_new _ _) (H7.out.2.2.1.keep ((below_new w7 _).block _ H7.out.2.2.1.lt)) (H7.out.1.keep ((below_new w7 _).block _ H7.out.1.lt)) (H7.out.2.1.keep ((below_new w7 _).block _ H7.out.2.1.lt)) (by simp only [List.nodup_cons, List.mem_cons, List.not_mem_nil, or_false, not_or, not_false_eq_true, List.nodup_nil, and_true]; omega), below_on m4 m4.size (below_new _ _)⟩
      have HLT : Hid (w.heap.size < w5.heap.size ∧ w5.heap.size < w6.heap.size ∧ w6.heap.size < w7.heap.size) := H7.out.2.2.2.2
      refine hK.out _ _ hS (fun _ => ?_)
      clear hK K hw
      try simp only [Act.put, List.getElem_toArray, List.getElem_cons_succ, List.getElem_cons_zero, List.setIfInBounds_toArray, List.set_cons_zero, List.set_cons_succ]
      refine wpAnyH_take (i := 8) (v := .pointer (some ⟨w7.heap.size, 0, none⟩)) rfl (by kernel_rfl) (by kernel_rfl) (by kernel_rfl) (fun _ _ _ h => h) (Or.inl ⟨by rfl, fun w hSw => by go_simp⟩) hS ?_
      simp only [Act.put, List.getElem_toArray, List.getElem_cons_succ, List.getElem_cons_zero, List.setIfInBounds_toArray, List.set_cons_zero, List.set_cons_succ]
      refine wpAnyH_done (by kernel_rfl) ?_ _
      go_wp2_with fail
      go_ret
      exact ⟨w7.heap.size, w6.heap.size, w.heap.size, w5.heap.size, rfl, H8.out.1, by have := HLT.out; omega, by have := HLT.out; omega, by have := HLT.out; omega, by have := HLT.out; omega, H8.out.2⟩
  · have hmk := make_16 n (by omega) w.drew
    go_simp
    clear hmk
    generalize hw : (World.alloc w _).drew = w5
    have H5 : Hid (R16 w5 w.heap.size (List.replicate n 0) ∧ Below w.heap.size w w5 ∧ w.heap.size < w5.heap.size) := by
      rw [← hw]
      exact ⟨heap_alloc_new _ _, (below_new _ _).trans (below_on (Below.refl _ _) (by simp) (below_drew _)), by simp⟩
    refine hK.out _ _ hS (fun _ => ?_)
    clear hK K hw
    try simp only [Act.put, List.getElem_toArray, List.getElem_cons_succ, List.getElem_cons_zero, List.setIfInBounds_toArray, List.set_cons_zero, List.set_cons_succ]
    refine wpAnyH_ready (rs := [1, 3]) (by kernel_rfl) (by simp) ?_
    refine AllReadyH.cons rfl (fun K hK => ?_) (AllReadyH.cons rfl (fun K hK => ?_) AllReadyH.nil)
    · have hmk := make_16 n (by omega) w5
      go_simp
      clear hmk
      generalize hw : World.alloc w5 _ = w6
      have H6 : Hid (R16 w6 w.heap.size (List.replicate n 0) ∧ R16 w6 w5.heap.size (List.replicate n 0) ∧ Below w.heap.size w w6 ∧ w.heap.size < w5.heap.size ∧ w5.heap.size < w6.heap.size) := by
        rw [← hw]
        exact ⟨H5.out.1.keep ((below_new w5 _).block _ H5.out.1.lt), heap_alloc_new _ _, below_on H5.out.2.1 H5.out.2.1.size (below_new _ _), by have := H5.out.2.2; omega, by simp⟩
      refine hK.out _ _ hS (fun _ => ?_)
      clear hK K hw
      try simp only [Act.put, List.getElem_toArray, List.getElem_cons_succ, List.getElem_cons_zero, List.setIfInBounds_toArray, List.set_cons_zero, List.set_cons_succ]
      refine wpAnyH_ready (rs := [3]) (by kernel_rfl) (by simp) ?_
      refine AllReadyH.cons rfl (fun K hK => ?_) AllReadyH.nil
      have hmk := make_16 n (by omega) w6
      go_simp
      clear hmk
      generalize hw : World.alloc w6 _ = w7
      have H7 : Hid (R16 w7 w.heap.size (List.replicate n 0) ∧ R16 w7 w5.heap.size (List.replicate n 0) ∧ R16 w7 w6.heap.size (List.replicate n 0) ∧ Below w.heap.size w w7 ∧ w.heap.size < w5.heap.size ∧ w5.heap.size < w6.heap.size ∧ w6.heap.size < w7.heap.size) := by
        rw [← hw]
        exact ⟨H6.out.1.keep ((below_new w6 _).block _ H6.out.1.lt), H6.out.2.1.keep ((below_new w6 _).block _ H6.out.2.1.lt), heap_alloc_new _ _, below_on H6.out.2.2.1 H6.out.2.2.1.size (below_new _ _), H6.out.2.2.2.1, H6.out.2.2.2.2, by simp⟩
      refine hK.out _ _ hS (fun _ => ?_)
      clear hK K hw
      try simp only [Act.put, List.getElem_toArray, List.getElem_cons_succ, List.getElem_cons_zero, List.setIfInBounds_toArray, List.set_cons_zero, List.set_cons_succ]
      refine wpAnyH_take (i := 6) (v := .agg #[.slice (some ⟨w5.heap.size, 0, none⟩) n n, .slice (some ⟨w6.heap.size, 0, none⟩) n n, .slice (some ⟨w.heap.size, 0, none⟩) n n]) rfl (by kernel_rfl) (by kernel_rfl) (by kernel_rfl) (fun _ _ _ h => h) (Or.inl ⟨by rfl, fun w hSw => by go_simp⟩) hS ?_
      simp only [Act.put, List.getElem_toArray, List.getElem_cons_succ, List.getElem_cons_zero, List.setIfInBounds_toArray, List.set_cons_zero, List.set_cons_succ]
      refine wpAnyH_ready (rs := [7]) (by kernel_rfl) (by simp) ?_
      refine AllReadyH.cons rfl (fun K hK => ?_) AllReadyH.nil
      go_simp
      generalize hw : World.alloc w7 _ = w8
      have H8 : Hid (TapAt w8 w7.heap.size (w5.heap.size) (w6.heap.size) (w.heap.size) (newS n) ∧ Below w.heap.size w w8) := by
        obtain ⟨_, _, _, m4, m5, m6, m7⟩ := H7.out
        rw [← hw]
        exact ⟨TapAt.new hn2 hn (heap_alloc_new _ _) (H7.out.2.1.keep ((below_new w7 _).block _ H7.out.2.1.lt)) (H7.out.2.2.1.keep ((below_new w7 _).block _ H7.out.2.2.1.lt)) (H7.out.1.keep ((below_new w7 _).block _ H7.out.1.lt)) (by simp only [List.nodup_cons, List.mem_cons, List.not_mem_nil, or_false, not_or, not_false_eq_true, List.nodup_nil, and_true]; omega), below_on m4 m4.size (below_new _ _)⟩
      have HLT : Hid (w.heap.size < w5.heap.size ∧ w5.heap.size < w6.heap.size ∧ w6.heap.size < w7.heap.size) := H7.out.2.2.2.2
      refine hK.out _ _ hS (fun _ => ?_)
      clear hK K hw
      try simp only [Act.put, List.getElem_toArray, List.getElem_cons_succ, List.getElem_cons_zero, List.setIfInBounds_toArray, List.set_cons_zero, List.set_cons_succ]
      refine wpAnyH_take (i := 8) (v := .pointer (some ⟨w7.heap.size, 0, none⟩)) rfl (by kernel_rfl) (by kernel_rfl) (by kernel_rfl) (fun _ _ _ h => h) (Or.inl ⟨by rfl, fun w hSw => by go_simp⟩) hS ?_
      simp only [Act.put, List.getElem_toArray, List.getElem_cons_succ, List.getElem_cons_zero, List.setIfInBounds_toArray, List.set_cons_zero, List.set_cons_succ]
      refine wpAnyH_done (by kernel_rfl) ?_ _
      go_wp2_with fail
      go_ret
      exact ⟨w7.heap.size, w5.heap.size, w6.heap.size, w.heap.size, rfl, H8.out.1, by have := HLT.out; omega, by have := HLT.out; omega, by have := HLT.out; omega, by have := HLT.out; omega, H8.out.2⟩
    · have hmk := make_16 n (by omega) w5
      go_simp
      clear hmk
      generalize hw : World.alloc w5 _ = w6
      have H6 : Hid (R16 w6 w.heap.size (List.replicate n 0) ∧ R16 w6 w5.heap.size (List.replicate n 0) ∧ Below w.heap.size w w6 ∧ w.heap.size < w5.heap.size ∧ w5.heap.size < w6.heap.size) := by
        rw [← hw]
        exact ⟨H5.out.1.keep ((below_new w5 _).block _ H5.out.1.lt), heap_alloc_new _ _, below_on H5.out.2.1 H5.out.2.1.size (below_new _ _), by have := H5.out.2.2; omega, by simp⟩
      refine hK.out _ _ hS (fun _ => ?_)
      clear hK K hw
      try simp only [Act.put, List.getElem_toArray, List.getElem_cons_succ, List.getElem_cons_zero, List.setIfInBounds_toArray, List.set_cons_zero, List.set_cons_succ]
      refine wpAnyH_ready (rs := [1]) (by kernel_rfl) (by simp) ?_
      refine AllReadyH.cons rfl (fun K hK => ?_) AllReadyH.nil
      have hmk := make_16 n (by omega) w6
      go_simp
      clear hmk
      generalize hw : World.alloc w6 _ = w7
      have H7 : Hid (R16 w7 w.heap.size (List.replicate n 0) ∧ R16 w7 w5.heap.size (List.replicate n 0) ∧ R16 w7 w6.heap.size (List.replicate n 0) ∧ Below w.heap.size w w7 ∧ w.heap.size < w5.heap.size ∧ w5.heap.size < w6.heap.size ∧ w6.heap.size < w7.heap.size) := by
        rw [← hw]
        exact ⟨H6.out.1.keep ((below_new w6 _).block _ H6.out.1.lt), H6.out.2.1.keep ((below_new w6 _).block _ H6.out.2.1.lt), heap_alloc_new _ _, below_on H6.out.2.2.1 H6.out.2.2.1.size (below_new _ _), H6.out.2.2.2.1, H6.out.2.2.2.2, by simp⟩
      refine hK.out _ _ hS (fun _ => ?_)
      clear hK K hw
      try simp only [Act.put, List.getElem_toArray, List.getElem_cons_succ, List.getElem_cons_zero, List.setIfInBounds_toArray, List.set_cons_zero, List.set_cons_succ]
      refine wpAnyH_take (i := 6) (v := .agg #[.slice (some ⟨w6.heap.size, 0, none⟩) n n, .slice (some ⟨w5.heap.size, 0, none⟩) n n, .slice (some ⟨w.heap.size, 0, none⟩) n n]) rfl (by kernel_rfl) (by kernel_rfl) (by kernel_rfl) (fun _ _ _ h => h) (Or.inl ⟨by rfl, fun w hSw => by go_simp⟩) hS ?_
      simp only [Act.put, List.getElem_toArray, List.getElem_cons_succ, List.getElem_cons_zero, List.setIfInBounds_toArray, List.set_cons_zero, List.set_cons_succ]
      refine wpAnyH_ready (rs := [7]) (by kernel_rfl) (by simp) ?_
      refine AllReadyH.cons rfl (fun K hK => ?_) AllReadyH.nil
      go_simp
      generalize hw : World.alloc w7 _ = w8
      have H8 : Hid (TapAt w8 w7.heap.size (w6.heap.size) (w5.heap.size) (w.heap.size) (newS n) ∧ Below w.heap.size w w8) := by
        obtain ⟨_, _, _, m4, m5, m6, m7⟩ := H7.out
        rw [← hw]
        exact ⟨TapAt.new hn2 hn (heap_alloc_new _ _) (H7.out.2.2.1.keep ((below_new w7 _).block _ H7.out.2.2.1.lt)) (H7.out.2.1.keep ((below_new w7 _).block _ H7.out.2.1.lt)) (H7.out.1.keep ((below_new w7 _).block _ H7.out.1.lt)) (by simp only [List.nodup_cons, List.mem_cons, List.not_mem_nil, or_false, not_or, not_false_eq_true, List.nodup_nil, and_true]; omega), below_on m4 m4.size (below_new _ _)⟩
      have HLT : Hid (w.heap.size < w5.heap.size ∧ w5.heap.size < w6.heap.size ∧ w6.heap.size < w7.heap.size) := H7.out.2.2.2.2
      refine hK.out _ _ hS (fun _ => ?_)
      clear hK K hw
      try simp only [Act.put, List.getElem_toArray, List.getElem_cons_succ, List.getElem_cons_zero, List.setIfInBounds_toArray, List.set_cons_zero, List.set_cons_succ]
      refine wpAnyH_take (i := 8) (v := .pointer (some ⟨w7.heap.size, 0, none⟩)) rfl (by kernel_rfl) (by kernel_rfl) (by kernel_rfl) (fun _ _ _ h => h) (Or.inl ⟨by rfl, fun w hSw => by go_simp⟩) hS ?_
      simp only [Act.put, List.getElem_toArray, List.getElem_cons_succ, List.getElem_cons_zero, List.setIfInBounds_toArray, List.set_cons_zero, List.set_cons_succ]
      refine wpAnyH_done (by kernel_rfl) ?_ _
      go_wp2_with fail
      go_ret
      exact ⟨w7.heap.size, w6.heap.size, w5.heap.size, w.heap.size, rfl, H8.out.1, by have := HLT.out; omega, by have := HLT.out; omega, by have := HLT.out; omega, by have := HLT.out; omega, H8.out.2⟩


end Go.Proofs.Ytecdcmjeiogenaa
