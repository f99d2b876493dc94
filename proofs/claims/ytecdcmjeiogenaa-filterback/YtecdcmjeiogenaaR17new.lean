/- Own text: the document's New. -/
import Derived.Test.YtecdcmjeiogenaaR17nw
namespace Go.Proofs.Ytecdcmjeiogenaa
open Go.RowKit
set_option linter.unusedSimpArgs false
set_option linter.unusedVariables false

def tapsN (m : Nat) : List Nat := if m = 0 then [] else if m = 1 then [0, 16] else [0, 32, 16]
theorem tapsN_ok {m : Nat} : ∀ n ∈ tapsN m, n ≤ 32 := by
  unfold tapsN; split
  · intro n h; cases h
  · split <;> (intro n h; simp at h; omega)
theorem tapsN_len (m : Nat) : (tapsN m).length ≤ 3 := by unfold tapsN; split; decide; split <;> decide
theorem newC_taps (m : Nat) (hm : m ≤ 2) : newC (m : Int) = some ((tapsN m).map newS) := by
  obtain rfl | rfl | rfl : m = 0 ∨ m = 1 ∨ m = 2 := by omega
  all_goals rfl
attribute [local go_sem] Oper.semAt_some
set_option maxRecDepth 20000 in
set_option maxHeartbeats 1600000 in
theorem xnew_no (level : Int) (h : level < 0 ∨ 2 < level) (w : World) : Calls Try.prog 19 #[.int .i64 level] w fun e w' => e = .returned (.pointer none) ∧ Below w.heap.size w w' := by
  go_enter Try.func19, Try.ntmps19
  go_upto_region 2 with fail
  have HB := hid (four_boxes w #[] #[.int .i64 0, .int .i64 16] #[.int .i64 0, .int .i64 32, .int .i64 16] #[.slice (some ⟨w.heap.size, 0, none⟩) 0 0, .slice (some ⟨w.heap.size + 1, 0, none⟩) 2 2, .slice (some ⟨w.heap.size + 1 + 1, 0, none⟩) 3 3] 3 3 3 22).2.2.2.2
  generalize World.alloc (World.alloc (World.alloc (World.alloc w _) _) _) _ = w1 at *
  by_cases h1 : level < 0
  · clear h
    go_wp2_with fail
    go_ret
    exact ⟨rfl, HB.out⟩
  · have h2 : 2 < level := by omega
    clear h
    go_wp2_with fail
    go_ret
    exact ⟨rfl, HB.out⟩

/-- What the levels' taps are in memory. -/
def TpAt (w : World) (bt m : Nat) : Prop := ∃ bl, w.cell? ⟨bt, m, none⟩ = some (.slice (some ⟨bl, 0, none⟩) (tapsN m).length (tapsN m).length) ∧ ∀ i, i < (tapsN m).length → w.cell? ⟨bl, i, none⟩ = some (.int .i64 ((tapsN m).getD i 0 : Nat))
theorem TpAt.four (w : World) (m : Nat) (hm : m ≤ 2) : TpAt ((((w.alloc (.cells #[] 3)).alloc (.cells #[.int .i64 0, .int .i64 16] 3)).alloc (.cells #[.int .i64 0, .int .i64 32, .int .i64 16] 3)).alloc (.cells #[.slice (some ⟨w.heap.size, 0, none⟩) 0 0, .slice (some ⟨w.heap.size + 1, 0, none⟩) 2 2, .slice (some ⟨w.heap.size + 1 + 1, 0, none⟩) 3 3] 22)) (w.heap.size + 1 + 1 + 1) m := by
  obtain ⟨b0, b1, b2, b3, _⟩ := four_boxes w #[] #[.int .i64 0, .int .i64 16] #[.int .i64 0, .int .i64 32, .int .i64 16] #[.slice (some ⟨w.heap.size, 0, none⟩) 0 0, .slice (some ⟨w.heap.size + 1, 0, none⟩) 2 2, .slice (some ⟨w.heap.size + 1 + 1, 0, none⟩) 3 3] 3 3 3 22
  obtain rfl | rfl | rfl : m = 0 ∨ m = 1 ∨ m = 2 := by omega
  · exact ⟨_, b3.c 0 _ rfl, fun i hi => absurd hi (Nat.not_lt_zero _)⟩
  · refine ⟨_, b3.c 1 _ rfl, fun i hi => ?_⟩
    have hi : i < 2 := hi
    obtain rfl | rfl : i = 0 ∨ i = 1 := by omega
    · exact b1.c 0 _ rfl
    · exact b1.c 1 _ rfl
  · refine ⟨_, b3.c 2 _ rfl, fun i hi => ?_⟩
    have hi : i < 3 := hi
    obtain rfl | rfl | rfl : i = 0 ∨ i = 1 ∨ i = 2 := by omega
    · exact b2.c 0 _ rfl
    · exact b2.c 1 _ rfl
    · exact b2.c 2 _ rfl
theorem NwAt.begin (w : World) : NwAt w (w.alloc (.cells #[noS] 56)) w.heap.size noS [] [] := by
  refine ⟨rfl, by simp, Box.new _ _ _, Nat.le_refl _, World.ownsRow_nil _ _ _ _, fun e => (by cases e), fun i g bw s hi => by simp at hi, by simp [wrL], by simp [wrL], fun s hs => by simp at hs, below_new _ _⟩
set_option maxRecDepth 20000 in
set_option maxHeartbeats 3200000 in
theorem xnew (m : Nat) (hm : m ≤ 2) (w : World) : Calls Try.prog 19 #[.int .i64 (m : Int)] w (NewP w ((tapsN m).map newS)) := by
  have HTL := hid (tapsN_len m)
  go_enter Try.func19, Try.ntmps19
  go_upto_region 2 with fail
  have HB : Hid (_ ∧ _) := ⟨(four_boxes w #[] #[.int .i64 0, .int .i64 16] #[.int .i64 0, .int .i64 32, .int .i64 16] #[.slice (some ⟨w.heap.size, 0, none⟩) 0 0, .slice (some ⟨w.heap.size + 1, 0, none⟩) 2 2, .slice (some ⟨w.heap.size + 1 + 1, 0, none⟩) 3 3] 3 3 3 22).2.2.2.2, TpAt.four w m hm⟩
  generalize World.alloc (World.alloc (World.alloc (World.alloc w _) _) _) _ = w1 at *
  generalize w.heap.size + 1 + 1 + 1 = bt at *
  have h1 : (m : Int) ≤ 2 := by omega
  have HN := hid (NwAt.begin w1)
  go_upto_region 5 with fail
  generalize hw2 : World.alloc w1 _ = w2
  have HN2 : Hid (NwAt w1 w2 w1.heap.size noS [] []) := by rw [← hw2]; exact HN.out
  clear hw2 HN
  generalize w1.heap.size = pc at *
  go_wp2_with fail
  go_loopw [5, 6] (fun s5 _ wr => ∃ (i : Nat) (v : Value) (Q : List (Nat × Nat)), i ≤ (tapsN m).length ∧ s5 = .int .i64 (i : Int) ∧ Q.length = i ∧ NwAt w1 wr pc v Q (((tapsN m).take i).map newS)) (fun s5 _ _ => (tapsN m).length - (intOf s5).toNat)
  case atStart => exact ⟨0, noS, [], Nat.zero_le _, rfl, rfl, HN2.out⟩
  case round =>
    clear HN2
    obtain ⟨i, v, Q, hi, rfl, hQ, hq⟩ := hrel
    subst hQ
    have HQ := hid hq
    obtain ⟨ao, cap, ev⟩ := owns_sl hq.own
    subst ev
    clear hq
    have HT : Hid (TpAt wr bt m) := by
      obtain ⟨bl, h1, h2⟩ := HB.out.2
      exact ⟨bl, low_cell HQ.out.bl h1, fun i hi => low_cell HQ.out.bl (h2 i hi)⟩
    obtain ⟨bl, t1, t2⟩ := HT.out
    have HT2 := hid t2
    clear t2 HT
    have c0 : wr.cell? ⟨pc, 0, none⟩ = some (.slice ao Q.length cap) := HQ.out.box.c 0 _ rfl
    obtain ⟨tl, htl⟩ : ∃ tl, tl = (tapsN m).length := ⟨_, rfl⟩
    have HTE := hid htl
    have htl3 : tl ≤ 3 := by have := HTL.out; omega
    rw [← htl] at t1 hi ⊢
    clear htl
    by_cases hlt : Q.length < tl
    · have r1 := HT2.out Q.length (by rw [← HTE.out]; exact hlt)
      obtain ⟨n, hn⟩ : ∃ n, n = (tapsN m).getD Q.length 0 := ⟨_, rfl⟩
      have hn32 : n ≤ 32 := by
        rw [hn]
        have hl : Q.length < (tapsN m).length := by rw [← HTE.out]; exact hlt
        rw [List.getD_eq_getElem?_getD, List.getElem?_eq_getElem hl]
        exact tapsN_ok _ (List.getElem_mem hl)
      have HNX : Hid (((tapsN m).take (Q.length + 1)).map newS = ((tapsN m).take Q.length).map newS ++ [newS n]) := by
        have hl : Q.length < (tapsN m).length := by rw [← HTE.out]; exact hlt
        show _ = _
        rw [List.take_add_one, List.getElem?_eq_getElem hl, Option.toList_some, List.map_append, hn, List.getD_eq_getElem?_getD, List.getElem?_eq_getElem hl]
        rfl
      rw [← hn] at r1
      clear hn
      obtain ⟨ml, hml⟩ : ∃ ml, ml = max 1 n := ⟨_, rfl⟩
      have HML : Hid (ml = max 1 n) := hml
      have hml32 : ml ≤ 32 := by omega
      clear hml
      obtain ⟨iI, hI0, hI1, hI2, hI3⟩ := info_parts5 infoPX
      have HII : Hid (Try.prog.info? 57 = some iI ∧ iI.zero = some (.pointer none) ∧ iI.size = 1 ∧ iI.bytes = 8) := ⟨hI0, hI1, hI2, hI3⟩
      clear hI0 hI1 hI2 hI3
      go_upto_region 9 with fail
      refine wp_region_Z (z := 16) (S := fun wx => Hid (wx.cell? ⟨pc, 0, none⟩ = some (.slice ao Q.length cap))) (by kernel_rfl) (hid c0) (fun hS => ?_)
      refine wpAnyZ_take (i := 0) (v := .pointer (some ⟨pc, 0, none⟩)) rfl (by kernel_rfl) (by kernel_rfl) (by kernel_rfl) (by kernel_rfl) (fun _ _ _ h => h) (Or.inl ⟨by rfl, fun w hSw => by go_simp⟩) hS ?_
      simp only [Act.put, List.getElem_toArray, List.getElem_cons_succ, List.getElem_cons_zero, List.setIfInBounds_toArray, List.set_cons_zero, List.set_cons_succ]
      refine wpAnyZ_take (i := 1) (v := .pointer (some ⟨pc, 0, none⟩)) rfl (by kernel_rfl) (by kernel_rfl) (by kernel_rfl) (by kernel_rfl) (fun _ _ _ h => h) (Or.inl ⟨by rfl, fun w hSw => by go_simp⟩) hS ?_
      simp only [Act.put, List.getElem_toArray, List.getElem_cons_succ, List.getElem_cons_zero, List.setIfInBounds_toArray, List.set_cons_zero, List.set_cons_succ]
      refine wpAnyZ_take (i := 2) (v := .pointer (some ⟨pc, 0, none⟩)) rfl (by kernel_rfl) (by kernel_rfl) (by kernel_rfl) (by kernel_rfl) (fun _ _ _ h => h) (Or.inl ⟨by rfl, fun w hSw => by go_simp⟩) hS ?_
      simp only [Act.put, List.getElem_toArray, List.getElem_cons_succ, List.getElem_cons_zero, List.setIfInBounds_toArray, List.set_cons_zero, List.set_cons_succ]
      refine wpAnyZ_take (i := 3) (v := .pointer (some ⟨pc, 0, none⟩)) rfl (by kernel_rfl) (by kernel_rfl) (by kernel_rfl) (by kernel_rfl) (fun _ _ _ h => h) (Or.inl ⟨by rfl, fun w hSw => by go_simp⟩) hS ?_
      simp only [Act.put, List.getElem_toArray, List.getElem_cons_succ, List.getElem_cons_zero, List.setIfInBounds_toArray, List.set_cons_zero, List.set_cons_succ]
      refine wpAnyZ_take (i := 4) (v := .slice ao Q.length cap) rfl (by kernel_rfl) (by kernel_rfl) (by kernel_rfl) (by kernel_rfl) (fun _ _ _ h => h) (Or.inl ⟨by rfl, fun w hSw => by have d := hSw.out; go_simp⟩) hS ?_
      simp only [Act.put, List.getElem_toArray, List.getElem_cons_succ, List.getElem_cons_zero, List.setIfInBounds_toArray, List.set_cons_zero, List.set_cons_succ]
      refine wpAnyZ_take (i := 5) (v := .int .i64 (n : Int)) rfl (by kernel_rfl) (by kernel_rfl) (by kernel_rfl) (by kernel_rfl) (fun _ _ _ h => h) (Or.inl ⟨by rfl, fun w hSw => by go_simp⟩) hS ?_
      simp only [Act.put, List.getElem_toArray, List.getElem_cons_succ, List.getElem_cons_zero, List.setIfInBounds_toArray, List.set_cons_zero, List.set_cons_succ]
      refine wpAnyZ_take (i := 7) (v := .int .i64 (n : Int)) rfl (by kernel_rfl) (by kernel_rfl) (by kernel_rfl) (by kernel_rfl) (fun _ _ _ h => h) (Or.inl ⟨by rfl, fun w hSw => by go_simp⟩) hS ?_
      simp only [Act.put, List.getElem_toArray, List.getElem_cons_succ, List.getElem_cons_zero, List.setIfInBounds_toArray, List.set_cons_zero, List.set_cons_succ]
      refine wpAnyZ_take (i := 8) (v := .int .i64 (ml : Int)) rfl (by kernel_rfl) (by kernel_rfl) (by kernel_rfl) (by kernel_rfl) (fun _ _ _ h => h) (Or.inl ⟨by rfl, fun w hSw => by go_simp <;> (have q := HML.out; split <;> omega)⟩) hS ?_
      simp only [Act.put, List.getElem_toArray, List.getElem_cons_succ, List.getElem_cons_zero, List.setIfInBounds_toArray, List.set_cons_zero, List.set_cons_succ]
      refine wpAnyZ_ready (rs := [6, 9]) (by kernel_rfl) (by simp) ?_
      refine AllReadyZ.cons rfl (fun K hK => ?_) (AllReadyZ.cons rfl (fun K hK => ?_) AllReadyZ.nil)
      · have hmk := make_ints n (by omega) wr.drew
        go_simp
        clear hmk
        generalize hw5 : (World.alloc wr _).drew = w5
        have H5 : Hid (w5.heap[wr.heap.size]? = some (.cells (madeCells #[.int .i64 0] n) 3 (0, 0)) ∧ Below wr.heap.size wr w5 ∧ wr.heap.size < w5.heap.size) := by
          rw [← hw5]
          exact ⟨heap_alloc_new _ _, (below_new _ _).trans (below_on (Below.refl _ _) (by simp) (below_drew _)), by simp⟩
        refine hK.out _ _ (fun _ => hid (low_cell H5.out.2.1 c0)) ?_
        clear hK K hw5 hS
        try simp only [Act.put, List.getElem_toArray, List.getElem_cons_succ, List.getElem_cons_zero, List.setIfInBounds_toArray, List.set_cons_zero, List.set_cons_succ]
        refine wpAnyZ_ready (rs := [9]) (by kernel_rfl) (by simp) ?_
        refine AllReadyZ.cons rfl (fun K hK => ?_) AllReadyZ.nil
        have hmk := make_ints ml (by omega) w5
        go_simp
        clear hmk
        generalize hw6 : World.alloc w5 _ = w6
        have HM : Hid (w6.heap[wr.heap.size]? = some (.cells (madeCells #[.int .i64 0] n) 3 (0, 0)) ∧ w6.heap[w5.heap.size]? = some (.cells (madeCells #[.int .i64 0] ml) 3 (0, 0)) ∧ Below wr.heap.size wr w6 ∧ wr.heap.size < w6.heap.size ∧ w5.heap.size < w6.heap.size) := by
          have hb : Below wr.heap.size wr w6 := by rw [← hw6]; exact below_on H5.out.2.1 H5.out.2.1.size (below_new _ _)
          have h1 : w6.heap[wr.heap.size]? = some (.cells (madeCells #[.int .i64 0] n) 3 (0, 0)) := by rw [← hw6]; exact ((below_new w5 _).block _ (lt_of_block H5.out.1)).trans H5.out.1
          have h2 : w6.heap[w5.heap.size]? = some (.cells (madeCells #[.int .i64 0] ml) 3 (0, 0)) := by rw [← hw6]; exact heap_alloc_new _ _
          exact ⟨h1, h2, hb, lt_of_block h1, lt_of_block h2⟩
        refine hK.out _ _ (fun _ => hid (low_cell HM.out.2.2.1 c0)) ?_
        clear hK K hw6
        try simp only [Act.put, List.getElem_toArray, List.getElem_cons_succ, List.getElem_cons_zero, List.setIfInBounds_toArray, List.set_cons_zero, List.set_cons_succ]
        refine wpAnyZ_take (i := 10) (v := .agg #[.slice (some ⟨wr.heap.size, 0, none⟩) n n, .slice (some ⟨w5.heap.size, 0, none⟩) ml ml]) rfl (by kernel_rfl) (by kernel_rfl) (by kernel_rfl) (by kernel_rfl) (fun _ _ _ h => h) (Or.inl ⟨by rfl, fun w hSw => by go_simp⟩) (hid (low_cell HM.out.2.2.1 c0)) ?_
        simp only [Act.put, List.getElem_toArray, List.getElem_cons_succ, List.getElem_cons_zero, List.setIfInBounds_toArray, List.set_cons_zero, List.set_cons_succ]
        refine wpAnyZ_ready (rs := [11]) (by kernel_rfl) (by simp) ?_
        refine AllReadyZ.cons rfl (fun K hK => ?_) AllReadyZ.nil
        go_simp
        generalize hw7 : World.alloc w6 _ = w7
        have H7 : Hid (StpAt w7 w6.heap.size wr.heap.size w5.heap.size ml (newS n) ∧ Below wr.heap.size wr w7) := by
          have h5 := H5.out.2.2
          obtain ⟨m1, m2, m3, m4, m5⟩ := HM.out
          rw [← hw7]
          exact ⟨StpAt.new HML.out (by omega) (heap_alloc_new _ _) (((below_new w6 _).block _ m4).trans m1) (((below_new w6 _).block _ m5).trans m2) (by omega) (by omega) (by omega), below_on m3 m3.size (below_new _ _)⟩
        refine hK.out _ _ (fun _ => hid (low_cell H7.out.2 c0)) ?_
        clear hK K hw7
        try simp only [Act.put, List.getElem_toArray, List.getElem_cons_succ, List.getElem_cons_zero, List.setIfInBounds_toArray, List.set_cons_zero, List.set_cons_succ]
        refine wpAnyZ_ready (rs := [12]) (by kernel_rfl) (by simp) ?_
        refine AllReadyZ.cons rfl (fun K hK => ?_) AllReadyZ.nil
        go_simp
        generalize hw8 : World.alloc w7 _ = w8
        have H8 : Hid (StpAt w8 w6.heap.size wr.heap.size w5.heap.size ml (newS n) ∧ Below wr.heap.size wr w8 ∧ (∀ j u, [Value.pointer (some ⟨w6.heap.size, 0, none⟩)][j]? = some u → w8.cell? ((⟨w7.heap.size, 0, none⟩ : Addr).add j) = some u)) := by
          rw [← hw8]
          exact ⟨H7.out.1.low (below_new _ _), below_on H7.out.2 H7.out.2.size (below_new _ _), one_new _ _ _⟩
        refine hK.out _ _ (fun _ => hid (low_cell H8.out.2.1 c0)) ?_
        clear hK K hw8
        try simp only [Act.put, List.getElem_toArray, List.getElem_cons_succ, List.getElem_cons_zero, List.setIfInBounds_toArray, List.set_cons_zero, List.set_cons_succ]
        refine wpAnyZ_ready (rs := [13]) (by kernel_rfl) (by simp) ?_
        refine AllReadyZ.cons rfl (fun K hK => ?_) AllReadyZ.nil
        refine step_append_row _ rfl (.tmp 39) (.tmp 47) 54 rfl w1.heap.size 57 iI (.pointer none) 1 8 Try.underlying54 HII.out.1 HII.out.2.1 HII.out.2.2.1 HII.out.2.2.2 rfl (by decide) (.slice ao Q.length cap) Q.length _ rfl (owns_below HQ.out.own H8.out.2.1) ⟨w7.heap.size, 0, none⟩ 1 1 [.pointer (some ⟨w6.heap.size, 0, none⟩)] rfl rfl H8.out.2.2 (by simp [Value.oneCell']) (by simp only [maxLen]; omega) (by omega) (by have := HQ.out.bl.size; have := H8.out.2.1.size; omega) ?_
        intro v9 w9 ho9 hg9 hv9
        obtain ⟨g9, c9, rfl, _, _⟩ := ho9.out.form (Nat.succ_pos _)
        have hp9 : w9.cell? ⟨pc, 0, none⟩ = some (.slice ao Q.length cap) := hg9.out.cell (low_cell H8.out.2.1 c0) (fun e => HQ.out.vpc e.symm)
        have hf9 : w9.frozen? ⟨pc, 0, none⟩ = false := fz_of ((hg9.out.block pc (by have := HQ.out.box.lt; have := H8.out.2.1.size; omega) (fun e => HQ.out.vpc e.symm)).trans ((H8.out.2.1.block _ HQ.out.box.lt).trans HQ.out.box.h)) 0
        have HP : Hid (NwAt w1 (w9.setCell ⟨pc, 0, none⟩ (.slice (some ⟨g9, 0, none⟩) (Q.length + 1) c9)) pc (.slice (some ⟨g9, 0, none⟩) (Q.length + 1) c9) (Q ++ [(w6.heap.size, wr.heap.size)]) (((tapsN m).take Q.length).map newS ++ [newS n])) := by
          obtain ⟨m1, m2, m3, m4, m5⟩ := HM.out
          have h5 := H5.out.2.1.size
          have h6 := m3.size
          exact HQ.out.push H8.out.2.1 H8.out.1 (by omega) (by omega) (by omega) ⟨n, hn32, newS_ok n⟩ (by omega) ho9.out hg9.out hv9.out
        refine hK.out _ _ (fun _ => hid hp9) ?_
        clear hK K ho9 hg9 hv9
        try simp only [Act.put, List.getElem_toArray, List.getElem_cons_succ, List.getElem_cons_zero, List.setIfInBounds_toArray, List.set_cons_zero, List.set_cons_succ]
        refine wpAnyZ_ready (rs := [14]) (by kernel_rfl) (by simp) ?_
        refine AllReadyZ.cons rfl (fun K hK => ?_) AllReadyZ.nil
        go_simp
        refine hK.out _ _ (fun _ => hid hp9) ?_
        clear hK K
        try simp only [Act.put, List.getElem_toArray, List.getElem_cons_succ, List.getElem_cons_zero, List.setIfInBounds_toArray, List.set_cons_zero, List.set_cons_succ]
        refine wpAnyZ_take (i := 15) (v := .pointer (some ⟨pc, 0, none⟩)) rfl (by kernel_rfl) (by kernel_rfl) (by kernel_rfl) (by kernel_rfl) (fun _ _ _ h => h) (Or.inl ⟨by rfl, fun w hSw => by go_simp⟩) (hid hp9) ?_
        simp only [Act.put, List.getElem_toArray, List.getElem_cons_succ, List.getElem_cons_zero, List.setIfInBounds_toArray, List.set_cons_zero, List.set_cons_succ]
        refine wpAnyZ_ready (rs := [16]) (by kernel_rfl) (by simp) ?_
        refine AllReadyZ.cons rfl (fun K hK => ?_) AllReadyZ.nil
        go_simp
        refine hK.out _ _ (fun h => absurd rfl h) ?_
        clear hK K
        refine wpAnyZ_done (by kernel_rfl) ?_ _
        go_wp2_with fail
        go_roundw
        case rel => exact ⟨Q.length + 1, .slice (some ⟨g9, 0, none⟩) (Q.length + 1) c9, Q ++ [(w6.heap.size, wr.heap.size)], by omega, by go_num, by simp, by rw [HNX.out]; exact HP.out⟩
        case measure => simp [intOf]; omega
      · have hmk := make_ints ml (by omega) wr.drew
        go_simp
        clear hmk
        generalize hw5 : (World.alloc wr _).drew = w5
        have H5 : Hid (w5.heap[wr.heap.size]? = some (.cells (madeCells #[.int .i64 0] ml) 3 (0, 0)) ∧ Below wr.heap.size wr w5 ∧ wr.heap.size < w5.heap.size) := by
          rw [← hw5]
          exact ⟨heap_alloc_new _ _, (below_new _ _).trans (below_on (Below.refl _ _) (by simp) (below_drew _)), by simp⟩
        refine hK.out _ _ (fun _ => hid (low_cell H5.out.2.1 c0)) ?_
        clear hK K hw5 hS
        try simp only [Act.put, List.getElem_toArray, List.getElem_cons_succ, List.getElem_cons_zero, List.setIfInBounds_toArray, List.set_cons_zero, List.set_cons_succ]
        refine wpAnyZ_ready (rs := [6]) (by kernel_rfl) (by simp) ?_
        refine AllReadyZ.cons rfl (fun K hK => ?_) AllReadyZ.nil
        have hmk := make_ints n (by omega) w5
        go_simp
        clear hmk
        generalize hw6 : World.alloc w5 _ = w6
        have HM : Hid (w6.heap[w5.heap.size]? = some (.cells (madeCells #[.int .i64 0] n) 3 (0, 0)) ∧ w6.heap[wr.heap.size]? = some (.cells (madeCells #[.int .i64 0] ml) 3 (0, 0)) ∧ Below wr.heap.size wr w6 ∧ w5.heap.size < w6.heap.size ∧ wr.heap.size < w6.heap.size) := by
          have hb : Below wr.heap.size wr w6 := by rw [← hw6]; exact below_on H5.out.2.1 H5.out.2.1.size (below_new _ _)
          have h1 : w6.heap[w5.heap.size]? = some (.cells (madeCells #[.int .i64 0] n) 3 (0, 0)) := by rw [← hw6]; exact heap_alloc_new _ _
          have h2 : w6.heap[wr.heap.size]? = some (.cells (madeCells #[.int .i64 0] ml) 3 (0, 0)) := by rw [← hw6]; exact ((below_new w5 _).block _ (lt_of_block H5.out.1)).trans H5.out.1
          exact ⟨h1, h2, hb, lt_of_block h1, lt_of_block h2⟩
        refine hK.out _ _ (fun _ => hid (low_cell HM.out.2.2.1 c0)) ?_
        clear hK K hw6
        try simp only [Act.put, List.getElem_toArray, List.getElem_cons_succ, List.getElem_cons_zero, List.setIfInBounds_toArray, List.set_cons_zero, List.set_cons_succ]
        refine wpAnyZ_take (i := 10) (v := .agg #[.slice (some ⟨w5.heap.size, 0, none⟩) n n, .slice (some ⟨wr.heap.size, 0, none⟩) ml ml]) rfl (by kernel_rfl) (by kernel_rfl) (by kernel_rfl) (by kernel_rfl) (fun _ _ _ h => h) (Or.inl ⟨by rfl, fun w hSw => by go_simp⟩) (hid (low_cell HM.out.2.2.1 c0)) ?_
        simp only [Act.put, List.getElem_toArray, List.getElem_cons_succ, List.getElem_cons_zero, List.setIfInBounds_toArray, List.set_cons_zero, List.set_cons_succ]
        refine wpAnyZ_ready (rs := [11]) (by kernel_rfl) (by simp) ?_
        refine AllReadyZ.cons rfl (fun K hK => ?_) AllReadyZ.nil
        go_simp
        generalize hw7 : World.alloc w6 _ = w7
        have H7 : Hid (StpAt w7 w6.heap.size w5.heap.size wr.heap.size ml (newS n) ∧ Below wr.heap.size wr w7) := by
          have h5 := H5.out.2.2
          obtain ⟨m1, m2, m3, m4, m5⟩ := HM.out
          rw [← hw7]
          exact ⟨StpAt.new HML.out (by omega) (heap_alloc_new _ _) (((below_new w6 _).block _ m4).trans m1) (((below_new w6 _).block _ m5).trans m2) (by omega) (by omega) (by omega), below_on m3 m3.size (below_new _ _)⟩
        refine hK.out _ _ (fun _ => hid (low_cell H7.out.2 c0)) ?_
        clear hK K hw7
        try simp only [Act.put, List.getElem_toArray, List.getElem_cons_succ, List.getElem_cons_zero, List.setIfInBounds_toArray, List.set_cons_zero, List.set_cons_succ]
        refine wpAnyZ_ready (rs := [12]) (by kernel_rfl) (by simp) ?_
        refine AllReadyZ.cons rfl (fun K hK => ?_) AllReadyZ.nil
        go_simp
        generalize hw8 : World.alloc w7 _ = w8
        have H8 : Hid (StpAt w8 w6.heap.size w5.heap.size wr.heap.size ml (newS n) ∧ Below wr.heap.size wr w8 ∧ (∀ j u, [Value.pointer (some ⟨w6.heap.size, 0, none⟩)][j]? = some u → w8.cell? ((⟨w7.heap.size, 0, none⟩ : Addr).add j) = some u)) := by
          rw [← hw8]
          exact ⟨H7.out.1.low (below_new _ _), below_on H7.out.2 H7.out.2.size (below_new _ _), one_new _ _ _⟩
        refine hK.out _ _ (fun _ => hid (low_cell H8.out.2.1 c0)) ?_
        clear hK K hw8
        try simp only [Act.put, List.getElem_toArray, List.getElem_cons_succ, List.getElem_cons_zero, List.setIfInBounds_toArray, List.set_cons_zero, List.set_cons_succ]
        refine wpAnyZ_ready (rs := [13]) (by kernel_rfl) (by simp) ?_
        refine AllReadyZ.cons rfl (fun K hK => ?_) AllReadyZ.nil
        refine step_append_row _ rfl (.tmp 39) (.tmp 47) 54 rfl w1.heap.size 57 iI (.pointer none) 1 8 Try.underlying54 HII.out.1 HII.out.2.1 HII.out.2.2.1 HII.out.2.2.2 rfl (by decide) (.slice ao Q.length cap) Q.length _ rfl (owns_below HQ.out.own H8.out.2.1) ⟨w7.heap.size, 0, none⟩ 1 1 [.pointer (some ⟨w6.heap.size, 0, none⟩)] rfl rfl H8.out.2.2 (by simp [Value.oneCell']) (by simp only [maxLen]; omega) (by omega) (by have := HQ.out.bl.size; have := H8.out.2.1.size; omega) ?_
        intro v9 w9 ho9 hg9 hv9
        obtain ⟨g9, c9, rfl, _, _⟩ := ho9.out.form (Nat.succ_pos _)
        have hp9 : w9.cell? ⟨pc, 0, none⟩ = some (.slice ao Q.length cap) := hg9.out.cell (low_cell H8.out.2.1 c0) (fun e => HQ.out.vpc e.symm)
        have hf9 : w9.frozen? ⟨pc, 0, none⟩ = false := fz_of ((hg9.out.block pc (by have := HQ.out.box.lt; have := H8.out.2.1.size; omega) (fun e => HQ.out.vpc e.symm)).trans ((H8.out.2.1.block _ HQ.out.box.lt).trans HQ.out.box.h)) 0
        have HP : Hid (NwAt w1 (w9.setCell ⟨pc, 0, none⟩ (.slice (some ⟨g9, 0, none⟩) (Q.length + 1) c9)) pc (.slice (some ⟨g9, 0, none⟩) (Q.length + 1) c9) (Q ++ [(w6.heap.size, w5.heap.size)]) (((tapsN m).take Q.length).map newS ++ [newS n])) := by
          obtain ⟨m1, m2, m3, m4, m5⟩ := HM.out
          have h5 := H5.out.2.1.size
          have h6 := m3.size
          exact HQ.out.push H8.out.2.1 H8.out.1 (by omega) (by omega) (by omega) ⟨n, hn32, newS_ok n⟩ (by omega) ho9.out hg9.out hv9.out
        refine hK.out _ _ (fun _ => hid hp9) ?_
        clear hK K ho9 hg9 hv9
        try simp only [Act.put, List.getElem_toArray, List.getElem_cons_succ, List.getElem_cons_zero, List.setIfInBounds_toArray, List.set_cons_zero, List.set_cons_succ]
        refine wpAnyZ_ready (rs := [14]) (by kernel_rfl) (by simp) ?_
        refine AllReadyZ.cons rfl (fun K hK => ?_) AllReadyZ.nil
        go_simp
        refine hK.out _ _ (fun _ => hid hp9) ?_
        clear hK K
        try simp only [Act.put, List.getElem_toArray, List.getElem_cons_succ, List.getElem_cons_zero, List.setIfInBounds_toArray, List.set_cons_zero, List.set_cons_succ]
        refine wpAnyZ_take (i := 15) (v := .pointer (some ⟨pc, 0, none⟩)) rfl (by kernel_rfl) (by kernel_rfl) (by kernel_rfl) (by kernel_rfl) (fun _ _ _ h => h) (Or.inl ⟨by rfl, fun w hSw => by go_simp⟩) (hid hp9) ?_
        simp only [Act.put, List.getElem_toArray, List.getElem_cons_succ, List.getElem_cons_zero, List.setIfInBounds_toArray, List.set_cons_zero, List.set_cons_succ]
        refine wpAnyZ_ready (rs := [16]) (by kernel_rfl) (by simp) ?_
        refine AllReadyZ.cons rfl (fun K hK => ?_) AllReadyZ.nil
        go_simp
        refine hK.out _ _ (fun h => absurd rfl h) ?_
        clear hK K
        refine wpAnyZ_done (by kernel_rfl) ?_ _
        go_wp2_with fail
        go_roundw
        case rel => exact ⟨Q.length + 1, .slice (some ⟨g9, 0, none⟩) (Q.length + 1) c9, Q ++ [(w6.heap.size, w5.heap.size)], by omega, by go_num, by simp, by rw [HNX.out]; exact HP.out⟩
        case measure => simp [intOf]; omega
    · have HF : Hid (NwAt w1 wr pc (.slice ao Q.length cap) Q ((tapsN m).map newS)) := by
        have := HQ.out
        rw [List.take_of_length_le (by rw [← HTE.out]; omega)] at this
        exact this
      go_wp2_with fail
      go_ret
      obtain ⟨ao2, cap2, _, hc⟩ := HF.out.done
      have hb := HB.out.1
      exact ⟨pc, ao2, cap2, Q, rfl, hc.low (Below.refl _ _) (fun k q => ⟨Nat.le_trans hb.size q.1, q.2⟩), below_on hb hb.size HF.out.bl⟩

end Go.Proofs.Ytecdcmjeiogenaa
