/- Own text. -/
import Derived.Test.YtfpfabmbipmipaaGreatDoorA22
set_option linter.unusedSimpArgs false
set_option linter.unusedVariables false
set_option maxRecDepth 20000
set_option maxHeartbeats 12800000
namespace Go.Proofs.YtfpfabmbipmipaaGreatDoor
open Go.RowKit
theorem s_rhead (x : Nat) (s : ByteArray) (hs : s.size <= 1000000000000000000) (a : Nat) (ha : a <= 8 * s.size) (b v : Int) (hb : 1 <= b) (hv : 1 <= v) (w : World) (h : Rd w x s a) :
  Calls Tryz.prog 140 #[.pointer (some ⟨x, 0, none⟩), .int .i64 b, .int .i64 v] w fun e w' => Stays (only x) w w' /\ OPost (rdSHead s a b v) (∃ k o n, e = .returned (.tuple #[subV ⟨k, o, n, 0, 0, [], R0⟩ none 0 none 0 none 0, .bool false])) (fun p => e = .returned (.tuple #[subV ⟨p.1, p.2.1, p.2.2.1, 0, 0, [], R0⟩ none 0 none 0 none 0, .bool true]) /\ Rd w' x s p.2.2.2) := by
 have g1 := getA_le s a 1 ha
 have g6 := getA_le s (getA s a 1) 6 g1
 have KN1 : Hid (∀ wx, Rd wx x s a -> Calls Tryz.prog 176 #[.pointer (some ⟨x, 0, none⟩), .int .i64 1] wx fun en w' => en = .returned (.tuple #[.int .i64 (getV s a 1), .bool (getE s a 1 == 0)]) /\ Rd w' x s (getA s a 1) /\ Stays (only x) wx w') := fun wx hh => s_num x s hs a ha 1 (by decide) (by decide) wx hh
 have KN6 : Hid (∀ wx, Rd wx x s (getA s a 1) -> Calls Tryz.prog 176 #[.pointer (some ⟨x, 0, none⟩), .int .i64 6] wx fun en w' => en = .returned (.tuple #[.int .i64 (getV s (getA s a 1) 6), .bool (getE s (getA s a 1) 6 == 0)]) /\ Rd w' x s (getA s (getA s a 1) 6) /\ Stays (only x) wx w') := fun wx hh => s_num x s hs (getA s a 1) g1 6 (by decide) (by decide) wx hh
 have H0 : Hid (HDS w x s a (w.alloc (.cells (subC ⟨0, 0, 0, 0, 0, [], R0⟩ none 0 none 0 none 0) 67))) := HDS.start h
 clear h
 by_cases e1 : getE s a 1 = 0
 case neg =>
  have HW : Hid (rdSHead s a b v = none) := rdS_1 s a b v e1
  have hb1 : (getE s a 1 == 0) = false := by rw [beq_eq_false_iff_ne]; assumption
  rw [hb1] at KN1
  clear hb1 e1
  generalize getV s a 1 = vv at *
  go_enter Tryz.func140, Tryz.ntmps140
  go_upto_region 1 with fail
  generalize World.alloc _ _ = wa at *
  have kn := KN1.out wa H0.out.rd
  go_wp2_with fail
  refine kn.mono ?_
  rintro e w1 ⟨rfl, h2, h3⟩
  have H1 := kQ (H0.out.then_ h2 h3)
  clear kn h2 h3 H0 KN1
  obtain ⟨x0, x1, x2, x3, x4, x5, x6, x7, x8, x9⟩ := sub_cells H1.out.zb
  have fu0 := row_frozen H1.out.zb 0
  have fu1 := row_frozen H1.out.zb 1
  have fu2 := row_frozen H1.out.zb 2
  have fu3 := row_frozen H1.out.zb 3
  have fu4 := row_frozen H1.out.zb 4
  have fu5 := row_frozen H1.out.zb 5
  have fu6 := row_frozen H1.out.zb 6
  have fu7 := row_frozen H1.out.zb 7
  have fu8 := row_frozen H1.out.zb 8
  have fu9 := row_frozen H1.out.zb 9
  go_wp2_with fail
  generalize hwf : World.setCell _ _ _ = wf
  have hH : wf.heap[w.heap.size]? = some (.cells (subC ⟨0, 0, 0, 0, 0, [], R0⟩ none 0 none 0 none 0) 67 (0, 0)) := by rw [<- hwf]; exact set10_a _ _ _ _ _ _ _ _ _ _ _ H1.out.zb
  have hS : Stays (only x) w wf := by rw [<- hwf]; exact set10_c _ _ _ _ _ _ _ _ _ _ _ _ _ (Or.inr (Nat.le_refl _)) H1.out.st
  refine bodyPost_ret (v := .tuple #[.agg (subC ⟨0, 0, 0, 0, 0, [], R0⟩ none 0 none 0 none 0), .bool false]) ?_ rfl ⟨hS, OPost.none_ HW.out ⟨_, _, _, rfl⟩⟩
  rw [results_two rfl]
  have hld := run_loadVar_row (P := Tryz.prog) (wf) (w.heap.size) 67 67 (subC ⟨0, 0, 0, 0, 0, [], R0⟩ none 0 none 0 none 0) (0, 0) _ hH Tryz.underlying67 rfl info_Sub
  simp [asAddr, Result.andThen, hld]
 by_cases v1 : getV s a 1 = 0
 case neg =>
  have HW : Hid (rdSHead s a b v = none) := rdS_3 s a b v e1 v1
  have hvb : (getV s a 1 != 0) = true := by rw [bne_iff_ne]; exact v1
  have hb1 : (getE s a 1 == 0) = true := by rw [beq_iff_eq]; assumption
  rw [hb1] at KN1
  clear hb1 e1 v1
  generalize getV s a 1 = vv at *
  go_enter Tryz.func140, Tryz.ntmps140
  go_upto_region 1 with fail
  generalize World.alloc _ _ = wa at *
  have kn := KN1.out wa H0.out.rd
  go_wp2_with fail
  refine kn.mono ?_
  rintro e w1 ⟨rfl, h2, h3⟩
  have H1 := kQ (H0.out.then_ h2 h3)
  clear kn h2 h3 H0 KN1
  obtain ⟨x0, x1, x2, x3, x4, x5, x6, x7, x8, x9⟩ := sub_cells H1.out.zb
  have fu0 := row_frozen H1.out.zb 0
  have fu1 := row_frozen H1.out.zb 1
  have fu2 := row_frozen H1.out.zb 2
  have fu3 := row_frozen H1.out.zb 3
  have fu4 := row_frozen H1.out.zb 4
  have fu5 := row_frozen H1.out.zb 5
  have fu6 := row_frozen H1.out.zb 6
  have fu7 := row_frozen H1.out.zb 7
  have fu8 := row_frozen H1.out.zb 8
  have fu9 := row_frozen H1.out.zb 9
  go_wp2_with fail
  generalize hwf : World.setCell _ _ _ = wf
  have hH : wf.heap[w.heap.size]? = some (.cells (subC ⟨0, 0, 0, 0, 0, [], R0⟩ none 0 none 0 none 0) 67 (0, 0)) := by rw [<- hwf]; exact set10_a _ _ _ _ _ _ _ _ _ _ _ H1.out.zb
  have hS : Stays (only x) w wf := by rw [<- hwf]; exact set10_c _ _ _ _ _ _ _ _ _ _ _ _ _ (Or.inr (Nat.le_refl _)) H1.out.st
  refine bodyPost_ret (v := .tuple #[.agg (subC ⟨0, 0, 0, 0, 0, [], R0⟩ none 0 none 0 none 0), .bool false]) ?_ rfl ⟨hS, OPost.none_ HW.out ⟨_, _, _, rfl⟩⟩
  rw [results_two rfl]
  have hld := run_loadVar_row (P := Tryz.prog) (wf) (w.heap.size) 67 67 (subC ⟨0, 0, 0, 0, 0, [], R0⟩ none 0 none 0 none 0) (0, 0) _ hH Tryz.underlying67 rfl info_Sub
  simp [asAddr, Result.andThen, hld]
 by_cases e6 : getE s (getA s a 1) 6 = 0
 case neg =>
  have HW : Hid (rdSHead s a b v = none) := rdS_2 s a b v e1 e6
  have hb1 : (getE s a 1 == 0) = true := by rw [beq_iff_eq]; assumption
  have hb6 : (getE s (getA s a 1) 6 == 0) = false := by rw [beq_eq_false_iff_ne]; assumption
  rw [hb1, v1] at KN1
  rw [hb6] at KN6
  clear hb1 hb6 e1 e6 v1
  generalize getV s (getA s a 1) 6 = vv at *
  go_enter Tryz.func140, Tryz.ntmps140
  go_upto_region 1 with fail
  generalize World.alloc _ _ = wa at *
  have kn := KN1.out wa H0.out.rd
  go_wp2_with fail
  refine kn.mono ?_
  rintro e w1 ⟨rfl, h2, h3⟩
  have H1 := kQ (H0.out.then_ h2 h3)
  clear kn h2 h3 H0 KN1
  have kn := KN6.out w1 H1.out.rd
  go_wp2_with fail
  refine kn.mono ?_
  rintro e w2 ⟨rfl, h2, h3⟩
  have H2 := kQ (H1.out.then_ h2 h3)
  clear kn h2 h3 H1 KN6
  obtain ⟨x0, x1, x2, x3, x4, x5, x6, x7, x8, x9⟩ := sub_cells H2.out.zb
  have fu0 := row_frozen H2.out.zb 0
  have fu1 := row_frozen H2.out.zb 1
  have fu2 := row_frozen H2.out.zb 2
  have fu3 := row_frozen H2.out.zb 3
  have fu4 := row_frozen H2.out.zb 4
  have fu5 := row_frozen H2.out.zb 5
  have fu6 := row_frozen H2.out.zb 6
  have fu7 := row_frozen H2.out.zb 7
  have fu8 := row_frozen H2.out.zb 8
  have fu9 := row_frozen H2.out.zb 9
  go_wp2_with fail
  generalize hwf : World.setCell _ _ _ = wf
  have hH : wf.heap[w.heap.size]? = some (.cells (subC ⟨0, 0, 0, 0, 0, [], R0⟩ none 0 none 0 none 0) 67 (0, 0)) := by rw [<- hwf]; exact set10_a _ _ _ _ _ _ _ _ _ _ _ H2.out.zb
  have hS : Stays (only x) w wf := by rw [<- hwf]; exact set10_c _ _ _ _ _ _ _ _ _ _ _ _ _ (Or.inr (Nat.le_refl _)) H2.out.st
  refine bodyPost_ret (v := .tuple #[.agg (subC ⟨0, 0, 0, 0, 0, [], R0⟩ none 0 none 0 none 0), .bool false]) ?_ rfl ⟨hS, OPost.none_ HW.out ⟨_, _, _, rfl⟩⟩
  rw [results_two rfl]
  have hld := run_loadVar_row (P := Tryz.prog) (wf) (w.heap.size) 67 67 (subC ⟨0, 0, 0, 0, 0, [], R0⟩ none 0 none 0 none 0) (0, 0) _ hH Tryz.underlying67 rfl info_Sub
  simp [asAddr, Result.andThen, hld]
 have HW := rdS_4 s a b v hv e1 v1 e6
 have bt := getV_bound s (getA s a 1) 6
 have p6 : (2 : Int) ^ (6 : Int).toNat = 64 := rfl
 rw [p6] at bt
 have hb1 : (getE s a 1 == 0) = true := by rw [beq_iff_eq]; assumption
 have hb6 : (getE s (getA s a 1) 6 == 0) = true := by rw [beq_iff_eq]; assumption
 rw [hb1, v1] at KN1
 rw [hb6] at KN6
 clear hb1 hb6 e1 e6 v1 p6
 have ko := fun wx => s_oftype (getV s (getA s a 1) 6) b bt.1 (by omega) hb wx
 have KW : Hid (∀ wx, Rd wx x s (getA s (getA s a 1) 6) -> _) := fun wx hh => s_wasted x s hs (getA s (getA s a 1) 6) g6 wx hh
 have HRG : Hid (∀ n a1, wst s (getA s (getA s a 1) 6) = some (n, a1) -> 0 <= n /\ n <= 16777217) := fun n a1 hh => ⟨(wst_rng hh g6).1, (wst_rng hh g6).2.1⟩
 clear bt g6
 generalize getV s (getA s a 1) 6 = t at *
 cases hT : ofT t b with
 | none =>
  have HW2 : Hid (rdSHead s a b v = none) := by show _ = _; rw [HW, hT]
  have KO : Hid (∀ wx, Calls Tryz.prog 177 #[.int .i64 t, .int .i64 b] wx fun e w' => Lo wx w' /\ ∃ k o, e = .returned (.tuple #[subV ⟨k, o, 0, 0, 0, [], R0⟩ none 0 none 0 none 0, .bool false])) := fun wx => (ko wx).mono fun e w' hh => by
   obtain ⟨h1, h2⟩ := hh
   rw [hT] at h2
   exact ⟨h1, h2⟩
  clear ko HW hT KW HRG
  go_enter Tryz.func140, Tryz.ntmps140
  go_upto_region 1 with fail
  generalize World.alloc _ _ = wa at *
  have kn := KN1.out wa H0.out.rd
  go_wp2_with fail
  refine kn.mono ?_
  rintro e w1 ⟨rfl, h2, h3⟩
  have H1 := kQ (H0.out.then_ h2 h3)
  clear kn h2 h3 H0 KN1
  have kn := KN6.out w1 H1.out.rd
  go_wp2_with fail
  refine kn.mono ?_
  rintro e w2 ⟨rfl, h2, h3⟩
  have H2 := kQ (H1.out.then_ h2 h3)
  clear kn h2 h3 H1 KN6
  have k3 := KO.out w2
  go_wp2_with fail
  refine k3.mono ?_
  rintro e w3 ⟨hb3, k, o, rfl⟩
  have H3 : Hid (∀ ob, HDS w x s (getA s (getA s a 1) 6) (w3.alloc ob)) := fun ob => (H2.out.low hb3).low aQ
  clear hb3 k3 KO H2
  go_upto_region 8 with fail
  generalize hwb : World.alloc _ _ = wb at *
  have H4 : Hid (HDS w x s (getA s (getA s a 1) 6) wb) := by rw [<- hwb]; exact H3.out _
  clear hwb H3
  obtain ⟨x0, x1, x2, x3, x4, x5, x6, x7, x8, x9⟩ := sub_cells H4.out.zb
  have fu0 := row_frozen H4.out.zb 0
  have fu1 := row_frozen H4.out.zb 1
  have fu2 := row_frozen H4.out.zb 2
  have fu3 := row_frozen H4.out.zb 3
  have fu4 := row_frozen H4.out.zb 4
  have fu5 := row_frozen H4.out.zb 5
  have fu6 := row_frozen H4.out.zb 6
  have fu7 := row_frozen H4.out.zb 7
  have fu8 := row_frozen H4.out.zb 8
  have fu9 := row_frozen H4.out.zb 9
  go_wp2_with fail
  generalize hwf : World.setCell _ _ _ = wf
  have hH : wf.heap[w.heap.size]? = some (.cells (subC ⟨0, 0, 0, 0, 0, [], R0⟩ none 0 none 0 none 0) 67 (0, 0)) := by rw [<- hwf]; exact set10_a _ _ _ _ _ _ _ _ _ _ _ H4.out.zb
  have hS : Stays (only x) w wf := by rw [<- hwf]; exact set10_c _ _ _ _ _ _ _ _ _ _ _ _ _ (Or.inr (Nat.le_refl _)) H4.out.st
  refine bodyPost_ret (v := .tuple #[.agg (subC ⟨0, 0, 0, 0, 0, [], R0⟩ none 0 none 0 none 0), .bool false]) ?_ rfl ⟨hS, OPost.none_ HW2.out ⟨_, _, _, rfl⟩⟩
  rw [results_two rfl]
  have hld := run_loadVar_row (P := Tryz.prog) (wf) (w.heap.size) 67 67 (subC ⟨0, 0, 0, 0, 0, [], R0⟩ none 0 none 0 none 0) (0, 0) _ hH Tryz.underlying67 rfl info_Sub
  simp [asAddr, Result.andThen, hld]
 | some p =>
  obtain ⟨k, o⟩ := p
  rw [hT] at HW
  have KO : Hid (∀ wx, Calls Tryz.prog 177 #[.int .i64 t, .int .i64 b] wx fun e w' => Lo wx w' /\ e = .returned (.tuple #[subV ⟨k, o, 0, 0, 0, [], R0⟩ none 0 none 0 none 0, .bool true])) := fun wx => (ko wx).mono fun e w' hh => by
   obtain ⟨h1, h2⟩ := hh
   rw [hT] at h2
   exact ⟨h1, h2⟩
  clear ko hT
  have HWW : Hid (rdSHead s a b v = match wst s (getA s (getA s a 1) 6) with
   | none => none
   | some (n, a1) => if n < v then some (k, o, n, a1) else none) := HW
  clear HW
  go_enter Tryz.func140, Tryz.ntmps140
  go_upto_region 1 with fail
  generalize World.alloc _ _ = wa at *
  have kn := KN1.out wa H0.out.rd
  go_wp2_with fail
  refine kn.mono ?_
  rintro e w1 ⟨rfl, h2, h3⟩
  have H1 := kQ (H0.out.then_ h2 h3)
  clear kn h2 h3 H0 KN1
  have kn := KN6.out w1 H1.out.rd
  go_wp2_with fail
  refine kn.mono ?_
  rintro e w2 ⟨rfl, h2, h3⟩
  have H2 := kQ (H1.out.then_ h2 h3)
  clear kn h2 h3 H1 KN6
  have k3 := KO.out w2
  go_wp2_with fail
  refine k3.mono ?_
  rintro e w3 ⟨hb3, rfl⟩
  have H3 : Hid (HDS w x s (getA s (getA s a 1) 6) (w3.alloc (.cells (subC ⟨k, o, 0, 0, 0, [], R0⟩ none 0 none 0 none 0) 67)) /\ (w3.alloc (.cells (subC ⟨k, o, 0, 0, 0, [], R0⟩ none 0 none 0 none 0) 67)).heap[w3.heap.size]? = some (.cells (subC ⟨k, o, 0, 0, 0, [], R0⟩ none 0 none 0 none 0) 67 (0, 0)) /\ w.heap.size < w3.heap.size) := ⟨(H2.out.low hb3).low aQ, heap_alloc_new _ _, lt_of_block (H2.out.low hb3).zb⟩
  clear hb3 k3 KO H2
  go_upto_region 8 with fail
  generalize hwb : World.alloc _ _ = wb at *
  have H4 := kQ H3.out
  clear hwb H3
  generalize w3.heap.size = g at *
  have kw := KW.out wb H4.out.1.rd
  clear KW
  go_wp2_with fail
  refine kw.mono ?_
  rintro e w5 ⟨hs5, hw5⟩
  have hxg : ¬ only x g := fun e => by have h1 := H4.out.1.hx; have h2 := H4.out.2.2; have h3 : g = x := e; omega
  have hg5 : w5.heap[g]? = some (.cells (subC ⟨k, o, 0, 0, 0, [], R0⟩ none 0 none 0 none 0) 67 (0, 0)) := by rw [hs5.block _ (lt_of_block H4.out.2.1) hxg]; exact H4.out.2.1
  have hz5 : w5.heap[w.heap.size]? = some (.cells (subC ⟨0, 0, 0, 0, 0, [], R0⟩ none 0 none 0 none 0) 67 (0, 0)) := by rw [hs5.block _ (lt_of_block H4.out.1.zb) (fun e => by have h1 := H4.out.1.hx; have h3 : w.heap.size = x := e; omega)]; exact H4.out.1.zb
  have HS5 : Hid (Stays (only x) w w5) := H4.out.1.st.trans hs5 (fun _ _ h => h)
  have hgw : w.heap.size < g := H4.out.2.2
  have hxw : x < w.heap.size := H4.out.1.hx
  clear kw H4 hs5 hxg
  cases hWS : wst s (getA s (getA s a 1) 6) with
  | none =>
   rw [hWS] at hw5
   obtain ⟨n, rfl⟩ := hw5
   have HWF : Hid (rdSHead s a b v = none) := by show _ = _; rw [HWW.out, hWS]
   clear hWS HWW HRG
   obtain ⟨y0, y1, y2, y3, y4, y5, y6, y7, y8, y9⟩ := sub_cells hg5
   have fy2 := row_frozen hg5 2
   go_upto_region 11 with fail
   generalize hwm : World.setCell _ _ _ = wm at *
   have hgm : wm.heap[g]? = some (.cells (subC ⟨k, o, n, 0, 0, [], R0⟩ none 0 none 0 none 0) 67 (0, 0)) := by rw [<- hwm, block_setCell _ _ _ _ _ _ hg5]; rfl
   have hzm : wm.heap[w.heap.size]? = some (.cells (subC ⟨0, 0, 0, 0, 0, [], R0⟩ none 0 none 0 none 0) 67 (0, 0)) := by rw [<- hwm, Below.heap_setCell _ _ _ _ (by show w.heap.size ≠ g; omega)]; exact hz5
   have HSM : Hid (Stays (only x) w wm) := by rw [<- hwm]; exact HS5.out.setCell _ _ (Or.inr (by show w.heap.size <= g; omega))
   clear y0 y1 y2 y3 y4 y5 y6 y7 y8 y9 fy2 hwm hg5 hz5 HS5
   obtain ⟨y0, y1, y2, y3, y4, y5, y6, y7, y8, y9⟩ := sub_cells hgm
   obtain ⟨x0, x1, x2, x3, x4, x5, x6, x7, x8, x9⟩ := sub_cells hzm
   have fu0 := row_frozen hzm 0
   have fu1 := row_frozen hzm 1
   have fu2 := row_frozen hzm 2
   have fu3 := row_frozen hzm 3
   have fu4 := row_frozen hzm 4
   have fu5 := row_frozen hzm 5
   have fu6 := row_frozen hzm 6
   have fu7 := row_frozen hzm 7
   have fu8 := row_frozen hzm 8
   have fu9 := row_frozen hzm 9
   have hgn : ¬ g = w.heap.size := by omega
   have hgn2 : ¬ w.heap.size = g := by omega
   have HZM := kQ hzm
   clear hgm hzm
   go_region
   go_wp2_with fail
   generalize hwf : World.setCell _ _ _ = wf
   have hH0 : wf.heap[w.heap.size]? = some (.cells (subC ⟨k, o, n, 0, 0, [], R0⟩ none 0 none 0 none 0) 67 (0, 0)) := by rw [<- hwf]; exact set10_a _ _ _ _ _ _ _ _ _ _ _ HZM.out
   have hH : wf.drew.heap[w.heap.size]? = some (.cells (subC ⟨k, o, n, 0, 0, [], R0⟩ none 0 none 0 none 0) 67 (0, 0)) := hH0
   have hS0 : Stays (only x) w wf := by rw [<- hwf]; exact set10_c _ _ _ _ _ _ _ _ _ _ _ _ _ (Or.inr (Nat.le_refl _)) HSM.out
   have hS : Stays (only x) w wf.drew := hS0.drew
   refine bodyPost_ret (v := .tuple #[.agg (subC ⟨k, o, n, 0, 0, [], R0⟩ none 0 none 0 none 0), .bool false]) ?_ rfl ⟨hS, OPost.none_ HWF.out ⟨_, _, _, rfl⟩⟩
   rw [results_two rfl]
   have hld := run_loadVar_row (P := Tryz.prog) (wf.drew) (w.heap.size) 67 67 (subC ⟨k, o, n, 0, 0, [], R0⟩ none 0 none 0 none 0) (0, 0) _ hH Tryz.underlying67 rfl info_Sub
   simp [asAddr, Result.andThen, hld]
   all_goals omega
  | some p =>
   obtain ⟨n, a1⟩ := p
   rw [hWS] at hw5
   obtain ⟨rfl, hrd⟩ := hw5
   have hwr := HRG.out n a1 hWS
   have HRD := kQ hrd
   by_cases hnv : n < v
   ·have HWF : Hid (rdSHead s a b v = some (k, o, n, a1)) := by
     show _ = _
     rw [HWW.out, hWS]
     exact if_pos hnv
    clear hWS HWW HRG hrd
    obtain ⟨y0, y1, y2, y3, y4, y5, y6, y7, y8, y9⟩ := sub_cells hg5
    have fy2 := row_frozen hg5 2
    go_upto_region 11 with fail
    generalize hwm : World.setCell _ _ _ = wm at *
    have hgm : wm.heap[g]? = some (.cells (subC ⟨k, o, n, 0, 0, [], R0⟩ none 0 none 0 none 0) 67 (0, 0)) := by rw [<- hwm, block_setCell _ _ _ _ _ _ hg5]; rfl
    have hzm : wm.heap[w.heap.size]? = some (.cells (subC ⟨0, 0, 0, 0, 0, [], R0⟩ none 0 none 0 none 0) 67 (0, 0)) := by rw [<- hwm, Below.heap_setCell _ _ _ _ (by show w.heap.size ≠ g; omega)]; exact hz5
    have HSM : Hid (Stays (only x) w wm) := by rw [<- hwm]; exact HS5.out.setCell _ _ (Or.inr (by show w.heap.size <= g; omega))
    have HRM : Hid (Rd wm x s a1) := by
     have h := HRD.out
     unfold Rd at h
     show Rd _ _ _ _
     unfold Rd
     rw [<- hwm, Below.heap_setCell _ _ _ _ (by show x ≠ g; omega)]; exact h
    clear y0 y1 y2 y3 y4 y5 y6 y7 y8 y9 fy2 hwm hg5 hz5 HS5
    obtain ⟨y0, y1, y2, y3, y4, y5, y6, y7, y8, y9⟩ := sub_cells hgm
    obtain ⟨x0, x1, x2, x3, x4, x5, x6, x7, x8, x9⟩ := sub_cells hzm
    have fu0 := row_frozen hzm 0
    have fu1 := row_frozen hzm 1
    have fu2 := row_frozen hzm 2
    have fu3 := row_frozen hzm 3
    have fu4 := row_frozen hzm 4
    have fu5 := row_frozen hzm 5
    have fu6 := row_frozen hzm 6
    have fu7 := row_frozen hzm 7
    have fu8 := row_frozen hzm 8
    have fu9 := row_frozen hzm 9
    have hgn : ¬ g = w.heap.size := by omega
    have hgn2 : ¬ w.heap.size = g := by omega
    have HZM := kQ hzm
    clear hgm hzm
    go_region
    go_wp2_with fail
    generalize hwf : World.setCell _ _ _ = wf
    have hH0 : wf.heap[w.heap.size]? = some (.cells (subC ⟨k, o, n, 0, 0, [], R0⟩ none 0 none 0 none 0) 67 (0, 0)) := by rw [<- hwf]; exact set10_a _ _ _ _ _ _ _ _ _ _ _ HZM.out
    have hH : wf.drew.heap[w.heap.size]? = some (.cells (subC ⟨k, o, n, 0, 0, [], R0⟩ none 0 none 0 none 0) 67 (0, 0)) := hH0
    have hS0 : Stays (only x) w wf := by rw [<- hwf]; exact set10_c _ _ _ _ _ _ _ _ _ _ _ _ _ (Or.inr (Nat.le_refl _)) HSM.out
    have hS : Stays (only x) w wf.drew := hS0.drew
    have hR : Rd wf.drew x s a1 := by
     have h := HRM.out
     unfold Rd at h ⊢
     show wf.heap[x]? = _
     rw [<- hwf, set10_d _ _ _ _ _ _ _ _ _ _ _ _ (by omega)]; exact h
    refine bodyPost_ret (v := .tuple #[.agg (subC ⟨k, o, n, 0, 0, [], R0⟩ none 0 none 0 none 0), .bool true]) ?_ rfl ⟨hS, OPost.some_ HWF.out ⟨rfl, hR⟩⟩
    rw [results_two rfl]
    have hld := run_loadVar_row (P := Tryz.prog) (wf.drew) (w.heap.size) 67 67 (subC ⟨k, o, n, 0, 0, [], R0⟩ none 0 none 0 none 0) (0, 0) _ hH Tryz.underlying67 rfl info_Sub
    simp [asAddr, Result.andThen, hld]
    all_goals omega
   ·have HWF : Hid (rdSHead s a b v = none) := by
     show _ = _
     rw [HWW.out, hWS]
     exact if_neg hnv
    clear hWS HWW HRG hrd
    obtain ⟨y0, y1, y2, y3, y4, y5, y6, y7, y8, y9⟩ := sub_cells hg5
    have fy2 := row_frozen hg5 2
    go_upto_region 11 with fail
    generalize hwm : World.setCell _ _ _ = wm at *
    have hgm : wm.heap[g]? = some (.cells (subC ⟨k, o, n, 0, 0, [], R0⟩ none 0 none 0 none 0) 67 (0, 0)) := by rw [<- hwm, block_setCell _ _ _ _ _ _ hg5]; rfl
    have hzm : wm.heap[w.heap.size]? = some (.cells (subC ⟨0, 0, 0, 0, 0, [], R0⟩ none 0 none 0 none 0) 67 (0, 0)) := by rw [<- hwm, Below.heap_setCell _ _ _ _ (by show w.heap.size ≠ g; omega)]; exact hz5
    have HSM : Hid (Stays (only x) w wm) := by rw [<- hwm]; exact HS5.out.setCell _ _ (Or.inr (by show w.heap.size <= g; omega))
    clear y0 y1 y2 y3 y4 y5 y6 y7 y8 y9 fy2 hwm hg5 hz5 HS5
    obtain ⟨y0, y1, y2, y3, y4, y5, y6, y7, y8, y9⟩ := sub_cells hgm
    obtain ⟨x0, x1, x2, x3, x4, x5, x6, x7, x8, x9⟩ := sub_cells hzm
    have fu0 := row_frozen hzm 0
    have fu1 := row_frozen hzm 1
    have fu2 := row_frozen hzm 2
    have fu3 := row_frozen hzm 3
    have fu4 := row_frozen hzm 4
    have fu5 := row_frozen hzm 5
    have fu6 := row_frozen hzm 6
    have fu7 := row_frozen hzm 7
    have fu8 := row_frozen hzm 8
    have fu9 := row_frozen hzm 9
    have hgn : ¬ g = w.heap.size := by omega
    have hgn2 : ¬ w.heap.size = g := by omega
    have HZM := kQ hzm
    clear hgm hzm
    go_region
    go_wp2_with fail
    generalize hwf : World.setCell _ _ _ = wf
    have hH0 : wf.heap[w.heap.size]? = some (.cells (subC ⟨k, o, n, 0, 0, [], R0⟩ none 0 none 0 none 0) 67 (0, 0)) := by rw [<- hwf]; exact set10_a _ _ _ _ _ _ _ _ _ _ _ HZM.out
    have hH : wf.drew.heap[w.heap.size]? = some (.cells (subC ⟨k, o, n, 0, 0, [], R0⟩ none 0 none 0 none 0) 67 (0, 0)) := hH0
    have hS0 : Stays (only x) w wf := by rw [<- hwf]; exact set10_c _ _ _ _ _ _ _ _ _ _ _ _ _ (Or.inr (Nat.le_refl _)) HSM.out
    have hS : Stays (only x) w wf.drew := hS0.drew
    refine bodyPost_ret (v := .tuple #[.agg (subC ⟨k, o, n, 0, 0, [], R0⟩ none 0 none 0 none 0), .bool false]) ?_ rfl ⟨hS, OPost.none_ HWF.out ⟨_, _, _, rfl⟩⟩
    rw [results_two rfl]
    have hld := run_loadVar_row (P := Tryz.prog) (wf.drew) (w.heap.size) 67 67 (subC ⟨k, o, n, 0, 0, [], R0⟩ none 0 none 0 none 0) (0, 0) _ hH Tryz.underlying67 rfl info_Sub
    simp [asAddr, Result.andThen, hld]
    all_goals omega
structure RowS (n : Nat) (ao : OA) (cap : Nat) (L : List Int) (wx : World) : Prop where
 at_ : ∃ g, ao = some ⟨g, 0, none⟩ /\ n <= g /\ ∃ cs : Array Value, wx.heap[g]? = some (.cells cs 3 (0, 0)) /\ ∀ j, j < L.length -> cs[j]? = some (.int .i64 (L.getD j 0))
 cap_ : L.length <= cap
 len : L.length <= 17592186044415
 num : Rng L
section
variable {w wx w' : World} {n : Nat} {ao : OA} {cap : Nat} {L : List Int}
theorem Made.row (h : Made w ao cap L wx) : RowS w.heap.size ao cap L wx := ⟨h.at_, h.cap_, h.len, h.num⟩
theorem RowS.ints (h : RowS n ao cap L wx) : IntsAt wx ao L := by
 obtain ⟨g, rfl, _, cs, h1, h2⟩ := h.at_
 exact ⟨h.len, h.num, fun _ => ⟨g, 0, rfl, fun j hj => by rw [cell_row h1, Nat.zero_add]; exact h2 j hj⟩⟩
theorem RowS.stays (h : RowS n ao cap L wx) {S : Nat -> Prop} (hS : Stays S wx w') (hn : ∀ g, n <= g -> ¬ S g) : RowS n ao cap L w' := by
 obtain ⟨g, h0, h1, cs, h2, h3⟩ := h.at_
 exact ⟨⟨g, h0, h1, cs, by rw [hS.block _ (lt_of_block h2) (hn g h1)]; exact h2, h3⟩, h.cap_, h.len, h.num⟩
theorem RowS.keep (h : RowS n ao cap L wx) (hb : ∀ g, n <= g -> g < wx.heap.size -> w'.heap[g]? = wx.heap[g]?) : RowS n ao cap L w' := by
 obtain ⟨g, h0, h1, cs, h2, h3⟩ := h.at_
 exact ⟨⟨g, h0, h1, cs, by rw [hb g h1 (lt_of_block h2)]; exact h2, h3⟩, h.cap_, h.len, h.num⟩
theorem RowS.mono (h : RowS n ao cap L wx) {m : Nat} (hm : m <= n) : RowS m ao cap L wx := by
 obtain ⟨g, h0, h1, h2⟩ := h.at_
 exact ⟨⟨g, h0, Nat.le_trans hm h1, h2⟩, h.cap_, h.len, h.num⟩
theorem RowS.none_ (h : RowS n ao cap L wx) : ao = none -> cap = 0 := fun e => by
 obtain ⟨g, h0, _⟩ := h.at_
 rw [e] at h0; cases h0
theorem RowS.fr (h : RowS n ao cap L wx) : Fr n ao := fun b hb => by
 obtain ⟨g, rfl, h1, _⟩ := h.at_
 have e : g = b := by simpa [blockOf] using hb
 omega
theorem RowS.of_blk {g : Nat} (h : IntsBlk wx g L) (hg : n <= g) (hc : L.length <= cap) (hl : L.length <= 17592186044415) (hn : Rng L) : RowS n (some ⟨g, 0, none⟩) cap L wx :=
 ⟨⟨g, rfl, hg, _, h, fun j hj => by
  rw [List.getElem?_toArray]
  unfold intsC
  rw [List.getElem?_map, List.getElem?_eq_getElem hj, List.getD_eq_getElem?_getD, List.getElem?_eq_getElem hj]
  rfl⟩, hc, hl, hn⟩
end
theorem rd_sig (s : ByteArray) (a : Nat) (v : Int) (h1 : ¬ v = -1) (h0 : ¬ v = 0) : rdE s a 0 v = sgnE s a v /\ rdV s a 0 v = sgnV s a v /\ rdA s a 0 v = sgnA s a v := by
 unfold rdE rdV rdA
 rw [if_neg h1, if_neg h0, if_neg h1, if_neg h0, if_neg h1, if_neg h0]
 exact ⟨rfl, rfl, rfl⟩
theorem rdAll_rng {s : ByteArray} {v : Int} {n a a1 : Nat} {X : List Int} (h1 : ¬ v = -1) (h0 : ¬ v = 0) (h : rdAll s 0 v n a = some (X, a1)) : Rng X := by
 have hh := (nums_again h).1
 refine fit_rng X v (fun x hx => ?_)
 exact (fit0 v x h1 h0).1 (hh x hx)
theorem made_zero (b : Nat) (w : World) : IntsBlk (w.alloc (.cells (madeCells #[.int .i64 0] b) 3)) w.heap.size (List.replicate b 0) := by
 have hg := heap_alloc_new w (.cells (madeCells #[.int .i64 0] b) 3)
 have hmc : madeCells #[.int .i64 0] b = (intsC (List.replicate b 0)).toArray := by
  rw [intsC_rep]
  apply Array.ext_getElem?
  intro j
  have hr : (List.replicate b (Value.int .i64 0)).toArray[j]? = if j < b then some (Value.int .i64 0) else none := by
   rw [List.getElem?_toArray, List.getElem?_replicate]
  rw [hr]
  by_cases hj : j < b
  ·rw [if_pos hj]
   simp only [madeCells, Array.getElem?_map, Array.getElem?_range, hj, if_true, Option.map_some]
   have hs1 : (#[.int .i64 0] : Array Value).size = 1 := rfl
   rw [hs1, Nat.mod_one]
   rfl
  ·rw [if_neg hj, Array.getElem?_eq_none (by rw [size_madeCells]; omega)]
 unfold IntsBlk
 rw [hg, hmc]
theorem s_reach (x : Nat) (s : ByteArray) (hs : s.size <= 1000000000000000000) (a : Nat) (ha : a <= 8 * s.size) (n : Nat) (hn : n <= 65535) (v : Int) (hv : 1 <= v) (hv2 : v <= 64) (w : World) (h : Rd w x s a) :
  Calls Tryz.prog 179 #[.pointer (some ⟨x, 0, none⟩), .int .i64 (n : Int), .int .i64 v] w fun e w' => Stays (only x) w w' /\ OPost (rdAll s 0 v n a) (e = .returned (.tuple #[.slice none 0 0, .bool false])) (fun p => ∃ la lc, e = .returned (.tuple #[.slice la p.1.length lc, .bool true]) /\ RowS w.heap.size la lc p.1 w' /\ Rd w' x s p.2) := by
 have hmk := make_ints n (by omega)
 have hxw : x < w.heap.size := lt_of_block h
 have HM : Hid (IntsBlk (w.alloc (.cells (madeCells #[.int .i64 0] n) 3)) w.heap.size (List.replicate n 0) /\ Rd (w.alloc (.cells (madeCells #[.int .i64 0] n) 3)) x s a /\ Stays (only x) w (w.alloc (.cells (madeCells #[.int .i64 0] n) 3))) :=
  ⟨made_zero n w, h.below aQ, Stays.of_below aQ _⟩
 have KS : Hid (∀ ai wx, ai <= 8 * s.size -> Rd wx x s ai -> Calls Tryz.prog 199 #[.pointer (some ⟨x, 0, none⟩), .int .i64 v] wx fun e w' => e = .returned (.tuple #[.int .i64 (sgnV s ai v), .int .i64 (sgnE s ai v)]) /\ Rd w' x s (sgnA s ai v) /\ Stays (only x) wx w') := fun ai wx hai hh => signed_all s hs ai hai wx x v hh
 clear h
 go_enter Tryz.func179, Tryz.ntmps179
 go_wp2_with fail
 generalize w.alloc _ = wa at *
 clear hmk
 go_loopw [9, 10, 11, 16, 19] (fun s9 s10 s11 s16 s19 wr => ∃ (i ai : Nat) (X : List Int), i <= n /\ s16 = .int .i64 (i : Int) /\ rdAll s 0 v i a = some (X, ai) /\ Rd wr x s ai /\ IntsBlk wr w.heap.size (X ++ List.replicate (n - i) 0) /\ Stays (only x) w wr) (fun _ _ _ s16 _ _ => n - (intOf s16).toNat)
 case atStart => exact ⟨0, a, [], Nat.zero_le _, rfl, rfl, HM.out.2.1, HM.out.1, HM.out.2.2⟩
 case round =>
  clear HM
  obtain ⟨i, ai, X, hi, rfl, hra, hrd, hbk, hst⟩ := hrel
  have hxl := rdAll_len hra
  have hal := rdAll_le hra ha
  obtain ⟨q1, q2, q3⟩ := rd_sig s ai v (by omega) (by omega)
  have HS := kQ hst
  have HBK := kQ hbk
  by_cases hlt : i < n
  ·have ks := KS.out ai wr hal hrd
   have HX := kQ hxl
   by_cases hE : sgnE s ai v = 0
   ·have HN : Hid (rdAll s 0 v (i + 1) a = some (X ++ [sgnV s ai v], sgnA s ai v)) := by
     have := rdAll_some hra (by rw [q1]; exact hE)
     rw [q2, q3] at this
     exact this
    rw [hE] at ks
    clear hE hra hrd hbk hst hxl q1 q2 q3 hal
    generalize sgnV s ai v = vv at *
    generalize sgnA s ai v = aa at *
    go_wp2_with fail
    refine ks.mono ?_
    rintro e w2 ⟨rfl, h2, h3⟩
    have HB2 : Hid (IntsBlk w2 w.heap.size (X ++ List.replicate (n - i) 0)) := HBK.out.stays h3 (fun e => by have h4 : w.heap.size = x := e; omega)
    have HR2 := kQ h2
    have HS2 : Hid (Stays (only x) w w2) := HS.out.trans h3 (fun _ _ h => h)
    have y5 := HB2.out.cell i (by rw [List.length_append, HX.out, List.length_replicate]; omega)
    have z5 := HB2.out.frozen i
    clear ks h2 h3 HBK HS
    have HB3 : Hid (IntsBlk (w2.setCell ⟨w.heap.size, i, none⟩ (.int .i64 vv)) w.heap.size (X ++ [vv] ++ List.replicate (n - (i + 1)) 0)) := by
     have := HB2.out.set i vv
     rw [<- HX.out, set_next X (n - X.length) vv (by have := HX.out; omega)] at this
     rw [<- HX.out, show n - (X.length + 1) = n - X.length - 1 by omega]
     exact this
    have HR3 : Hid (Rd (w2.setCell ⟨w.heap.size, i, none⟩ (.int .i64 vv)) x s aa) := HR2.out.other _ _ (by show w.heap.size ≠ x; omega)
    have HS3 : Hid (Stays (only x) w (w2.setCell ⟨w.heap.size, i, none⟩ (.int .i64 vv))) := HS2.out.setCell _ _ (Or.inr (Nat.le_refl _))
    generalize (X ++ List.replicate (n - i) 0).getD i 0 = old at *
    clear HB2 HR2 HS2
    go_wp2_with fail
    go_roundw
    case rel => exact ⟨i + 1, aa, X ++ [vv], by omega, by go_num, HN.out, HR3.out, HB3.out, HS3.out⟩
    case measure => simp [intOf]; omega
   ·have HN : Hid (rdAll s 0 v n a = none) := rdAll_none n (rdAll_stop hra (by rw [q1]; exact hE)) (by omega)
    have hEb : (sgnE s ai v != 0) = true := by rw [bne_iff_ne]; exact hE
    clear hE hra hrd hbk hst hxl q1 q2 q3 hal HBK
    generalize sgnV s ai v = vv at *
    generalize sgnE s ai v = ee at *
    go_wp2_with fail
    refine ks.mono ?_
    rintro e w2 ⟨rfl, h2, h3⟩
    have HS2 : Hid (Stays (only x) w w2) := HS.out.trans h3 (fun _ _ h => h)
    clear ks h2 h3 HS
    go_wp2_with fail
    go_ret2
    exact ⟨HS2.out, OPost.none_ HN.out rfl⟩
  ·have hin : i = n := by omega
   subst hin
   have HF : Hid (rdAll s 0 v i a = some (X, ai) /\ RowS w.heap.size (some ⟨w.heap.size, 0, none⟩) i X wr /\ Rd wr x s ai /\ Stays (only x) w wr /\ X.length = i) := by
    rw [Nat.sub_self, List.replicate_zero, List.append_nil] at hbk
    exact ⟨hra, RowS.of_blk hbk (Nat.le_refl _) (by omega) (by omega) (rdAll_rng (by omega) (by omega) hra), hrd, hst, hxl⟩
   clear hra hrd hbk hst hxl q1 q2 q3 HS HBK
   go_wp2_with fail
   go_ret2
   exact ⟨HF.out.2.2.2.1, OPost.some_ HF.out.1 ⟨_, _, by rw [HF.out.2.2.2.2]; rfl, HF.out.2.1, HF.out.2.2.1⟩⟩
end Go.Proofs.YtfpfabmbipmipaaGreatDoor
