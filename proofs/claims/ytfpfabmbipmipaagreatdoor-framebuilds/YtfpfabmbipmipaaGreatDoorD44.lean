/- Own text. -/
import Derived.Test.YtfpfabmbipmipaaGreatDoorD43
import Derived.Test.YtfpfabmbipmipaaGreatDoorD42
set_option linter.unusedSimpArgs false
set_option linter.unusedVariables false
set_option maxRecDepth 20000
set_option maxHeartbeats 12800000
namespace Go.Proofs.YtfpfabmbipmipaaGreatDoor
open Go.RowKit
theorem s_rhead_g (x : Nat) (s : ByteArray) (hs : s.size <= 1000000000000000000) (a : Nat) (ha : a <= 8 * s.size) (b v : Int) (w : World) (h : Rd w x s a) (e1 : getE s a 1 = 0) (v1 : getV s a 1 = 0) (e6 : getE s (getA s a 1) 6 = 0) (t : Int) (v6 : getV s (getA s a 1) 6 = t) (k o n : Int) (a1 : Nat) (hwr : 0 <= n /\ n <= 16777217) (hnv : n < v) (KO : Hid (∀ wx, Calls Tryz.prog 177 #[.int .i64 t, .int .i64 b] wx fun e w' => Lo wx w' /\ e = .returned (.tuple #[subV ⟨k, o, 0, 0, 0, [], R0⟩ none 0 none 0 none 0, .bool true]))) (KW : Hid (∀ wx, Rd wx x s (getA s (getA s a 1) 6) -> Calls Tryz.prog 178 #[.pointer (some ⟨x, 0, none⟩)] wx fun e w' => Stays (only x) wx w' /\ e = .returned (.tuple #[.int .i64 n, .bool true]) /\ Rd w' x s a1)) :
  Calls Tryz.prog 140 #[.pointer (some ⟨x, 0, none⟩), .int .i64 b, .int .i64 v] w fun e w' => Stays (only x) w w' /\ e = .returned (.tuple #[subV ⟨k, o, n, 0, 0, [], R0⟩ none 0 none 0 none 0, .bool true]) /\ Rd w' x s a1 := by
 have g1 := getA_le s a 1 ha
 have g6 := getA_le s (getA s a 1) 6 g1
 have KN1 : Hid (∀ wx, Rd wx x s a -> Calls Tryz.prog 176 #[.pointer (some ⟨x, 0, none⟩), .int .i64 1] wx fun en w' => en = .returned (.tuple #[.int .i64 (getV s a 1), .bool (getE s a 1 == 0)]) /\ Rd w' x s (getA s a 1) /\ Stays (only x) wx w') := fun wx hh => s_num x s hs a ha 1 (by decide) (by decide) wx hh
 have KN6 : Hid (∀ wx, Rd wx x s (getA s a 1) -> Calls Tryz.prog 176 #[.pointer (some ⟨x, 0, none⟩), .int .i64 6] wx fun en w' => en = .returned (.tuple #[.int .i64 (getV s (getA s a 1) 6), .bool (getE s (getA s a 1) 6 == 0)]) /\ Rd w' x s (getA s (getA s a 1) 6) /\ Stays (only x) wx w') := fun wx hh => s_num x s hs (getA s a 1) g1 6 (by decide) (by decide) wx hh
 have H0 : Hid (HDS w x s a (w.alloc (.cells (subC ⟨0, 0, 0, 0, 0, [], R0⟩ none 0 none 0 none 0) 67))) := HDS.start h
 clear h
 have hb1 : (getE s a 1 == 0) = true := by rw [beq_iff_eq]; assumption
 have hb6 : (getE s (getA s a 1) 6 == 0) = true := by rw [beq_iff_eq]; assumption
 rw [hb1, v1] at KN1
 rw [hb6, v6] at KN6
 clear hb1 hb6 e1 e6 v1 v6 g6
 go_enter Tryz.func140, Tryz.ntmps140
 go_upto_region 1 with fail
 generalize World.alloc _ _ = wa at *
 have kn := KN1.out wa H0.out.rd
 go_wp2_with fail
 refine kn.mono ?_
 rintro e w1 ⟨rfl, h2, h3⟩
 have H1 := kQ (H0.out.then_ h2 h3)
 clear kn h2 h3 H0 KN1
 have kn := KN6.out w1 H1.out.rd
 go_wp2_with fail
 refine kn.mono ?_
 rintro e w2 ⟨rfl, h2, h3⟩
 have H2 := kQ (H1.out.then_ h2 h3)
 clear kn h2 h3 H1 KN6
 have k3 := KO.out w2
 go_wp2_with fail
 refine k3.mono ?_
 rintro e w3 ⟨hb3, rfl⟩
 have H3 : Hid (HDS w x s (getA s (getA s a 1) 6) (w3.alloc (.cells (subC ⟨k, o, 0, 0, 0, [], R0⟩ none 0 none 0 none 0) 67)) /\ (w3.alloc (.cells (subC ⟨k, o, 0, 0, 0, [], R0⟩ none 0 none 0 none 0) 67)).heap[w3.heap.size]? = some (.cells (subC ⟨k, o, 0, 0, 0, [], R0⟩ none 0 none 0 none 0) 67 (0, 0)) /\ w.heap.size < w3.heap.size) := ⟨(H2.out.low hb3).low aQ, heap_alloc_new _ _, lt_of_block (H2.out.low hb3).zb⟩
 clear hb3 k3 KO H2
 go_upto_region 8 with fail
 generalize hwb : World.alloc _ _ = wb at *
 have H4 := kQ H3.out
 clear hwb H3
 generalize w3.heap.size = g at *
 have kw := KW.out wb H4.out.1.rd
 clear KW
 go_wp2_with fail
 refine kw.mono ?_
 rintro e w5 ⟨hs5, rfl, hrd⟩
 have hxg : ¬ only x g := fun e => by have h1 := H4.out.1.hx; have h2 := H4.out.2.2; have h3 : g = x := e; omega
 have hg5 : w5.heap[g]? = some (.cells (subC ⟨k, o, 0, 0, 0, [], R0⟩ none 0 none 0 none 0) 67 (0, 0)) := by rw [hs5.block _ (lt_of_block H4.out.2.1) hxg]; exact H4.out.2.1
 have hz5 : w5.heap[w.heap.size]? = some (.cells (subC ⟨0, 0, 0, 0, 0, [], R0⟩ none 0 none 0 none 0) 67 (0, 0)) := by rw [hs5.block _ (lt_of_block H4.out.1.zb) (fun e => by have h1 := H4.out.1.hx; have h3 : w.heap.size = x := e; omega)]; exact H4.out.1.zb
 have HS5 : Hid (Stays (only x) w w5) := H4.out.1.st.trans hs5 (fun _ _ h => h)
 have hgw : w.heap.size < g := H4.out.2.2
 have hxw : x < w.heap.size := H4.out.1.hx
 have HRD := kQ hrd
 clear kw H4 hs5 hxg hrd
 obtain ⟨y0, y1, y2, y3, y4, y5, y6, y7, y8, y9⟩ := sub_cells hg5
 have fy2 := row_frozen hg5 2
 go_upto_region 11 with fail
 generalize hwm : World.setCell _ _ _ = wm at *
 have hgm : wm.heap[g]? = some (.cells (subC ⟨k, o, n, 0, 0, [], R0⟩ none 0 none 0 none 0) 67 (0, 0)) := by rw [<- hwm, block_setCell _ _ _ _ _ _ hg5]; rfl
 have hzm : wm.heap[w.heap.size]? = some (.cells (subC ⟨0, 0, 0, 0, 0, [], R0⟩ none 0 none 0 none 0) 67 (0, 0)) := by rw [<- hwm, Below.heap_setCell _ _ _ _ (by show w.heap.size ≠ g; omega)]; exact hz5
 have HSM : Hid (Stays (only x) w wm) := by rw [<- hwm]; exact HS5.out.setCell _ _ (Or.inr (by show w.heap.size <= g; omega))
 have HRM : Hid (Rd wm x s a1) := by
  have h := HRD.out;unfold Rd at h;show Rd _ _ _ _;unfold Rd;rw [<- hwm, Below.heap_setCell _ _ _ _ (by show x ≠ g; omega)]; exact h
 clear y0 y1 y2 y3 y4 y5 y6 y7 y8 y9 fy2 hwm hg5 hz5 HS5
 obtain ⟨y0, y1, y2, y3, y4, y5, y6, y7, y8, y9⟩ := sub_cells hgm
 obtain ⟨x0, x1, x2, x3, x4, x5, x6, x7, x8, x9⟩ := sub_cells hzm
 have fu0 := row_frozen hzm 0
 have fu1 := row_frozen hzm 1
 have fu2 := row_frozen hzm 2
 have fu3 := row_frozen hzm 3
 have fu4 := row_frozen hzm 4
 have fu5 := row_frozen hzm 5
 have fu6 := row_frozen hzm 6
 have fu7 := row_frozen hzm 7
 have fu8 := row_frozen hzm 8
 have fu9 := row_frozen hzm 9
 have hgn : ¬ g = w.heap.size := by omega
 have hgn2 : ¬ w.heap.size = g := by omega
 have HZM := kQ hzm
 clear hgm hzm
 go_region
 go_wp2_with fail
 generalize hwf : World.setCell _ _ _ = wf
 have hH0 : wf.heap[w.heap.size]? = some (.cells (subC ⟨k, o, n, 0, 0, [], R0⟩ none 0 none 0 none 0) 67 (0, 0)) := by rw [<- hwf]; exact set10_a _ _ _ _ _ _ _ _ _ _ _ HZM.out
 have hH : wf.drew.heap[w.heap.size]? = some (.cells (subC ⟨k, o, n, 0, 0, [], R0⟩ none 0 none 0 none 0) 67 (0, 0)) := hH0
 have hS0 : Stays (only x) w wf := by rw [<- hwf]; exact set10_c _ _ _ _ _ _ _ _ _ _ _ _ _ (Or.inr (Nat.le_refl _)) HSM.out
 have hS : Stays (only x) w wf.drew := hS0.drew
 have hR : Rd wf.drew x s a1 := by
  have h := HRM.out;unfold Rd at h ⊢;show wf.heap[x]? = _;rw [<- hwf, set10_d _ _ _ _ _ _ _ _ _ _ _ _ (by omega)]; exact h
 refine bodyPost_ret (v := .tuple #[.agg (subC ⟨k, o, n, 0, 0, [], R0⟩ none 0 none 0 none 0), .bool true]) ?_ rfl ⟨hS, rfl, hR⟩
 rw [results_two rfl]
 have hld := run_loadVar_row (P := Tryz.prog) (wf.drew) (w.heap.size) 67 67 (subC ⟨k, o, n, 0, 0, [], R0⟩ none 0 none 0 none 0) (0, 0) _ hH Tryz.underlying67 rfl info_Sub
 simp [asAddr, Result.andThen, hld]
 all_goals omega
theorem s_oft0 (b : Int) (w : World) : Calls Tryz.prog 177 #[.int .i64 0, .int .i64 b] w fun e w' => Lo w w' /\ e = .returned (.tuple #[subV ⟨0, 0, 0, 0, 0, [], R0⟩ none 0 none 0 none 0, .bool true]) := by
 go_enter Tryz.func177, Tryz.ntmps177
 go_wp2_with fail
 generalize hwf : World.alloc _ _ = wf
 have hH : wf.heap[w.heap.size]? = some (.cells (subC ⟨0, 0, 0, 0, 0, [], R0⟩ none 0 none 0 none 0) 67 (0, 0)) := by rw [<- hwf]; exact heap_alloc_new _ _
 have hS : Lo w wf := by rw [<- hwf]; exact aQ
 refine bodyPost_ret (v := .tuple #[.agg (subC ⟨0, 0, 0, 0, 0, [], R0⟩ none 0 none 0 none 0), .bool true]) ?_ rfl ⟨hS, rfl⟩
 rw [results_two rfl]
 have hld := run_loadVar_row (P := Tryz.prog) (wf) (w.heap.size) 67 67 (subC ⟨0, 0, 0, 0, 0, [], R0⟩ none 0 none 0 none 0) (0, 0) _ hH Tryz.underlying67 rfl info_Sub
 simp [asAddr, Result.andThen, hld]
theorem s_was0 (x : Nat) (s : ByteArray) (hs : s.size <= 1000000000000000000) (a : Nat) (ha : a <= 8 * s.size) (w : World) (h : Rd w x s a) (hE : getE s a 1 = 0) (hV : getV s a 1 = 0) :
  Calls Tryz.prog 178 #[.pointer (some ⟨x, 0, none⟩)] w fun e w' => Stays (only x) w w' /\ e = .returned (.tuple #[.int .i64 0, .bool true]) /\ Rd w' x s (getA s a 1) := by
 have kn := s_num x s hs a ha 1 (by decide) (by decide) w h
 have hEb : (getE s a 1 == 0) = true := by rw [beq_iff_eq]; exact hE
 rw [hEb, hV] at kn
 clear hE hV hEb h
 generalize getA s a 1 = a1 at *
 go_enter Tryz.func178, Tryz.ntmps178
 go_wp2_with fail
 refine kn.mono ?_
 rintro e w2 ⟨rfl, h2, h3⟩
 have HH : Hid (Rd w2 x s a1 /\ Stays (only x) w w2) := ⟨h2, h3⟩
 clear kn h2 h3
 go_wp2_with fail
 go_ret2
 exact ⟨HH.out.2, rfl, HH.out.1⟩
theorem dec_g (x : Nat) (s : ByteArray) (hs : s.size <= 1000000000000000000) (a : Nat) (ha : a <= 8 * s.size) (b v : Int) (hb : 1 <= b /\ b <= 65535) (hv : 1 <= v /\ v <= 33) (w : World) (hrd : Rd w x s a) (k o n : Int) (a1 : Nat) (d : Bd) (hn0 : 0 <= n /\ n < v) (hsub : I64 k /\ I64 o /\ I64 d.p /\ I64 d.h) (hall : ∀ y ∈ d.m, sigE y (v - n) = 0) (KH : Hid (∀ wx, Rd wx x s a -> Calls Tryz.prog 140 #[.pointer (some ⟨x, 0, none⟩), .int .i64 b, .int .i64 v] wx fun e w' => Stays (only x) wx w' /\ e = .returned (.tuple #[subV ⟨k, o, n, 0, 0, [], R0⟩ none 0 none 0 none 0, .bool true]) /\ Rd w' x s a1)) (KB : Hid (∀ wx g, Rd wx x s a1 -> wx.heap[g]? = some (.cells (subC ⟨k, o, n, 0, 0, [], R0⟩ none 0 none 0 none 0) 67 (0, 0)) -> x ≠ g -> Calls Tryz.prog 141 #[.pointer (some ⟨x, 0, none⟩), .pointer (some ⟨g, 0, none⟩), .int .i64 b, .int .i64 (v - n)] wx fun e w' => Stays (XG x g) wx w' /\ ∃ la lc ca cc pa pc ea ec, e = .returned (.tuple #[.slice la d.m.length lc, .bool true]) /\ RowS wx.heap.size la lc d.m w' /\ w'.heap[g]? = some (.cells (subC ⟨k, o, n, d.p, d.h, d.C, d.R⟩ ca cc pa pc ea ec) 67 (0, 0)) /\ IntsAt w' ca d.C /\ (d.C.length <= cc /\ (ca = none -> cc = 0)) /\ RcAt w' d.R pa ea /\ (Fr wx.heap.size ca /\ Fr wx.heap.size pa /\ Fr wx.heap.size ea) /\ Rd w' x s d.a /\ ∀ bb, blockOf la = some bb -> blockOf ca ≠ some bb /\ blockOf pa ≠ some bb /\ blockOf ea ≠ some bb)) :
  Calls Tryz.prog 102 #[.pointer (some ⟨x, 0, none⟩), .int .i64 b, .int .i64 v] w fun e w' => ∃ la lc ca cc pa pc ea ec, e = .returned (.tuple #[.slice la (shlL d.m n.toNat).length lc, subV ⟨k, o, n, d.p, d.h, d.C, d.R⟩ ca cc pa pc ea ec, .int .i64 0]) /\ RowS w.heap.size la lc (shlL d.m n.toNat) w' /\ SbAt w' ⟨k, o, n, d.p, d.h, d.C, d.R⟩ ca pa ea /\ (d.C.length <= cc /\ (ca = none -> cc = 0)) /\ (Fr w.heap.size ca /\ Fr w.heap.size pa /\ Fr w.heap.size ea) /\ Rd w' x s d.a /\ Stays (only x) w w' := by
 have hxw : x < w.heap.size := lt_of_block hrd
 have KA : Hid (∀ wx, G0 133 #[.int .i64 b, .int .i64 v] wx (.bool true)) := fun wx => s_areOf b v true (tt_iff ⟨hb, hv⟩) wx
 have H0 : Hid (HDS w x s a (w.alloc (.cells (subC ⟨0, 0, 0, 0, 0, [], R0⟩ none 0 none 0 none 0) 67))) := HDS.start hrd
 clear hrd
 have KW : Hid (∀ wx la lc, IntsAt wx la d.m -> G0 142 #[.slice la d.m.length lc, .int .i64 (v - n)] wx (.bool true)) := fun wx la lc hh => by
  have h := s_within d.m la lc (v - n - 1).toNat (by omega) true (tt_iff (by rw [show (((v - n - 1).toNat : Nat) : Int) + 1 = v - n by omega]; exact hall)) wx hh
  rw [show (((v - n - 1).toNat : Nat) : Int) + 1 = v - n by omega] at h
  exact h
 clear hall
 go_enter Tryz.func102, Tryz.ntmps102
 go_upto_region 1 with fail
 generalize World.alloc _ _ = wa at *
 go_wp2_with fail
 refine (KA.out _).mono ?_
 rintro e wy ⟨rfl, hwy⟩
 subst hwy
 clear KA
 have kh := KH.out _ H0.out.rd
 go_wp2_with fail
 refine kh.mono ?_
 rintro e w1 ⟨hst, rfl, hr1⟩
 have h1z : w1.heap[w.heap.size]? = some (.cells (subC ⟨0, 0, 0, 0, 0, [], R0⟩ none 0 none 0 none 0) 67 (0, 0)) := by rw [hst.block _ (lt_of_block H0.out.zb) (fun e => by have h3 : w.heap.size = x := e; omega)]; exact H0.out.zb
 have hbl : Lo w1 (w1.alloc (.cells (subC ⟨k, o, n, 0, 0, [], R0⟩ none 0 none 0 none 0) 67)) := aQ
 have hgw : w.heap.size < w1.heap.size := lt_of_block h1z
 have H2 : Hid ((w1.alloc (.cells (subC ⟨k, o, n, 0, 0, [], R0⟩ none 0 none 0 none 0) 67)).heap[w.heap.size]? = some (.cells (subC ⟨0, 0, 0, 0, 0, [], R0⟩ none 0 none 0 none 0) 67 (0, 0)) /\ Stays (only x) w (w1.alloc (.cells (subC ⟨k, o, n, 0, 0, [], R0⟩ none 0 none 0 none 0) 67)) /\ (w1.alloc (.cells (subC ⟨k, o, n, 0, 0, [], R0⟩ none 0 none 0 none 0) 67)).heap[w1.heap.size]? = some (.cells (subC ⟨k, o, n, 0, 0, [], R0⟩ none 0 none 0 none 0) 67 (0, 0)) /\ Rd (w1.alloc (.cells (subC ⟨k, o, n, 0, 0, [], R0⟩ none 0 none 0 none 0) 67)) x s a1) :=
  ⟨by rw [hbl.block _ hgw]; exact h1z, (H0.out.st.trans hst (fun _ _ h => h)).trans (Stays.of_below hbl (only x)) (fun _ _ h => h), heap_alloc_new _ _, hr1.below hbl⟩
 clear kh hst H0 hr1 h1z hbl
 go_upto_region 4 with fail
 generalize World.alloc _ _ = w2 at *
 generalize w1.heap.size = g at *
 have hxg : x ≠ g := by omega
 obtain ⟨x0, x1, x2, x3, x4, x5, x6, x7, x8, x9⟩ := sub_cells H2.out.2.2.1
 have kb := KB.out w2 g H2.out.2.2.2 H2.out.2.2.1 hxg
 clear KB
 go_wp2_with fail
 refine kb.mono ?_
 rintro e w3 ⟨hst, la, lc, ca, cc, pa, pc, ea, ec, rfl, r1, r2, r3, r4, r5, r6, r7, r8⟩
 have H3 : Hid (w3.heap[w.heap.size]? = some (.cells (subC ⟨0, 0, 0, 0, 0, [], R0⟩ none 0 none 0 none 0) 67 (0, 0)) /\ Stays (only x) w w3) := ⟨by rw [hst.block _ (lt_of_block H2.out.1) (fun e => by rcases e with e | e <;> omega)]; exact H2.out.1, H2.out.2.1.trans hst (fun i hi e => by rcases e with e | e; exact e; omega)⟩
 have HSZ := kQ H2.out.2.1.size
 have HR : Hid (RowS w2.heap.size la lc d.m w3 /\ w3.heap[g]? = some (.cells (subC ⟨k, o, n, d.p, d.h, d.C, d.R⟩ ca cc pa pc ea ec) 67 (0, 0)) /\ IntsAt w3 ca d.C /\ (d.C.length <= cc /\ (ca = none -> cc = 0)) /\ RcAt w3 d.R pa ea /\ (Fr w2.heap.size ca /\ Fr w2.heap.size pa /\ Fr w2.heap.size ea) /\ Rd w3 x s d.a /\ ∀ bb, blockOf la = some bb -> blockOf ca ≠ some bb /\ blockOf pa ≠ some bb /\ blockOf ea ≠ some bb) := ⟨r1, r2, r3, r4, r5, r6, r7, r8⟩
 have hg2 : g < w2.heap.size := lt_of_block H2.out.2.2.1
 clear kb hst H2 x0 x1 x2 x3 x4 x5 x6 x7 x8 x9 r1 r2 r3 r4 r5 r6 r7 r8
 obtain ⟨x0, x1, x2, x3, x4, x5, x6, x7, x8, x9⟩ := sub_cells HR.out.2.1
 have kw := KW.out w3 la lc HR.out.1.ints
 clear KW
 have hdl := HR.out.1.len
 go_wp2_with fail
 refine kw.mono ?_
 rintro e w4 ⟨rfl, hw4⟩
 subst hw4
 clear kw
 obtain ⟨gl, hla, hgl2, _⟩ := HR.out.1.at_
 subst hla
 have HSH : Hid (Shl w4 gl d.m n.toNat 0 w4) := Shl.start HR.out.1 n.toNat
 have hgg : g ≠ gl := by omega
 have hnn : ((n.toNat : Nat) : Int) = n := by omega
 clear x0 x1 x2 x3 x4 x5 x6 x7 x8 x9
 go_wp2_with fail
 go_loopw [12, 56] (fun s12 s56 wr => ∃ i : Nat, i <= d.m.length /\ s56 = .int .i64 (i : Int) /\ Shl w4 gl d.m n.toNat i wr) (fun _ s56 _ => d.m.length - (intOf s56).toNat)
 case atStart => exact ⟨0, Nat.zero_le _, rfl, HSH.out⟩
 case round =>
  clear HSH;obtain ⟨i, hi, rfl, hsh⟩ := hrel;by_cases hlt : i < d.m.length
  ·have hsd := hsh.drew
   have HGd := kQ (hsd.box HR.out.2.1 hgg);have y5 := hsd.cell hlt;have z5 := hsd.frozen i;have HNX := kQ (hsd.set hlt);have HGN := kQ (HNX.out.box HR.out.2.1 hgg);have hn33 : n.toNat <= 33 := by omega
   clear hsd hsh;generalize d.m.getD i 0 = y at *
   go_wp2_with fail
   refine wp_region_held_drew (S := fun wx => wx.heap[g]? = some (.cells (subC ⟨k, o, n, d.p, d.h, d.C, d.R⟩ ca cc pa pc ea ec) 67 (0, 0))) (by kernel_rfl) HGd.out (fun hS => ?_)
   refine vQ 0 (.slice (some ⟨gl, 0, none⟩) d.m.length lc) hS ?_;simp only [SL];refine vQ 1 (.int .i64 (i : Int)) hS ?_;simp only [SL];refine vQ 2 (.pointer (some ⟨gl, i, none⟩)) hS ?_;simp only [SL];refine vQ 4 (.pointer (some ⟨g, 2, none⟩)) hS ?_;simp only [SL];refine uQ 5 (.int .i64 n) rfl hS (Or.inl ⟨by rfl, fun w hSw => by obtain ⟨x0, x1, x2, x3, x4, x5, x6, x7, x8, x9⟩ := sub_cells hSw; go_simp⟩) ?_
   simp only [SL];refine wpAnyH_ready (rs := [3]) (by kernel_rfl) (by simp) ?_
   refine AllReadyH.cons rfl (fun K hK => ?_) AllReadyH.nil;go_simp;refine hK.out _ _ HGd.out (fun hS3 => ?_);clear hK K
   try simp only [SL]
   refine uQ 6 (.int .i64 (wrap64 (y * 2 ^ n.toNat))) rfl hS3 (Or.inl ⟨by rfl, fun w hSw => by go_simp; exact wrap_is _⟩) ?_
   simp only [SL];refine vQ 7 (.pointer (some ⟨gl, i, none⟩)) hS3 ?_;simp only [SL];refine wpAnyH_ready (rs := [8]) (by kernel_rfl) (by simp) ?_
   refine AllReadyH.cons rfl (fun K hK => ?_) AllReadyH.nil;go_simp;refine hK.out _ _ HGN.out (fun hS6 => ?_);clear hK K;refine wpAnyH_done (by kernel_rfl) ?_ _
   go_wp2_with fail
   go_roundw
   case rel => exact ⟨i + 1, by omega, by go_num, HNX.out⟩
   case measure => simp [intOf]; omega
  ·have hil : i = d.m.length := by omega
   subst hil;have hzr : wr.heap[w.heap.size]? = some (.cells (subC ⟨0, 0, 0, 0, 0, [], R0⟩ none 0 none 0 none 0) 67 (0, 0)) := hsh.box H3.out.1 (by omega)
   have hgr : wr.heap[g]? = some (.cells (subC ⟨k, o, n, d.p, d.h, d.C, d.R⟩ ca cc pa pc ea ec) 67 (0, 0)) := hsh.box HR.out.2.1 hgg;have HE : Hid (Stays (only gl) w4 wr /\ RowS w2.heap.size (some ⟨gl, 0, none⟩) lc (shlL d.m n.toNat) wr) := ⟨hsh.st, hsh.row_end hgl2 HR.out.1.cap_ HR.out.1.len⟩;have HLS : Hid ((shlL d.m n.toNat).length = d.m.length) := shl_len _ _;clear hsh;obtain ⟨y0, y1, y2, y3, y4, y5, y6, y7, y8, y9⟩ := sub_cells hgr;obtain ⟨x0, x1, x2, x3, x4, x5, x6, x7, x8, x9⟩ := sub_cells hzr;have fu0 := row_frozen hzr 0;have fu1 := row_frozen hzr 1;have fu2 := row_frozen hzr 2;have fu3 := row_frozen hzr 3;have fu4 := row_frozen hzr 4;have fu5 := row_frozen hzr 5;have fu6 := row_frozen hzr 6;have fu7 := row_frozen hzr 7;have fu8 := row_frozen hzr 8;have fu9 := row_frozen hzr 9;have hgn : ¬ g = w.heap.size := by omega
   have hgn2 : ¬ w.heap.size = g := by omega
   have HZR := kQ hzr;clear hgr hzr
   go_wp2_with fail
   go_region
   go_wp2_with fail
   generalize hwf : World.setCell _ _ _ = wf;have hH0 : wf.heap[w.heap.size]? = some (.cells (subC ⟨k, o, n, d.p, d.h, d.C, d.R⟩ ca cc pa pc ea ec) 67 (0, 0)) := by rw [<- hwf]; exact set10_a _ _ _ _ _ _ _ _ _ _ _ HZR.out
   have hj : ∀ j, j ≠ w.heap.size -> wf.heap[j]? = wr.heap[j]? := fun j h0 => by rw [<- hwf]; exact set10_d _ _ _ _ _ _ _ _ _ _ _ j h0
   have hS0 : Stays (only x) w wf := by
    have h1 : Stays (only x) w wr := H3.out.2.trans HE.out.1 (fun i hi e => by have e2 : i = gl := e; omega)
    rw [<- hwf]; exact set10_c _ _ _ _ _ _ _ _ _ _ _ _ _ (Or.inr (Nat.le_refl _)) h1
   have hH : wf.drew.heap[w.heap.size]? = some (.cells (subC ⟨k, o, n, d.p, d.h, d.C, d.R⟩ ca cc pa pc ea ec) 67 (0, 0)) := hH0;have hS : Stays (only x) w wf.drew := hS0.drew;have hrow : RowS w.heap.size (some ⟨gl, 0, none⟩) lc (shlL d.m n.toNat) wf.drew := RowS.mono (RowS.keep (w' := wf.drew) HE.out.2 (fun j h1 h2 => hj j (by omega))) HSZ.out
   obtain ⟨q1, q2, q3, q4, q5, q6, q7, q8⟩ := HR.out;have hq8 := q8 gl (by simp [blockOf])
   have hkeep : ∀ (xo : OA) (l : List Int), IntsAt w4 xo l -> Fr w2.heap.size xo -> blockOf xo ≠ some gl -> IntsAt wf.drew xo l := fun xo l h1 h2 h3 => by
    refine ⟨h1.len, h1.num, fun h0 => ?_⟩;obtain ⟨bb, off, e, hc⟩ := h1.lies h0;refine ⟨bb, off, e, fun j hj2 => ?_⟩;have hbb : blockOf xo = some bb := by rw [e]; rfl
    have hlt := lt_cell (hc j hj2);have hge := h2 bb hbb
    have e1 : wf.drew.heap[bb]? = w4.heap[bb]? := by
     show wf.heap[bb]? = _;rw [hj bb (by omega)]
     exact HE.out.1.block bb hlt (fun e4 => h3 (by rw [hbb]; exact congrArg some e4))
    rw [World.cell?_of_block (w := w4) e1];exact hc j hj2
   have hsb : SbAt wf.drew ⟨k, o, n, d.p, d.h, d.C, d.R⟩ ca pa ea := ⟨hkeep _ _ q3 q6.1 hq8.1, ⟨hkeep _ _ q5.P q6.2.1 hq8.2.1, hkeep _ _ q5.E q6.2.2 hq8.2.2, q5.m1, q5.m2, q5.o1, q5.o2⟩, hsub.1, hsub.2.1, ⟨by show _ <= n; omega, by show n <= _; omega⟩, hsub.2.2.1, hsub.2.2.2⟩
   have hR : Rd wf.drew x s d.a := by
    unfold Rd at q7 ⊢;show wf.heap[x]? = _;rw [hj x (by omega), HE.out.1.block x (lt_of_block q7) (fun e => by have e2 : x = gl := e; omega)]
    exact q7
   have hfr : ∀ xo, Fr w2.heap.size xo -> Fr w.heap.size xo := fun xo h bb hbb => Nat.le_trans HSZ.out (h bb hbb);refine bodyPost_ret (v := .tuple #[.slice (some ⟨gl, 0, none⟩) d.m.length lc, .agg (subC ⟨k, o, n, d.p, d.h, d.C, d.R⟩ ca cc pa pc ea ec), .int .i64 0]) ?_ rfl ⟨_, _, ca, cc, pa, pc, ea, ec, by rw [HLS.out], hrow, hsb, q4, ⟨hfr _ q6.1, hfr _ q6.2.1, hfr _ q6.2.2⟩, hR, hS⟩
   rw [results_mid rfl];have hl0 := run_loadVar_row (P := Tryz.prog) (wf.drew) (w.heap.size) 67 67 (subC ⟨k, o, n, d.p, d.h, d.C, d.R⟩ ca cc pa pc ea ec) (0, 0) _ hH Tryz.underlying67 rfl info_Sub;simp [asAddr, Result.andThen, hl0]
theorem ps_okC (s : ByteArray) (hs : s.size <= 140737488351232) (a b c d : Int) (i : Inf) (e : Int) (sc : ByteArray) (w : World) (hL : Lay w) (hw : 4 <= i.wd /\ i.wd <= 24) (hch : 1 <= i.ch /\ i.ch <= 8) (h : Hd) (at1 : Nat) (hat1 : at1 <= 8 * s.size) (KH : Hid (∀ x wx, Rd wx x s 0 -> Lay wx -> 4 <= x -> Calls Tryz.prog 43 #[.pointer (some ⟨x, 0, none⟩), .string s] wx fun en w' => en = .returned (.tuple #[.agg (hdC h), .bool true]) /\ Rd w' x s at1 /\ Stays (only x) wx w')) (f : Fm) (hfS : f.S = []) (hsz : 1 <= f.size /\ f.size <= 4608) (hmo : 0 <= f.mo /\ f.mo <= 3 /\ (f.mo = 0 ∨ i.ch = 2)) (KF : Hid (∀ wx, Lay wx -> Calls Tryz.prog 44 #[.agg (hdC h), infV a b c d i e sc] wx fun en w' => en = .returned (.tuple #[fmV f none 0, .int .i64 0]) /\ Lo wx w')) (L : List (List Int)) (S : List Sb) (a1 : Nat) (HRR : Hid (subsP s at1 i f.mo f.size i.ch.toNat = some (L, S, a1))) (hm0 : f.mo = 0) (HDD : Hid (∀ n an L S, n < i.ch.toNat -> subsP s at1 i f.mo f.size n = some (L, S, an) -> DecC s an f.size (wdA i f.mo n) /\ decS s an f.size (wdA i f.mo n) ≠ none /\ ∀ l z a2, decS s an f.size (wdA i f.mo n) = some (l, z, a2) -> a2 <= 8 * s.size)) (hwn : ∀ l ∈ plnL f.mo L, ∀ x ∈ l, sigE x i.wd = 0) (m : Nat) (hm8 : 8 * m + 16 <= 8 * s.size) (hI : I64 f.num /\ I64 f.size /\ I64 f.sc /\ I64 f.rc /\ I64 f.wc /\ I64 f.mo) (KRE : Hid (∀ x wx, Rd wx x s a1 -> Lay wx -> 4 <= x -> Calls Tryz.prog 47 #[.pointer (some ⟨x, 0, none⟩), .string s] wx fun en w' => en = .returned (.bool true) /\ Rd w' x s (8 * m + 16) /\ Stays (only x) wx w')) : Calls Tryz.prog 13 #[.string s, infV a b c d i e sc] w fun en w' => ∃ ro rk so sk, en = .returned (.tuple #[.slice ro (plnL f.mo L).length rk, fmV ⟨f.v, f.num, f.size, f.sc, f.rc, f.wc, f.mo, S⟩ so sk, .int .i64 ((m : Int) + 2), .int .i64 0]) /\ RowsAt w' ro (plnL f.mo L) /\ FmAt w' ⟨f.v, f.num, f.size, f.sc, f.rc, f.wc, f.mo, S⟩ so sk /\ Lo w w' := by
 have HM0 := kQ hm0
 clear hm0
 have KWI : Hid (∀ ro rk wx, RowsAt wx ro (plnL f.mo L) -> G0 18 #[.slice ro (plnL f.mo L).length rk, .int .i64 i.wd] wx (.bool true)) := fun ro rk wx hh => f_withinW _ ro rk i.wd hw true (tt_iff hwn) wx hh
 clear hwn
 have HP0 : Hid (PX w a b c d i e sc (w.heap.size + 2) ((w.alloc (.cells (infC a b c d i e sc) 26)).alloc (.cells (fmC F0 none 0) 24))) := by
  refine ⟨heap_two _ _ _, ?_, aQ.alloc (by simp) _, Nat.le_refl _⟩
  have hh := heap_alloc_new (w.alloc (.cells (infC a b c d i e sc) 26)) (.cells (fmC F0 none 0) 24);rw [show (w.alloc (.cells (infC a b c d i e sc) 26)).heap.size = w.heap.size + 1 from by simp] at hh
  exact hh
 have HSZ : Hid (((w.alloc (.cells (infC a b c d i e sc) 26)).alloc (.cells (fmC F0 none 0) 24)).heap.size = w.heap.size + 2) := by show _ = _; simp
 have HL := kQ hL
 have hp4 := hL.size4
 clear hL
 go_enter Tryz.func13, Tryz.ntmps13
 go_upto_region 1 with fail
 generalize World.alloc _ _ = wa at *
 have ko := of_spec s (by omega) wa
 go_wp2_with fail
 refine ko.mono ?_
 rintro en w1 ⟨rfl, hr1, hb1⟩
 rw [HSZ.out] at hr1
 rw [HSZ.out]
 have HR1 := kQ hr1
 have HP1 := kQ (HP0.out.low hb1)
 clear ko hr1 hb1 HP0 HSZ
 generalize hxx : w.heap.size + 2 = x at *
 have hx4 : 4 <= x := by omega
 have hxw : w.heap.size < x := by omega
 clear hxx
 go_wp2_with fail
 refine (KH.out x w1 HR1.out (HL.out.below HP1.out.below) hx4).mono ?_
 rintro en w2 ⟨rfl, hr2, hs2⟩
 have HP3 : Hid (PX w a b c d i e sc x (w2.alloc (.cells (hdC h) 78))) := (HP1.out.only hs2).low aQ
 have HR3 : Hid (Rd (w2.alloc (.cells (hdC h) 78)) x s at1) := by
  have g := hr2;unfold Rd at g ⊢;rw [Below.heap_alloc _ _ _ hr2.lt]; exact g
 have HH3 : Hid ((w2.alloc (.cells (hdC h) 78)).heap[w2.heap.size]? = some (.cells (hdC h) 78 (0, 0))) := heap_alloc_new _ _
 clear hr2 hs2 HP1 HR1 KH
 go_upto_region 3 with fail
 generalize World.alloc _ _ = w3 at *
 generalize w2.heap.size = kh at *
 obtain ⟨z0, z1, z2, z3, z4, z5, z6, z7⟩ := hd_cells HH3.out
 obtain ⟨i0, i1, i2, i3, i4, i5, i6, i7, i8⟩ := inf_cells HP3.out.ib
 go_wp2_with fail
 refine (KF.out w3 (HL.out.below HP3.out.below)).mono ?_
 rintro en w4 ⟨rfl, hb4⟩
 have hfl : f.S.length = 0 := by rw [hfS]; rfl
 have HP5 : Hid (PX w a b c d i e sc x (w4.alloc (.cells (fmW f (.slice none 0 0)) 24))) := (HP3.out.low hb4).low aQ
 have HR5 : Hid (Rd (w4.alloc (.cells (fmW f (.slice none 0 0)) 24)) x s at1) := by
  have g := HR3.out;have hb : Lo w3 (w4.alloc (.cells (fmW f (.slice none 0 0)) 24)) := hb4.alloc hb4.size _;unfold Rd at g ⊢;rw [hb.block _ HR3.out.lt]; exact g
 have HF5 : Hid ((w4.alloc (.cells (fmW f (.slice none 0 0)) 24)).heap[w4.heap.size]? = some (.cells (fmW f (.slice none 0 0)) 24 (0, 0))) := by
  exact heap_alloc_new _ _
 have hqx : x ≠ w4.heap.size := by have := HR3.out.lt; have := hb4.size; omega
 have hq2 : w.heap.size + 2 <= w4.heap.size := by have := lt_of_block HP3.out.zb; have := hb4.size; omega
 clear hb4 HP3 HR3 HH3 KF z0 z1 z2 z3 z4 z5 z6 z7 i0 i1 i2 i3 i4 i5 i6 i7 i8
 go_upto_region 6 with fail
 generalize World.alloc _ _ = w5 at *
 generalize w4.heap.size = q at *
 have krs := rs_yes a b c d i e sc hw hch x q s hs f hsz w5 at1 hat1 HR5.out HF5.out hqx _ HRR.out HDD
 obtain ⟨i0, i1, i2, i3, i4, i5, i6, i7, i8⟩ := inf_cells HP5.out.ib
 go_wp2_with fail
 refine krs.mono ?_
 rintro en w6 ⟨v, er, rfl, hst6, hh6⟩
 obtain ⟨vL, vS, cX, cY, rfl, rfl, hLl, hSl, ha1, hrs⟩ : ∃ vL vS cX cY, er = 0 /\ v = vL /\ L.length = i.ch.toNat /\ S.length = i.ch.toNat /\ a1 <= 8 * s.size /\ RS w5 x q s f a b c d i e sc L S vL vS vS cX cY a1 w6 := by
  rcases hh6 with g | ⟨L2, S2, a2, vL, vS, cX, cY, g, g1, g2, g3, g4, g5, g6⟩
  ·cases g.1
  ·injection g with g
   injection g with g7 g8
   injection g8 with g8 g9
   subst g7 g8 g9;exact ⟨vL, vS, cX, cY, g1, g2, g3, g4, g5, g6⟩
 have hxw5 := hrs.hx
 have hz5 := lt_of_block HP5.out.zb
 have hx2 := HP5.out.hx
 obtain ⟨lo, lk, rfl, hrow⟩ := hrs.rowsP (by omega) (fun k => k = x ∨ k = w.heap.size + 1) (fun k hk => by rcases hk with e | e <;> omega)
 obtain ⟨so, sk, rfl, _, _⟩ := hrs.subs (by omega)
 have HP6 := kQ (HP5.out.two hq2 hst6)
 have HS8 : Hid (S.length <= 8) := by show _ <= _; omega
 have HRS6 := kQ hrs
 have hzl : w.heap.size + 1 < w5.heap.size := hz5
 have HF6 := kQ hrs.fb
 have HR6 := kQ hrs.rd
 have hcm : w6.cell? ⟨q, 6, none⟩ = some (.int .i64 f.mo) := hrs.cells.2.1
 have KU : Hid (Calls Tryz.prog 46 #[.int .i64 f.mo, .slice lo L.length lk] w6 fun en w' => ∃ ro rk, en = .returned (.slice ro (plnL f.mo L).length rk) /\ RowsP (fun k => k = x ∨ k = w.heap.size + 1) w' ro (plnL f.mo L) /\ Lo w6 w') := by
  have g0 := HM0.out;have e1 : plnL f.mo L = L := by unfold plnL; rw [if_pos g0]
  rw [e1, g0];exact (f_uncoded_0 L lo lk w6).mono fun en w' q => ⟨lo, lk, q.1, by rw [q.2]; exact hrow, by rw [q.2]; exact Below.refl _ _⟩
 clear hst6 hh6 krs HP5 HR5 HF5 hrs hrow hLl hSl hz5 i0 i1 i2 i3 i4 i5 i6 i7 i8
 generalize hpl : plnL f.mo L = P at *
 have HPL := kQ hpl
 clear hpl
 go_wp2_with fail
 refine KU.out.mono ?_
 rintro en w7 ⟨ro, rk, rfl, hrw7, hb7⟩
 have HP7 := kQ (HP6.out.low hb7)
 have HRW7 := kQ hrw7
 have HRS7 := kQ (HRS6.out.low hb7)
 have HF7 : Hid (w7.heap[q]? = some (.cells (fmW f (.slice so S.length sk)) 24 (0, 0))) := by show _ = _; rw [hb7.block _ (lt_of_block HF6.out)]; exact HF6.out
 have HR7 : Hid (Rd w7 x s a1) := by
  have g := HR6.out;unfold Rd at g;show w7.heap[x]? = _;rw [hb7.block _ HR6.out.lt]; exact g
 clear hrw7 hb7 KU HP6 HRS6 HF6 HR6 hcm
 obtain ⟨i0, i1, i2, i3, i4, i5, i6, i7, i8⟩ := inf_cells HP7.out.ib
 go_wp2_with fail
 refine (KWI.out _ _ _ HRW7.out.rows).mono ?_
 rintro en w8 ⟨rfl, hw8⟩
 have hw9 := hw8.symm
 clear hw8
 subst hw9
 clear KWI
 go_wp2_with fail
 refine (KRE.out x w7 HR7.out (HL.out.below HP7.out.below) hx4).mono ?_
 rintro en w8 ⟨rfl, hr8, hs8⟩
 have HP8 := kQ (HP7.out.only hs8)
 have HRW8 : Hid (RowsP (fun k => k = x ∨ k = w.heap.size + 1) w8 ro P) := HRW7.out.keep (fun k hk hl => hs8.block k hl (fun e => hk (Or.inl e)))
 have HRS8 := kQ (HRS7.out.only hr8 hs8)
 have hqz : q ≠ w.heap.size + 1 := by omega
 clear hr8 hs8 KRE HP7 HRW7 HF7 HR7 HRS7 i0 i1 i2 i3 i4 i5 i6 i7 i8
 obtain ⟨g0, g1, g2, g3, g4, g5, g6, g7⟩ := fmw_cells HRS8.out.fb
 obtain ⟨k0, k1, k2, k3, k4, k5, k6, k7⟩ := fm_cells HP8.out.zb
 have r0 := row_frozen HP8.out.zb 0
 have r1 := row_frozen HP8.out.zb 1
 have r2 := row_frozen HP8.out.zb 2
 have r3 := row_frozen HP8.out.zb 3
 have r4 := row_frozen HP8.out.zb 4
 have r5 := row_frozen HP8.out.zb 5
 have r6 := row_frozen HP8.out.zb 6
 have r7 := row_frozen HP8.out.zb 7
 have kat := at_spec x s (8 * m + 16) w8 HRS8.out.rd
 have KAT : Hid (∀ wx, wx = w8.drew -> G0 48 #[.pointer (some ⟨x, 0, none⟩)] wx (.int .i64 ((8 * m + 16 : Nat) : Int))) := fun wx hx => at_spec x s (8 * m + 16) wx (by rw [hx]; exact HRS8.out.rd)
 clear kat
 have hdv : (8 * (m : Int) + 16).tdiv 8 = (m : Int) + 2 := by rw [Int.tdiv_eq_ediv_of_nonneg (by omega)]; omega
 have hdw : IntKind.i64.wrap ((m : Int) + 2) = (m : Int) + 2 := wrap_i64 _ (by omega) (by omega)
 go_wp2_with fail
 refine wp_region_held_drew (S := fun wx => wx.heap[q]? = some (.cells (fmW f (.slice so S.length sk)) 24 (0, 0))) (by kernel_rfl) HRS8.out.fb (fun hS => ?_)
 refine vQ 0 (.slice ro P.length rk) hS ?_
 simp only [SL]
 refine uQ 1 (.agg (fmW f (.slice so S.length sk))) rfl hS (Or.inl ⟨by rfl, fun w hSw => by obtain ⟨g0, g1, g2, g3, g4, g5, g6, g7⟩ := fmw_cells hSw; go_simp⟩) ?_
 simp only [SL]
 refine vQ 2 (.pointer (some ⟨x, 0, none⟩)) hS ?_
 simp only [SL]
 refine wpAnyH_ready (rs := [3]) (by kernel_rfl) (by simp) ?_
 refine AllReadyH.cons rfl (fun K hK => ?_) AllReadyH.nil
 go_simp
 refine (KAT.out _ rfl).mono ?_
 rintro en wq ⟨rfl, hwq⟩
 have hwq2 := hwq.symm
 clear hwq
 subst hwq2
 refine hK.out _ _ hS (fun hS4 => ?_)
 clear hK K
 try simp only [SL]
 refine vQ 4 (.int .i64 ((m : Int) + 2)) hS4 ?_
 simp only [SL]
 refine vQ 5 (.slice ro P.length rk) hS4 ?_
 simp only [SL]
 refine wpAnyH_ready (rs := [6]) (by kernel_rfl) (by simp) ?_
 refine AllReadyH.cons rfl (fun K hK => ?_) AllReadyH.nil
 go_simp
 refine hK.out _ _ (by rw [drew_heap, set8_d _ _ _ _ _ _ _ _ _ _ hqz]; exact HRS8.out.fb) (fun hS6 => ?_)
 clear hK K
 try simp only [SL]
 refine vQ 7 (.int .i64 ((m : Int) + 2)) hS6 ?_
 simp only [SL]
 refine vQ 8 (.int .i64 0) hS6 ?_
 simp only [SL]
 refine wpAnyH_done (by kernel_rfl) ?_ _
 go_wp2_with fail
 generalize hwf : World.drew (World.setCell _ _ _) = wf
 have hH : wf.heap[w.heap.size + 1]? = some (.cells (fmC ⟨f.v, f.num, f.size, f.sc, f.rc, f.wc, f.mo, S⟩ so sk) 24 (0, 0)) := by rw [<- hwf, drew_heap]; exact set8_a _ _ _ _ _ _ _ _ _ HP8.out.zb
 have hB : Lo w wf := by rw [<- hwf]; exact (set8_b _ _ _ _ _ _ _ _ _ _ (by omega) HP8.out.below).drew
 have hWk : ∀ k, k ≠ w.heap.size + 1 -> wf.heap[k]? = w8.heap[k]? := fun k hk => by rw [<- hwf, drew_heap, set8_d _ _ _ _ _ _ _ _ _ _ hk]
 have hrows : RowsAt wf ro P := (HRW8.out.keep (fun k hk hl => hWk k (fun e => hk (Or.inr e)))).rows
 obtain ⟨so2, sk2, hv, hsubs, hsk⟩ := HRS8.out.subsW HS8.out (W := wf) (fun k hk hl => hWk k (by omega))
 injection hv with hv1 hv2 hv3
 subst hv1 hv3
 have hfm : FmAt wf ⟨f.v, f.num, f.size, f.sc, f.rc, f.wc, f.mo, S⟩ so sk := ⟨hsubs, hsk, hI.1, hI.2.1, hI.2.2.1, hI.2.2.2.1, hI.2.2.2.2.1, hI.2.2.2.2.2⟩
 refine bodyPost_ret (v := .tuple #[.slice ro P.length rk, .agg (fmC ⟨f.v, f.num, f.size, f.sc, f.rc, f.wc, f.mo, S⟩ so sk), .int .i64 ((m : Int) + 2), .int .i64 0]) ?_ rfl ⟨ro, rk, so, sk, by rw [HPL.out], by rw [HPL.out]; exact hrows, hfm, hB⟩
 rw [results_four rfl]
 have hld := run_loadVar_row (P := Tryz.prog) (wf) (w.heap.size + 1) 24 24 (fmC ⟨f.v, f.num, f.size, f.sc, f.rc, f.wc, f.mo, S⟩ so sk) (0, 0) _ hH Tryz.underlying24 rfl info_Frame
 simp [asAddr, Result.andThen, hld]
abbrev exS : ByteArray := ⟨#[255, 248, 100, 2, 0, 15, 73, 0, 0, 251, 234, 120]⟩
abbrev exB : List Nat := [255, 248, 100, 2, 0, 15, 73, 0, 0, 251, 234, 120]
abbrev exD : Bd := ⟨List.replicate 16 0, 0, 0, [], R0, 72⟩
theorem ex_facts : bytesOf exS = exB /\ uncode (exB.drop 4) = (0, 1, 0) /\ exB.getD 6 0 = crc8N (exB.take 6) /\ bitsAt exS 72 16 = crc16N (exB.take 9) /\ bitsAt exS 40 8 = 15 := by decide +kernel
theorem ex_gets : getE exS 56 1 = 0 /\ getV exS 56 1 = 0 /\ getA exS 56 1 = 57 /\ getE exS 57 6 = 0 /\ getV exS 57 6 = 0 /\ getA exS 57 6 = 63 /\ getE exS 63 1 = 0 /\ getV exS 63 1 = 0 /\ getA exS 63 1 = 64 := by decide +kernel
theorem ex_body : rdSBody exS 64 16 (8 - 0) 0 0 = some exD := by kernel_rfl
theorem ex_dec : decS exS 56 16 8 = some (List.replicate 16 0, Sb0, 72) := by kernel_rfl
theorem ex_head : hdB exS exB 0 1 = ⟨false, 6, 4, 0, 1, 0, 15, 0⟩ := by kernel_rfl
theorem ex_subs : subsP exS 56 exI 0 16 1 = some ([List.replicate 16 0], [Sb0], 72) := by kernel_rfl
theorem ex_decC : DecC exS 56 16 8 := by
 obtain ⟨e1, v1, g1, e6, v6, g6, eW, vW, gW⟩ := ex_gets
 refine ⟨fun x l q a1 w ha h hd => ?_, fun x w ha h hd => by rw [ex_dec] at hd; cases hd⟩
 rw [ex_dec] at hd
 injection hd with hd
 injection hd with hd1 hd2
 injection hd2 with hd2 hd3
 subst hd1 hd2 hd3
 have hs : exS.size <= 1000000000000000000 := by decide
 refine (dec_g x exS hs 56 ha 16 8 (by decide) (by decide) w h 0 0 0 64 exD (by decide) (by decide) (fun y hy => by rw [(List.mem_replicate.1 hy).2]; decide) (fun wx hh => ?_) (fun wx g h1 h2 h3 => ?_)).mono fun e w' hh => ?_
 ·refine s_rhead_g x exS hs 56 ha 16 8 wx hh e1 v1 (by rw [g1]; exact e6) 0 (by rw [g1]; exact v6) 0 0 0 64 (by decide) (by decide) (fun wx => s_oft0 16 wx) (fun wx hr => ?_)
  rw [g1, g6] at hr;have g := s_was0 x exS hs 63 (by decide) wx hr eW vW
  rw [gW] at g;exact g
 ·refine (s_rbody0 x exS hs 64 (by decide) 16 (8 - 0) (by decide) (by decide) (by decide) (by decide) g 0 0 wx h1 h2 h3).mono fun e w' hh => ?_
  obtain ⟨q1, q2⟩ := hh;rw [ex_body] at q2;exact ⟨q1, q2⟩
 ·obtain ⟨la, lc, ca, cc, pa, pc, ea, ec, h1, h2, h3, h4, h5, h6, h7⟩ := hh
  have e0 : shlL exD.m (Int.toNat 0) = List.replicate 16 0 := by decide +kernel
  rw [e0] at h1 h2;exact ⟨la, lc, ca, cc, pa, pc, ea, ec, h1, h2.ints, ⟨h2.cap_, h2.none_⟩, h3, h4, ⟨h2.fr, h5.1, h5.2.1, h5.2.2⟩, h6, h7⟩
theorem parse_ex (w : World) (hL : Lay w) : Calls Tryz.prog 13 #[.string exS, infV 16 4608 0 0 exI 0 ⟨#[]⟩] w fun en w' => ∃ ro rk so sk, en = .returned (.tuple #[.slice ro 1 rk, fmV exF so sk, .int .i64 11, .int .i64 0]) /\ RowsAt w' ro exP /\ FmAt w' exF so sk /\ Lo w w' := by
 obtain ⟨b1, b2, b3, b4, b5⟩ := ex_facts
 have hs : exS.size <= 140737488351232 := by decide
 have kh := kh_ok exS hs exB b1 0 1 (by decide) b2 (by decide) b3
 have kf := fun wx hl => fr_ok (hdB exS exB 0 1) 16 4608 0 0 exI 0 ⟨#[]⟩ (hdB_rng exS exB b1 0 1) (by rw [ex_head]; decide) (by rw [ex_head]; decide) (by rw [ex_head]; decide) (by rw [ex_head]; decide) (by rw [ex_head]; decide) wx hl
 rw [ex_head] at kh kf
 exact ps_okC exS hs 16 4608 0 0 exI 0 ⟨#[]⟩ w hL (by decide) (by decide) ⟨false, 6, 4, 0, 1, 0, 15, 0⟩ 56 (by decide) kh ⟨false, 0, 16, 6, 4, 1, 0, []⟩ rfl (by decide) (by decide) kf [List.replicate 16 0] [Sb0] 72 ex_subs rfl (fun n an L S hn hsb => by
  have e0 : n = 0 := by have : n < 1 := hn; omega
  subst e0;have g : some (([] : List (List Int)), ([] : List Sb), 56) = some (L, S, an) := hsb
  injection g with g
  injection g with _ g
  injection g with _ g
  subst g;refine ⟨ex_decC, (by show decS exS 56 16 8 ≠ none; rw [ex_dec]; intro h; cases h), fun l z a2 hd => ?_⟩
  have hd2 : decS exS 56 16 8 = some (l, z, a2) := hd;rw [ex_dec] at hd2
  injection hd2 with hd2
  injection hd2 with _ hd2
  injection hd2 with _ hd2
  subst hd2
  decide) (fun l hl x hx => by
   have e : l = List.replicate 16 0 := List.mem_singleton.1 hl;subst e
   rw [(List.mem_replicate.1 hx).2]; decide) 9 (by decide) (by decide) (fun x wx hr hl hx4 => re_ok x exS hs 72 9 rfl (by decide) wx hr hl hx4 (by decide) (by decide) (by rw [b1]; exact b4))
end Go.Proofs.YtfpfabmbipmipaaGreatDoor
