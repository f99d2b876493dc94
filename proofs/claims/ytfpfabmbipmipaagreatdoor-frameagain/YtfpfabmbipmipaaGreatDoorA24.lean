/- Own text. -/
import Derived.Test.YtfpfabmbipmipaaGreatDoorA23
set_option linter.unusedSimpArgs false
set_option linter.unusedVariables false
set_option maxRecDepth 20000
set_option maxHeartbeats 12800000
namespace Go.Proofs.YtfpfabmbipmipaaGreatDoor
open Go.RowKit
def foreR (q : Sb) (W R : List Int) : Option (List Int) := if q.k = 2 then unfR q.o W R else unlR q.C q.h W R
def XG (x g : Nat) : Nat -> Prop := fun i => i = x ∨ i = g
theorem only_s2 {x g : Nat} {w w' : World} (h : Stays (only x) w w') : Stays (XG x g) w w' := h.mono (fun i _ hi => Or.inl hi)
theorem Stays.s2 {x g : Nat} {a b c : World} (h : Stays (XG x g) a b) (k : Stays (only x) b c) : Stays (XG x g) a c := h.trans k (fun i _ hi => Or.inl hi)
theorem Stays.s2b {x g : Nat} {a b c : World} (h : Stays (XG x g) a b) (k : Lo b c) : Stays (XG x g) a c := h.trans (Stays.of_below k (XG x g)) (fun i _ hi => hi)
theorem IntsBlk.keep {w w' : World} {g : Nat} {L : List Int} (h : IntsBlk w g L) (hb : w'.heap[g]? = w.heap[g]?) : IntsBlk w' g L := by unfold IntsBlk; rw [hb]; exact h
theorem s_fore (q : Sb) (ca : OA) (cc : Nat) (pa : OA) (pc : Nat) (ea : OA) (ec : Nat) (W R : List Int) (wa ra : OA) (wc rc : Nat) (hr9 : R.length <= 17592186043904) (L : List Int) (hL : foreR q W R = some L) (w : World) (hC : IntsAt w ca q.C) (hW : IntsAt w wa W) (hR : IntsAt w ra R) : Calls Tryz.prog 202 #[subV q ca cc pa pc ea ec, .slice wa W.length wc, .slice ra R.length rc] w fun e w' => ∃ la lc, e = .returned (.tuple #[.slice la L.length lc, .int .i64 0]) /\ Made w la lc L w' := by
 have HA : Hid (SX w q ca cc pa pc ea ec (w.alloc (.cells (subC q ca cc pa pc ea ec) 67))) := SX.new w q ca cc pa pc ea ec
 by_cases k2 : q.k = 2
 focus
  skip
  have hbk : (q.k == 2) = true := by rw [beq_iff_eq]; exact k2
  have HK : Hid (∀ wx, Lo w wx -> Calls Tryz.prog 225 #[.int .i64 q.o, .slice wa W.length wc, .slice ra R.length rc] wx fun e w' => ∃ la lc, e = .returned (.tuple #[.slice la L.length lc, .int .i64 0]) /\ Made wx la lc L w') := fun wx hb => by
   have h := qunfixed_spec q.o W R wa ra wc rc hr9 wx (hW.below hb) (hR.below hb)
   unfold foreR at hL
   rw [if_pos k2] at hL
   rw [hL] at h
   exact h
 rotate_left
 focus
  skip
  have hbk : (q.k == 2) = false := by rw [beq_eq_false_iff_ne]; exact k2
  have HK : Hid (∀ wx, Lo w wx -> Calls Tryz.prog 226 #[.slice ca q.C.length cc, .int .i64 q.h, .slice wa W.length wc, .slice ra R.length rc] wx fun e w' => ∃ la lc, e = .returned (.tuple #[.slice la L.length lc, .int .i64 0]) /\ Made wx la lc L w') := fun wx hb => by
   have h := qunlpc_spec q.C W R q.h ca wa ra cc wc rc hr9 wx (hC.below hb) (hW.below hb) (hR.below hb)
   unfold foreR at hL
   rw [if_neg k2] at hL
   rw [hL] at h
   exact h
 rotate_left
 all_goals
  clear hL hC hW hR k2
  go_enter Tryz.func202, Tryz.ntmps202
  go_upto_region 1 with fail
  generalize World.alloc _ _ = wb at *
  obtain ⟨x0, x1, x2, x3, x4, x5, x6, x7, x8, x9⟩ := sub_cells HA.out.box
  go_wp2_with fail
  refine (HK.out _ HA.out.below).mono ?_
  rintro e w2 ⟨la, lc, rfl, hmd⟩
  have HM := kQ (hmd.up HA.out.below)
  clear hmd x0 x1 x2 x3 x4 x5 x6 x7 x8 x9
  go_wp2_with fail
  go_ret2
  exact ⟨_, _, rfl, HM.out⟩
theorem rc_at {c : Rc} {b r : Int} {w : World} {gp ge : Nat} (h : chkOk c b r) (hp : IntsBlk w gp c.P) (he : IntsBlk w ge c.E) : RcAt w c (some ⟨gp, 0, none⟩) (some ⟨ge, 0, none⟩) := by
 obtain ⟨h1, h2, h3, h4, h5⟩ := h
 have h15 := pow15 c.o.toNat (by omega)
 have hall : ∀ (X : List Int), (∀ i, i < X.length -> -9223372036854775808 <= X.getD i 0 /\ X.getD i 0 <= 9223372036854775807) -> Rng X := fun X hh n hn => by
  obtain ⟨j, hj, rfl⟩ := List.getElem_of_mem hn
  have := hh j hj
  rw [List.getD_eq_getElem?_getD, List.getElem?_eq_getElem hj] at this
  exact this
 refine ⟨hp.ints (by omega) (hall _ (fun i hi => ?_)), he.ints (by omega) (hall _ (fun i hi => ?_)), by omega, by omega, by omega, by omega⟩
 ·have := h5 i (by omega)
  unfold mayOk at this
  omega
 ·have := h5 i (by omega)
  unfold mayOk at this
  omega
theorem set4at {wx : World} (n : Nat) (v6 v7 v8 v9 : Value) {a0 a1 a2 a3 a4 a5 a6 a7 a8 a9 : Value} {t : TypeId} (h : wx.heap[n]? = some (.cells #[a0, a1, a2, a3, a4, a5, a6, a7, a8, a9] t (0, 0))) : ((((wx.setCell ⟨n, 6, none⟩ v6).setCell ⟨n, 7, none⟩ v7).setCell ⟨n, 8, none⟩ v8).setCell ⟨n, 9, none⟩ v9).heap[n]? = some (.cells #[a0, a1, a2, a3, a4, a5, v6, v7, v8, v9] t (0, 0)) := by
 rw [block_setCell _ _ _ _ _ _ (block_setCell _ _ _ _ _ _ (block_setCell _ _ _ _ _ _ (block_setCell _ _ _ _ _ _ h)))]
 simp only [List.setIfInBounds_toArray, List.set_cons_zero, List.set_cons_succ]
theorem set4at_c {wx : World} (n : Nat) (v6 v7 v8 v9 : Value) (w : World) (S : Nat -> Prop) (hn : S n ∨ w.heap.size <= n) (h : Stays S w wx) : Stays S w ((((wx.setCell ⟨n, 6, none⟩ v6).setCell ⟨n, 7, none⟩ v7).setCell ⟨n, 8, none⟩ v8).setCell ⟨n, 9, none⟩ v9) :=
 (((h.setCell _ _ hn).setCell _ _ hn).setCell _ _ hn).setCell _ _ hn
theorem set4at_d {wx : World} (n : Nat) (v6 v7 v8 v9 : Value) (j : Nat) (h0 : j ≠ n) : ((((wx.setCell ⟨n, 6, none⟩ v6).setCell ⟨n, 7, none⟩ v7).setCell ⟨n, 8, none⟩ v8).setCell ⟨n, 9, none⟩ v9).heap[j]? = wx.heap[j]? := by
 rw [Below.heap_setCell _ _ _ j h0, Below.heap_setCell _ _ _ j h0, Below.heap_setCell _ _ _ j h0, Below.heap_setCell _ _ _ j h0]
theorem s_rest (x : Nat) (s : ByteArray) (hs : s.size <= 1000000000000000000) (a : Nat) (ha : a <= 8 * s.size) (b : Int) (g : Nat) (k o sw p h : Int) (C : List Int) (ca : OA) (cc : Nat) (W : List Int) (fa : OA) (fc : Nat) (D : List Int)
  (hargs : argOk b o) (hb : b <= 65535) (hfore : ∀ c R, foreR ⟨k, o, sw, p, h, C, c⟩ W R = some (wholeN D h.toNat W R R.length)) (w : World) (hrd : Rd w x s a) (hbx : w.heap[g]? = some (.cells (subC ⟨k, o, sw, p, h, C, R0⟩ ca cc none 0 none 0) 67 (0, 0))) (hC : IntsAt w ca C) (hW : IntsAt w fa W) (hxg : x ≠ g) (hCx : ∀ bb, blockOf ca = some bb -> bb ≠ x /\ bb ≠ g) (hWx : ∀ bb, blockOf fa = some bb -> bb ≠ x /\ bb ≠ g) :
  Calls Tryz.prog 182 #[.pointer (some ⟨x, 0, none⟩), .pointer (some ⟨g, 0, none⟩), .int .i64 b, .slice fa W.length fc] w fun e w' => Stays (XG x g) w w' /\ OPost (decP s a b o) (e = .returned (.tuple #[.slice none 0 0, .bool false])) (fun r => ∃ la lc gp ge, e = .returned (.tuple #[.slice la (wholeN D h.toNat W r.2.1 r.2.1.length).length lc, .bool true]) /\ RowS w.heap.size la lc (wholeN D h.toNat W r.2.1 r.2.1.length) w' /\ w'.heap[g]? = some (.cells (subC ⟨k, o, sw, p, h, C, r.1⟩ ca cc (some ⟨gp, 0, none⟩) r.1.P.length (some ⟨ge, 0, none⟩) r.1.E.length) 67 (0, 0)) /\ RcAt w' r.1 (some ⟨gp, 0, none⟩) (some ⟨ge, 0, none⟩) /\ w.heap.size <= gp /\ w.heap.size <= ge /\ Rd w' x s r.2.2 /\ ∀ bb, blockOf la = some bb -> gp < bb /\ ge < bb /\ w.heap.size <= bb) := by
 have kd := decode_all x s hs a ha b o hargs w hrd
 have hgw := lt_of_block hbx
 have HBX := kQ hbx
 have HCW : Hid (∀ wx, Stays (XG x g) w wx -> IntsAt wx ca C /\ IntsAt wx fa W) := fun wx hh => ⟨hC.stays hh (fun bb hb2 hS => by rcases hS with e | e; exact (hCx bb hb2).1 e; exact (hCx bb hb2).2 e), hW.stays hh (fun bb hb2 hS => by rcases hS with e | e; exact (hWx bb hb2).1 e; exact (hWx bb hb2).2 e)⟩
 obtain ⟨x0, x1, x2, x3, x4, x5, x6, x7, x8, x9⟩ := sub_cells hbx
 clear hrd hbx hC hW hCx hWx
 cases hR : decP s a b o with
 | none =>
  rw [hR] at kd
  clear hR
  go_enter Tryz.func182, Tryz.ntmps182
  go_wp2_with fail
  refine kd.mono ?_
  rintro e w2 ⟨rfl, hst⟩
  have HS2 : Hid (Stays (XG x g) w w2) := only_s2 hst
  have HSA : Hid (∀ ob, Stays (XG x g) w (w2.alloc ob)) := fun ob => HS2.out.s2b aQ
  clear kd hst x0 x1 x2 x3 x4 x5 x6 x7 x8 x9
  go_wp2_with fail
  go_ret2
  exact ⟨HSA.out _, rfl⟩
 | some r =>
  obtain ⟨c, R, a2⟩ := r
  rw [hR] at kd
  have hda := dec_again hR
  have hch := encR_chk hda.1
  have hln := encR_len hda.1
  have HRN : Hid (Rng R) := encR_rng hda.1
  have HCH := kQ hch
  have hR9 : R.length <= 65535 := by unfold argOk at hargs; omega
  have KF : Hid (∀ wx, IntsAt wx ca C -> IntsAt wx fa W -> ∀ gl gp ge, IntsBlk wx gl R -> Calls Tryz.prog 202 #[subV ⟨k, o, sw, p, h, C, c⟩ ca cc (some ⟨gp, 0, none⟩) c.P.length (some ⟨ge, 0, none⟩) c.E.length, .slice fa W.length fc, .slice (some ⟨gl, 0, none⟩) R.length R.length] wx fun e w' => ∃ la lc, e = .returned (.tuple #[.slice la (wholeN D h.toNat W R R.length).length lc, .int .i64 0]) /\ Made wx la lc (wholeN D h.toNat W R R.length) w') := fun wx h1 h2 gl gp ge h3 =>
   s_fore ⟨k, o, sw, p, h, C, c⟩ ca cc (some ⟨gp, 0, none⟩) c.P.length (some ⟨ge, 0, none⟩) c.E.length W R fa (some ⟨gl, 0, none⟩) fc R.length (by omega) _ (hfore c R) wx h1 h2 (h3.ints (by omega) HRN.out)
  clear hR hda hch hln hfore HRN
  obtain ⟨L, hLe⟩ : ∃ L, L = wholeN D h.toNat W R R.length := ⟨_, rfl⟩
  rw [<- hLe] at KF
  have HLE := kQ hLe
  clear hLe
  go_enter Tryz.func182, Tryz.ntmps182
  go_wp2_with fail
  refine kd.mono ?_
  rintro e w2 ⟨gl, gp, ge, rfl, hgl, hgp, hge, hl1, hp1, he1, hr2, ha2, hst⟩
  have hbg2 : w2.heap[g]? = some (.cells (subC ⟨k, o, sw, p, h, C, R0⟩ ca cc none 0 none 0) 67 (0, 0)) := by rw [hst.block _ hgw (fun e => hxg (Eq.symm e))]; exact HBX.out
  have hbl : Lo w2 (w2.alloc (.cells (riceC c (some ⟨gp, 0, none⟩) c.P.length (some ⟨ge, 0, none⟩) c.E.length) 65)) := aQ
  have hg2 : g < w2.heap.size := lt_of_block hbg2
  have HX3 : Hid ((w2.alloc (.cells (riceC c (some ⟨gp, 0, none⟩) c.P.length (some ⟨ge, 0, none⟩) c.E.length) 65)).heap[g]? = some (.cells (subC ⟨k, o, sw, p, h, C, R0⟩ ca cc none 0 none 0) 67 (0, 0)) /\ IntsBlk (w2.alloc (.cells (riceC c (some ⟨gp, 0, none⟩) c.P.length (some ⟨ge, 0, none⟩) c.E.length) 65)) gl R /\ IntsBlk (w2.alloc (.cells (riceC c (some ⟨gp, 0, none⟩) c.P.length (some ⟨ge, 0, none⟩) c.E.length) 65)) gp c.P /\ IntsBlk (w2.alloc (.cells (riceC c (some ⟨gp, 0, none⟩) c.P.length (some ⟨ge, 0, none⟩) c.E.length) 65)) ge c.E /\ Rd (w2.alloc (.cells (riceC c (some ⟨gp, 0, none⟩) c.P.length (some ⟨ge, 0, none⟩) c.E.length) 65)) x s a2 /\ Stays (XG x g) w (w2.alloc (.cells (riceC c (some ⟨gp, 0, none⟩) c.P.length (some ⟨ge, 0, none⟩) c.E.length) 65)) /\ (w2.alloc (.cells (riceC c (some ⟨gp, 0, none⟩) c.P.length (some ⟨ge, 0, none⟩) c.E.length) 65)).heap[w2.heap.size]? = some (.cells (riceC c (some ⟨gp, 0, none⟩) c.P.length (some ⟨ge, 0, none⟩) c.E.length) 65 (0, 0))) :=
   ⟨by rw [hbl.block _ hg2]; exact hbg2, hgl.below hbl, hgp.below hbl, hge.below hbl, hr2.below hbl, (only_s2 hst).s2b hbl, heap_alloc_new _ _⟩
  have HGE : Hid (w.heap.size <= gl /\ w.heap.size <= gp /\ w.heap.size <= ge) := ⟨hl1, hp1, he1⟩
  have hgn : ¬ g = w2.heap.size := by omega
  have hgn2 : ¬ w2.heap.size = g := by omega
  clear kd hgl hgp hge hr2 ha2 hst hbg2 hbl hl1 hp1 he1 x0 x1 x2 x3 x4 x5 x6 x7 x8 x9 HBX
  go_upto_region 2 with fail
  generalize World.alloc _ _ = w3 at *
  generalize w2.heap.size = g2 at *
  have hb3g := HX3.out.1
  obtain ⟨y0, y1, y2, y3⟩ := rice_cells HX3.out.2.2.2.2.2.2
  obtain ⟨x0, x1, x2, x3, x4, x5, x6, x7, x8, x9⟩ := sub_cells hb3g
  have fx6 := row_frozen hb3g 6
  have fx7 := row_frozen hb3g 7
  have fx8 := row_frozen hb3g 8
  have fx9 := row_frozen hb3g 9
  clear hb3g
  go_upto_region 5 with fail
  generalize hwc : World.setCell _ _ _ = w4 at *
  have hH4 : w4.heap[g]? = some (.cells (subC ⟨k, o, sw, p, h, C, c⟩ ca cc (some ⟨gp, 0, none⟩) c.P.length (some ⟨ge, 0, none⟩) c.E.length) 67 (0, 0)) := by rw [<- hwc]; exact set4at _ _ _ _ _ HX3.out.1
  have hS4 : Stays (XG x g) w w4 := by rw [<- hwc]; exact set4at_c _ _ _ _ _ _ _ (Or.inl (Or.inr rfl)) HX3.out.2.2.2.2.2.1
  have hj : ∀ j, j ≠ g -> w4.heap[j]? = w3.heap[j]? := fun j h0 => by rw [<- hwc]; exact set4at_d _ _ _ _ _ j h0
  have HX4 : Hid (w4.heap[g]? = some (.cells (subC ⟨k, o, sw, p, h, C, c⟩ ca cc (some ⟨gp, 0, none⟩) c.P.length (some ⟨ge, 0, none⟩) c.E.length) 67 (0, 0)) /\ IntsBlk w4 gl R /\ IntsBlk w4 gp c.P /\ IntsBlk w4 ge c.E /\ Rd w4 x s a2 /\ Stays (XG x g) w w4) := by
   obtain ⟨q1, q2, q3⟩ := HGE.out
   refine ⟨hH4, HX3.out.2.1.keep (hj _ (by omega)), HX3.out.2.2.1.keep (hj _ (by omega)), HX3.out.2.2.2.1.keep (hj _ (by omega)), ?_, hS4⟩
   have := HX3.out.2.2.2.2.1
   unfold Rd at this ⊢
   rw [hj x hxg]; exact this
  clear hwc hH4 hS4 hj HX3 x0 x1 x2 x3 x4 x5 x6 x7 x8 x9 y0 y1 y2 y3 fx6 fx7 fx8 fx9
  obtain ⟨x0, x1, x2, x3, x4, x5, x6, x7, x8, x9⟩ := sub_cells HX4.out.1
  have kf := KF.out w4 (HCW.out w4 HX4.out.2.2.2.2.2).1 (HCW.out w4 HX4.out.2.2.2.2.2).2 gl gp ge HX4.out.2.1
  clear KF HCW
  go_wp2_with fail
  refine kf.mono ?_
  rintro e w5 ⟨la, lc, rfl, hmd⟩
  have HF : Hid (Stays (XG x g) w w5 /\ RowS w.heap.size la lc L w5 /\ w5.heap[g]? = some (.cells (subC ⟨k, o, sw, p, h, C, c⟩ ca cc (some ⟨gp, 0, none⟩) c.P.length (some ⟨ge, 0, none⟩) c.E.length) 67 (0, 0)) /\ RcAt w5 c (some ⟨gp, 0, none⟩) (some ⟨ge, 0, none⟩) /\ w.heap.size <= gp /\ w.heap.size <= ge /\ Rd w5 x s a2 /\ ∀ bb, blockOf la = some bb -> gp < bb /\ ge < bb /\ w.heap.size <= bb) := by
   have hb5 := hmd.below
   exact ⟨HX4.out.2.2.2.2.2.s2b hb5, hmd.row.mono HX4.out.2.2.2.2.2.size, by rw [hb5.block _ (lt_of_block HX4.out.1)]; exact HX4.out.1, rc_at HCH.out (HX4.out.2.2.1.below hb5) (HX4.out.2.2.2.1.below hb5), HGE.out.2.1, HGE.out.2.2, HX4.out.2.2.2.2.1.below hb5, fun bb hbb => by
    have h1 := hmd.row.fr bb hbb
    have h2 := HX4.out.2.2.1.lt
    have h3 := HX4.out.2.2.2.1.lt
    have h4 := HX4.out.2.2.2.2.2.size
    exact ⟨by omega, by omega, by omega⟩⟩
  clear hmd kf HX4 x0 x1 x2 x3 x4 x5 x6 x7 x8 x9
  go_wp2_with fail
  go_ret2
  have hLe := HLE.out
  subst hLe
  exact ⟨HF.out.1, _, _, gp, ge, rfl, HF.out.2.1, HF.out.2.2.1, HF.out.2.2.2.1, HF.out.2.2.2.2.1, HF.out.2.2.2.2.2.1, HF.out.2.2.2.2.2.2⟩
def coefN (s : ByteArray) (a : Nat) (o : Int) : Option (Int × Int × List Int × Nat) :=
 if getE s a 4 = 0 /\ ¬ getV s a 4 = 15 /\ getE s (getA s a 4) 5 = 0 /\ getV s (getA s a 4) 5 <= 15 then
  match rdAll s 0 (getV s a 4 + 1) o.toNat (getA s (getA s a 4) 5) with
  | none => none
  | some (C, a1) => some (getV s a 4 + 1, getV s (getA s a 4) 5, C, a1)
 else none
theorem coefN_no (s : ByteArray) (a : Nat) (o : Int) (h : ¬ (getE s a 4 = 0 /\ ¬ getV s a 4 = 15 /\ getE s (getA s a 4) 5 = 0 /\ getV s (getA s a 4) 5 <= 15)) : coefN s a o = none := by unfold coefN; rw [if_neg h]
theorem s_rcoefs (x : Nat) (s : ByteArray) (hs : s.size <= 1000000000000000000) (a : Nat) (ha : a <= 8 * s.size) (g : Nat) (k o sw : Int) (ho0 : 1 <= o) (ho1 : o <= 32) (w : World) (hrd : Rd w x s a) (hbx : w.heap[g]? = some (.cells (subC ⟨k, o, sw, 0, 0, [], R0⟩ none 0 none 0 none 0) 67 (0, 0))) (hxg : x ≠ g) :
  Calls Tryz.prog 181 #[.pointer (some ⟨x, 0, none⟩), .pointer (some ⟨g, 0, none⟩)] w fun e w' => Stays (XG x g) w w' /\ OPost (coefN s a o) (e = .returned (.bool false)) (fun r => e = .returned (.bool true) /\ ∃ ca cc, w'.heap[g]? = some (.cells (subC ⟨k, o, sw, r.1, r.2.1, r.2.2.1, R0⟩ ca cc none 0 none 0) 67 (0, 0)) /\ RowS w.heap.size ca cc r.2.2.1 w' /\ Rd w' x s r.2.2.2) := by
 have hgw := lt_of_block hbx
 have g4 := getA_le s a 4 ha
 have g5 := getA_le s (getA s a 4) 5 g4
 have kn := s_num x s hs a ha 4 (by decide) (by decide) w hrd
 have KN5 : Hid (∀ wx, Rd wx x s (getA s a 4) -> Calls Tryz.prog 176 #[.pointer (some ⟨x, 0, none⟩), .int .i64 5] wx fun en w' => en = .returned (.tuple #[.int .i64 (getV s (getA s a 4) 5), .bool (getE s (getA s a 4) 5 == 0)]) /\ Rd w' x s (getA s (getA s a 4) 5) /\ Stays (only x) wx w') := fun wx hh => s_num x s hs (getA s a 4) g4 5 (by decide) (by decide) wx hh
 have HBX := kQ hbx
 have b4 := getV_bound s a 4
 have p4 : (2 : Int) ^ (4 : Int).toNat = 16 := rfl
 rw [p4] at b4
 have b5 := getV_bound s (getA s a 4) 5
 have p5 : (2 : Int) ^ (5 : Int).toNat = 32 := rfl
 rw [p5] at b5
 clear hrd hbx p4 p5
 by_cases e4 : getE s a 4 = 0
 case neg =>
  have HN : Hid (coefN s a o = none) := coefN_no s a o (fun h => e4 h.1)
  have hb4 : (getE s a 4 == 0) = false := by rw [beq_eq_false_iff_ne]; exact e4
  rw [hb4] at kn
  clear hb4 e4
  generalize getV s a 4 = vv at *
  go_enter Tryz.func181, Tryz.ntmps181
  go_wp2_with fail
  refine kn.mono ?_
  rintro e w1 ⟨rfl, h2, h3⟩
  have HS1 : Hid (Stays (XG x g) w w1) := only_s2 h3
  have HB1 : Hid (w1.heap[g]? = some (.cells (subC ⟨k, o, sw, 0, 0, [], R0⟩ none 0 none 0 none 0) 67 (0, 0))) := by show _ = _; rw [h3.block _ hgw (fun e => hxg (Eq.symm e))]; exact HBX.out
  have HR1 := kQ h2
  clear kn h2 h3 HBX
  go_wp2_with fail
  go_ret
  exact ⟨HS1.out, OPost.none_ HN.out rfl⟩
 have hb4 : (getE s a 4 == 0) = true := by rw [beq_iff_eq]; exact e4
 rw [hb4] at kn
 clear hb4
 by_cases v4 : getV s a 4 = 15
 ·have HN : Hid (coefN s a o = none) := coefN_no s a o (fun h => h.2.1 v4)
  rw [v4] at kn
  clear v4 e4
  go_enter Tryz.func181, Tryz.ntmps181
  go_wp2_with fail
  refine kn.mono ?_
  rintro e w1 ⟨rfl, h2, h3⟩
  have HS1 : Hid (Stays (XG x g) w w1) := only_s2 h3
  have HB1 : Hid (w1.heap[g]? = some (.cells (subC ⟨k, o, sw, 0, 0, [], R0⟩ none 0 none 0 none 0) 67 (0, 0))) := by show _ = _; rw [h3.block _ hgw (fun e => hxg (Eq.symm e))]; exact HBX.out
  have HR1 := kQ h2
  clear kn h2 h3 HBX
  go_wp2_with fail
  go_ret
  exact ⟨HS1.out, OPost.none_ HN.out rfl⟩
 by_cases e5 : getE s (getA s a 4) 5 = 0
 case neg =>
  have HN : Hid (coefN s a o = none) := coefN_no s a o (fun h => e5 h.2.2.1)
  have hb5 : (getE s (getA s a 4) 5 == 0) = false := by rw [beq_eq_false_iff_ne]; exact e5
  rw [hb5] at KN5
  clear hb5 e5 e4
  have v4' : getV s a 4 <= 14 := by omega
  generalize getV s a 4 = vv at *
  generalize getV s (getA s a 4) 5 = v5 at *
  go_enter Tryz.func181, Tryz.ntmps181
  go_wp2_with fail
  refine kn.mono ?_
  rintro e w1 ⟨rfl, h2, h3⟩
  have HS1 : Hid (Stays (XG x g) w w1) := only_s2 h3
  have HB1 : Hid (w1.heap[g]? = some (.cells (subC ⟨k, o, sw, 0, 0, [], R0⟩ none 0 none 0 none 0) 67 (0, 0))) := by show _ = _; rw [h3.block _ hgw (fun e => hxg (Eq.symm e))]; exact HBX.out
  have HR1 := kQ h2
  clear kn h2 h3 HBX
  have kn2 := KN5.out w1 HR1.out
  go_wp2_with fail
  refine kn2.mono ?_
  rintro e w2 ⟨rfl, h2, h3⟩
  have HS2 := kQ (HS1.out.s2 h3)
  have HB2 : Hid (w2.heap[g]? = some (.cells (subC ⟨k, o, sw, 0, 0, [], R0⟩ none 0 none 0 none 0) 67 (0, 0))) := by show _ = _; rw [h3.block _ (lt_of_block HB1.out) (fun e => hxg (Eq.symm e))]; exact HB1.out
  have HR2 := kQ h2
  clear kn2 h2 h3 HS1 HB1 HR1 KN5
  go_wp2_with fail
  go_ret
  exact ⟨HS2.out, OPost.none_ HN.out rfl⟩
 have hb5 : (getE s (getA s a 4) 5 == 0) = true := by rw [beq_iff_eq]; exact e5
 rw [hb5] at KN5
 clear hb5
 by_cases v5 : getV s (getA s a 4) 5 <= 15
 case neg =>
  have HN : Hid (coefN s a o = none) := coefN_no s a o (fun h => v5 h.2.2.2)
  clear e5 e4
  have v4' : getV s a 4 <= 14 := by omega
  generalize getV s a 4 = vv at *
  generalize getV s (getA s a 4) 5 = v5 at *
  go_enter Tryz.func181, Tryz.ntmps181
  go_wp2_with fail
  refine kn.mono ?_
  rintro e w1 ⟨rfl, h2, h3⟩
  have HS1 : Hid (Stays (XG x g) w w1) := only_s2 h3
  have HB1 : Hid (w1.heap[g]? = some (.cells (subC ⟨k, o, sw, 0, 0, [], R0⟩ none 0 none 0 none 0) 67 (0, 0))) := by show _ = _; rw [h3.block _ hgw (fun e => hxg (Eq.symm e))]; exact HBX.out
  have HR1 := kQ h2
  clear kn h2 h3 HBX
  have kn2 := KN5.out w1 HR1.out
  go_wp2_with fail
  refine kn2.mono ?_
  rintro e w2 ⟨rfl, h2, h3⟩
  have HS2 := kQ (HS1.out.s2 h3)
  have HB2 : Hid (w2.heap[g]? = some (.cells (subC ⟨k, o, sw, 0, 0, [], R0⟩ none 0 none 0 none 0) 67 (0, 0))) := by show _ = _; rw [h3.block _ (lt_of_block HB1.out) (fun e => hxg (Eq.symm e))]; exact HB1.out
  have HR2 := kQ h2
  clear kn2 h2 h3 HS1 HB1 HR1 KN5
  go_wp2_with fail
  go_ret
  exact ⟨HS2.out, OPost.none_ HN.out rfl⟩
 have HCN : Hid (coefN s a o = match rdAll s 0 (getV s a 4 + 1) o.toNat (getA s (getA s a 4) 5) with
  | none => none
  | some (C, a1) => some (getV s a 4 + 1, getV s (getA s a 4) 5, C, a1)) := by show _ = _; unfold coefN; rw [if_pos ⟨e4, v4, e5, v5⟩]
 have v4' : getV s a 4 + 1 <= 15 := by omega
 have v4p : 1 <= getV s a 4 + 1 := by omega
 have ke0 := fun wx hh => s_reach x s hs (getA s (getA s a 4) 5) g5 o.toNat (by omega) (getV s a 4 + 1) v4p (by omega) wx hh
 clear e4 e5 v4 g5
 obtain ⟨b40, _⟩ := b4
 generalize getV s a 4 = vv at *
 generalize getV s (getA s a 4) 5 = hh at *
 generalize getA s (getA s a 4) 5 = a5 at *
 obtain ⟨pp, hpp⟩ : ∃ pp, pp = vv + 1 := ⟨_, rfl⟩
 rw [<- hpp] at ke0 HCN v4' v4p
 have hto : ((o.toNat : Nat) : Int) = o := by omega
 rw [hto] at ke0
 have hpe : vv + 1 = pp := hpp.symm
 have hppg : ¬ 15 < pp := by omega
 cases hR : rdAll s 0 pp o.toNat a5 with
 | none =>
  have HN : Hid (coefN s a o = none) := by show _ = _; rw [HCN.out, hR]
  have KE : Hid (∀ wx, Rd wx x s a5 -> Calls Tryz.prog 179 #[.pointer (some ⟨x, 0, none⟩), .int .i64 o, .int .i64 pp] wx fun e w' => Stays (only x) wx w' /\ e = .returned (.tuple #[.slice none 0 0, .bool false])) := fun wx hh => (ke0 wx hh).mono fun e w' h => by
   obtain ⟨h1, h2⟩ := h
   rw [hR] at h2
   exact ⟨h1, h2⟩
  clear ke0 hR HCN hpp
  go_enter Tryz.func181, Tryz.ntmps181
  go_wp2_with fail
  refine kn.mono ?_
  rintro e w1 ⟨rfl, h2, h3⟩
  have HS1 : Hid (Stays (XG x g) w w1) := only_s2 h3
  have HB1 : Hid (w1.heap[g]? = some (.cells (subC ⟨k, o, sw, 0, 0, [], R0⟩ none 0 none 0 none 0) 67 (0, 0))) := by show _ = _; rw [h3.block _ hgw (fun e => hxg (Eq.symm e))]; exact HBX.out
  have HR1 := kQ h2
  clear kn h2 h3 HBX
  have kn2 := KN5.out w1 HR1.out
  go_wp2_with fail
  refine kn2.mono ?_
  rintro e w2 ⟨rfl, h2, h3⟩
  have HS2 := kQ (HS1.out.s2 h3)
  have HB2 : Hid (w2.heap[g]? = some (.cells (subC ⟨k, o, sw, 0, 0, [], R0⟩ none 0 none 0 none 0) 67 (0, 0))) := by show _ = _; rw [h3.block _ (lt_of_block HB1.out) (fun e => hxg (Eq.symm e))]; exact HB1.out
  have HR2 := kQ h2
  clear kn2 h2 h3 HS1 HB1 HR1 KN5
  obtain ⟨x0, x1, x2, x3, x4, x5, x6, x7, x8, x9⟩ := sub_cells HB2.out
  have fx3 := row_frozen HB2.out 3
  have fx4 := row_frozen HB2.out 4
  go_upto_region 8 with fail
  generalize hwm : World.setCell _ _ _ = w3 at *
  have HB3 : Hid (w3.heap[g]? = some (.cells (subC ⟨k, o, sw, pp, hh, [], R0⟩ none 0 none 0 none 0) 67 (0, 0))) := by
   show _ = _
   rw [<- hwm, block_setCell _ _ _ _ _ _ (block_setCell _ _ _ _ _ _ HB2.out)]
   simp only [List.setIfInBounds_toArray, List.set_cons_zero, List.set_cons_succ]
  have HS3d : Hid (Stays (XG x g) w w3.drew) := by
   have h0 : Stays (XG x g) w w3 := by rw [<- hwm]; exact (HS2.out.setCell _ _ (Or.inl (Or.inr rfl))).setCell _ _ (Or.inl (Or.inr rfl))
   exact h0.drew
  have HR3d : Hid (Rd w3.drew x s a5) := by
   have h0 : Rd w3 x s a5 := by rw [<- hwm]; exact (HR2.out.other _ _ (by show g ≠ x; exact fun e => hxg e.symm)).other _ _ (by show g ≠ x; exact fun e => hxg e.symm)
   exact h0
  clear hwm HB2 HS2 HR2 x0 x1 x2 x3 x4 x5 x6 x7 x8 x9 fx3 fx4
  refine wp_region_held_drew (S := fun wx => ∃ z, wx.heap[g]? = some (.cells #[.int .i64 k, .int .i64 o, .int .i64 sw, .int .i64 pp, .int .i64 hh, z, .int .i64 0, .int .i64 0, .slice none 0 0, .slice none 0 0] 67 (0, 0))) (by kernel_rfl) ⟨_, HB3.out⟩ (fun hS => ?_)
  refine vQ 0 (.pointer (some ⟨g, 0, none⟩)) hS ?_
  simp only [SL]
  refine vQ 1 (.pointer (some ⟨x, 0, none⟩)) hS ?_
  simp only [SL]
  refine vQ 2 (.pointer (some ⟨g, 0, none⟩)) hS ?_
  simp only [SL]
  refine vQ 3 (.pointer (some ⟨g, 0, none⟩)) hS ?_
  simp only [SL]
  refine vQ 4 (.pointer (some ⟨g, 1, none⟩)) hS ?_
  simp only [SL]
  refine uQ 5 (.int .i64 o) rfl hS (Or.inl ⟨by rfl, fun w hSw => by obtain ⟨z, hz⟩ := hSw; have y1 := cell_row hz 1; have y3 := cell_row hz 3; simp only [List.getElem?_toArray, List.getElem?_cons_succ, List.getElem?_cons_zero] at y1 y3; go_simp⟩) ?_
  simp only [SL]
  refine vQ 6 (.pointer (some ⟨g, 0, none⟩)) hS ?_
  simp only [SL]
  refine vQ 7 (.pointer (some ⟨g, 0, none⟩)) hS ?_
  simp only [SL]
  refine vQ 8 (.pointer (some ⟨g, 3, none⟩)) hS ?_
  simp only [SL]
  refine uQ 9 (.int .i64 pp) rfl hS (Or.inl ⟨by rfl, fun w hSw => by obtain ⟨z, hz⟩ := hSw; have y1 := cell_row hz 1; have y3 := cell_row hz 3; simp only [List.getElem?_toArray, List.getElem?_cons_succ, List.getElem?_cons_zero] at y1 y3; go_simp⟩) ?_
  simp only [SL]
  refine wpAnyH_ready (rs := [10]) (by kernel_rfl) (by simp) ?_
  refine AllReadyH.cons rfl (fun K hK => ?_) AllReadyH.nil
  go_simp
  refine (KE.out _ HR3d.out).mono ?_
  rintro e w4 ⟨hst4, hop4⟩
  subst hop4
  have hb4 : w4.heap[g]? = some (.cells (subC ⟨k, o, sw, pp, hh, [], R0⟩ none 0 none 0 none 0) 67 (0, 0)) := by rw [hst4.block _ (lt_of_block HB3.out) (fun e => hxg (Eq.symm e))]; exact HB3.out
  have HS4 := kQ (HS3d.out.s2 hst4)
  obtain ⟨x0, x1, x2, x3, x4, x5, x6, x7, x8, x9⟩ := sub_cells hb4
  have fx5 := row_frozen hb4 5
  refine hK.out _ _ ⟨_, hb4⟩ (fun hS4 => ?_)
  clear hK K KE hst4
  try simp only [SL]
  refine vQ 11 (.tuple #[.slice none 0 0, .bool false]) hS4 ?_
  simp only [SL]
  refine vQ 12 (.slice none 0 0) hS4 ?_
  simp only [SL]
  refine vQ 13 (.bool false) hS4 ?_
  simp only [SL]
  refine vQ 14 (.pointer (some ⟨g, 0, none⟩)) hS4 ?_
  simp only [SL]
  refine vQ 15 (.pointer (some ⟨g, 5, none⟩)) hS4 ?_
  simp only [SL]
  refine wpAnyH_ready (rs := [16]) (by kernel_rfl) (by simp) ?_
  refine AllReadyH.cons rfl (fun K hK => ?_) AllReadyH.nil
  go_simp
  generalize hwf : World.setCell _ _ _ = wf at *
  have hf5 : ∃ z, wf.heap[g]? = some (.cells #[.int .i64 k, .int .i64 o, .int .i64 sw, .int .i64 pp, .int .i64 hh, z, .int .i64 0, .int .i64 0, .slice none 0 0, .slice none 0 0] 67 (0, 0)) := ⟨.slice none 0 0, by
   rw [<- hwf, block_setCell _ _ _ _ _ _ hb4]
   simp only [List.setIfInBounds_toArray, List.set_cons_zero, List.set_cons_succ]
   try rfl⟩
  have HSF : Hid (Stays (XG x g) w wf) := by rw [<- hwf]; exact HS4.out.setCell _ _ (Or.inl (Or.inr rfl))
  refine hK.out _ _ hf5 (fun hS5 => ?_)
  clear hK K hwf hf5 x0 x1 x2 x3 x4 x5 x6 x7 x8 x9 fx5 hb4
  try simp only [SL]
  refine vQ 17 (.bool false) hS5 ?_
  simp only [SL]
  refine wpAnyH_done (by kernel_rfl) ?_ _
  go_wp2_with fail
  go_ret
  exact ⟨HSF.out, OPost.none_ HN.out rfl⟩
 | some r =>
  obtain ⟨C, a1⟩ := r
  have HN : Hid (coefN s a o = some (pp, hh, C, a1)) := by show _ = _; rw [HCN.out, hR]
  have KE : Hid (∀ wx, Rd wx x s a5 -> Calls Tryz.prog 179 #[.pointer (some ⟨x, 0, none⟩), .int .i64 o, .int .i64 pp] wx fun e w' => Stays (only x) wx w' /\ ∃ la lc, e = .returned (.tuple #[.slice la C.length lc, .bool true]) /\ RowS wx.heap.size la lc C w' /\ Rd w' x s a1) := fun wx hh => (ke0 wx hh).mono fun e w' h => by
   obtain ⟨h1, h2⟩ := h
   rw [hR] at h2
   exact ⟨h1, h2⟩
  clear ke0 hR HCN hpp
  go_enter Tryz.func181, Tryz.ntmps181
  go_wp2_with fail
  refine kn.mono ?_
  rintro e w1 ⟨rfl, h2, h3⟩
  have HS1 : Hid (Stays (XG x g) w w1) := only_s2 h3
  have HB1 : Hid (w1.heap[g]? = some (.cells (subC ⟨k, o, sw, 0, 0, [], R0⟩ none 0 none 0 none 0) 67 (0, 0))) := by show _ = _; rw [h3.block _ hgw (fun e => hxg (Eq.symm e))]; exact HBX.out
  have HR1 := kQ h2
  clear kn h2 h3 HBX
  have kn2 := KN5.out w1 HR1.out
  go_wp2_with fail
  refine kn2.mono ?_
  rintro e w2 ⟨rfl, h2, h3⟩
  have HS2 := kQ (HS1.out.s2 h3)
  have HB2 : Hid (w2.heap[g]? = some (.cells (subC ⟨k, o, sw, 0, 0, [], R0⟩ none 0 none 0 none 0) 67 (0, 0))) := by show _ = _; rw [h3.block _ (lt_of_block HB1.out) (fun e => hxg (Eq.symm e))]; exact HB1.out
  have HR2 := kQ h2
  clear kn2 h2 h3 HS1 HB1 HR1 KN5
  obtain ⟨x0, x1, x2, x3, x4, x5, x6, x7, x8, x9⟩ := sub_cells HB2.out
  have fx3 := row_frozen HB2.out 3
  have fx4 := row_frozen HB2.out 4
  go_upto_region 8 with fail
  generalize hwm : World.setCell _ _ _ = w3 at *
  have HB3 : Hid (w3.heap[g]? = some (.cells (subC ⟨k, o, sw, pp, hh, [], R0⟩ none 0 none 0 none 0) 67 (0, 0))) := by
   show _ = _
   rw [<- hwm, block_setCell _ _ _ _ _ _ (block_setCell _ _ _ _ _ _ HB2.out)]
   simp only [List.setIfInBounds_toArray, List.set_cons_zero, List.set_cons_succ]
  have HS3d : Hid (Stays (XG x g) w w3.drew) := by
   have h0 : Stays (XG x g) w w3 := by rw [<- hwm]; exact (HS2.out.setCell _ _ (Or.inl (Or.inr rfl))).setCell _ _ (Or.inl (Or.inr rfl))
   exact h0.drew
  have HR3d : Hid (Rd w3.drew x s a5) := by
   have h0 : Rd w3 x s a5 := by rw [<- hwm]; exact (HR2.out.other _ _ (by show g ≠ x; exact fun e => hxg e.symm)).other _ _ (by show g ≠ x; exact fun e => hxg e.symm)
   exact h0
  clear hwm HB2 HS2 HR2 x0 x1 x2 x3 x4 x5 x6 x7 x8 x9 fx3 fx4
  refine wp_region_held_drew (S := fun wx => ∃ z, wx.heap[g]? = some (.cells #[.int .i64 k, .int .i64 o, .int .i64 sw, .int .i64 pp, .int .i64 hh, z, .int .i64 0, .int .i64 0, .slice none 0 0, .slice none 0 0] 67 (0, 0))) (by kernel_rfl) ⟨_, HB3.out⟩ (fun hS => ?_)
  refine vQ 0 (.pointer (some ⟨g, 0, none⟩)) hS ?_
  simp only [SL]
  refine vQ 1 (.pointer (some ⟨x, 0, none⟩)) hS ?_
  simp only [SL]
  refine vQ 2 (.pointer (some ⟨g, 0, none⟩)) hS ?_
  simp only [SL]
  refine vQ 3 (.pointer (some ⟨g, 0, none⟩)) hS ?_
  simp only [SL]
  refine vQ 4 (.pointer (some ⟨g, 1, none⟩)) hS ?_
  simp only [SL]
  refine uQ 5 (.int .i64 o) rfl hS (Or.inl ⟨by rfl, fun w hSw => by obtain ⟨z, hz⟩ := hSw; have y1 := cell_row hz 1; have y3 := cell_row hz 3; simp only [List.getElem?_toArray, List.getElem?_cons_succ, List.getElem?_cons_zero] at y1 y3; go_simp⟩) ?_
  simp only [SL]
  refine vQ 6 (.pointer (some ⟨g, 0, none⟩)) hS ?_
  simp only [SL]
  refine vQ 7 (.pointer (some ⟨g, 0, none⟩)) hS ?_
  simp only [SL]
  refine vQ 8 (.pointer (some ⟨g, 3, none⟩)) hS ?_
  simp only [SL]
  refine uQ 9 (.int .i64 pp) rfl hS (Or.inl ⟨by rfl, fun w hSw => by obtain ⟨z, hz⟩ := hSw; have y1 := cell_row hz 1; have y3 := cell_row hz 3; simp only [List.getElem?_toArray, List.getElem?_cons_succ, List.getElem?_cons_zero] at y1 y3; go_simp⟩) ?_
  simp only [SL]
  refine wpAnyH_ready (rs := [10]) (by kernel_rfl) (by simp) ?_
  refine AllReadyH.cons rfl (fun K hK => ?_) AllReadyH.nil
  go_simp
  refine (KE.out _ HR3d.out).mono ?_
  rintro e w4 ⟨hst4, hop4⟩
  obtain ⟨la, lc, rfl, hrow4, hrd4⟩ := hop4
  have HSZ : w.heap.size <= w3.drew.heap.size := HS3d.out.size
  have hb4 : w4.heap[g]? = some (.cells (subC ⟨k, o, sw, pp, hh, [], R0⟩ none 0 none 0 none 0) 67 (0, 0)) := by rw [hst4.block _ (lt_of_block HB3.out) (fun e => hxg (Eq.symm e))]; exact HB3.out
  have HS4 := kQ (HS3d.out.s2 hst4)
  obtain ⟨x0, x1, x2, x3, x4, x5, x6, x7, x8, x9⟩ := sub_cells hb4
  have fx5 := row_frozen hb4 5
  refine hK.out _ _ ⟨_, hb4⟩ (fun hS4 => ?_)
  clear hK K KE hst4
  try simp only [SL]
  refine vQ 11 (.tuple #[.slice la C.length lc, .bool true]) hS4 ?_
  simp only [SL]
  refine vQ 12 (.slice la C.length lc) hS4 ?_
  simp only [SL]
  refine vQ 13 (.bool true) hS4 ?_
  simp only [SL]
  refine vQ 14 (.pointer (some ⟨g, 0, none⟩)) hS4 ?_
  simp only [SL]
  refine vQ 15 (.pointer (some ⟨g, 5, none⟩)) hS4 ?_
  simp only [SL]
  refine wpAnyH_ready (rs := [16]) (by kernel_rfl) (by simp) ?_
  refine AllReadyH.cons rfl (fun K hK => ?_) AllReadyH.nil
  go_simp
  generalize hwf : World.setCell _ _ _ = wf at *
  have hff : wf.heap[g]? = some (.cells (subC ⟨k, o, sw, pp, hh, C, R0⟩ la lc none 0 none 0) 67 (0, 0)) := by
   rw [<- hwf, block_setCell _ _ _ _ _ _ hb4]
   simp only [List.setIfInBounds_toArray, List.set_cons_zero, List.set_cons_succ]
  have HSF : Hid (Stays (XG x g) w wf) := by rw [<- hwf]; exact HS4.out.setCell _ _ (Or.inl (Or.inr rfl))
  have HRF : Hid (Rd wf x s a1) := by
   show Rd _ _ _ _
   rw [<- hwf]; exact hrd4.other _ _ (by show g ≠ x; exact fun e => hxg e.symm)
  have HRW : Hid (RowS w.heap.size la lc C wf) := (hrow4.keep (fun j hj _ => by rw [<- hwf]; exact Below.heap_setCell _ _ _ _ (by show j ≠ g; omega))).mono HSZ
  have HFF := kQ hff
  refine hK.out _ _ ⟨_, hff⟩ (fun hS5 => ?_)
  clear hK K hwf hff x0 x1 x2 x3 x4 x5 x6 x7 x8 x9 fx5 hb4 hrow4 hrd4
  try simp only [SL]
  refine vQ 17 (.bool true) hS5 ?_
  simp only [SL]
  refine wpAnyH_done (by kernel_rfl) ?_ _
  go_wp2_with fail
  go_ret
  exact ⟨HSF.out, OPost.some_ HN.out ⟨rfl, la, lc, HFF.out, HRW.out, HRF.out⟩⟩
end Go.Proofs.YtfpfabmbipmipaaGreatDoor
