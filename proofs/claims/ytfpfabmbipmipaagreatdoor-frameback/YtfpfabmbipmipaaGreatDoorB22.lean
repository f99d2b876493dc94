/- Own text. -/
import Derived.Test.YtfpfabmbipmipaaGreatDoorB21
set_option linter.unusedSimpArgs false
set_option linter.unusedVariables false
set_option maxRecDepth 20000
set_option maxHeartbeats 12800000
namespace Go.Proofs.YtfpfabmbipmipaaGreatDoor
open Go.RowKit
theorem WB.look {w wx w' : World} {p : Nat} {ao0 ao : OA} {B : List Nat} {K x : Nat} (h : WB w p ao0 ao B K wx) (hS : Stays (only x) wx w') (h1 : w.heap.size <= x) (h2 : x < K) : WB w p ao0 ao B K w' := by
 refine ⟨h.wr.only hS (by have := h.hp; omega) (fun b hb e => h.nb b hb ⟨by omega, by omega⟩), h.st.trans hS (fun i hi e => by unfold only at e; omega), h.mv, h.hp, h.nb, Nat.le_trans h.kk hS.size⟩
theorem pour_step (D : List Nat) (h01 : Bits01 D) (k pt : Nat) (h : k + pt <= D.length) (h64 : pt <= 64) :
  getE (textOf (pack D)) k pt = 0 /\ getA (textOf (pack D)) k pt = k + pt /\ D.take (k + pt) = D.take k ++ putB (getV (textOf (pack D)) k pt) pt /\ 0 <= getV (textOf (pack D)) k pt /\ getV (textOf (pack D)) k pt <= 18446744073709551615 := by
 obtain ⟨R, a1, a2⟩ := ahead_pack D (D.take k) (D.drop k) [] h01 (by rw [List.append_nil, List.take_append_drop])
 have hlk : (D.take k).length = k := by rw [List.length_take]; omega
 have hld : (D.drop k).length = D.length - k := List.length_drop
 rw [hlk] at a1 a2
 have hE : getE (textOf (pack D)) k pt = 0 := by
  unfold getE
  rw [if_neg (by omega), if_neg (by rw [Int.toNat_natCast]; simp only [List.length_nil] at a2; omega)]
 have hA : getA (textOf (pack D)) k pt = k + pt := by unfold getA; rw [if_pos hE, Int.toNat_natCast]
 obtain ⟨b0, b1, b2⟩ := get_again (textOf (pack D)) k pt hE
 have hl : (putB (getV (textOf (pack D)) k pt) pt).length = pt := by omega
 have hb := getV_bound (textOf (pack D)) k pt
 have hp : (2 : Nat) ^ pt <= 2 ^ 64 := Nat.pow_le_pow_right (by decide) h64
 have e64 : (2 : Nat) ^ 64 = 18446744073709551616 := by decide
 rw [Int.toNat_natCast, pow_int] at hb
 refine ⟨hE, hA, ?_, by omega, by omega⟩
 have e : (ahead (textOf (pack D)) k).take pt = putB (getV (textOf (pack D)) k pt) pt := by
  rw [b1, List.take_append_of_le_length (by omega), List.take_of_length_le (by omega)]
 rw [a1, List.take_append_of_le_length (by omega)] at e
 rw [<- e, List.take_add]
theorem s_pour (p : Nat) (ao : OA) (B : List Nat) (d : Nat) (ad : OA) (D : List Nat) (h01 : Bits01 B) (h01d : Bits01 D) (hB : B.length + D.length <= 3000000000000) (w : World) (hw : WrB w p ao B) (hd : WrB w d ad D) :
  Calls Tryz.prog 118 #[.pointer (some ⟨p, 0, none⟩), .pointer (some ⟨d, 0, none⟩)] w fun e w' => e = .returned (.tuple #[]) /\ ∃ ao', WrB w' p ao' (B ++ D) /\ Stays (foot p ao) w w' /\ Moved w.heap.size ao ao' := by
 have hsz : (textOf (pack D)).size <= 1000000000000000000 := by rw [textOf_size, pack_length]; omega
 have hs8 : D.length <= 8 * (textOf (pack D)).size := by rw [textOf_size, pack_length]; omega
 have kb := bytes_spec d w ad D h01d (by omega) hd
 have ko := of_spec (textOf (pack D)) hsz w
 have KL : Hid (∀ wx, Lo w wx -> G0 161 #[.pointer (some ⟨d, 0, none⟩)] wx (.int .i64 (D.length : Int))) := fun wx hb => len_spec d wx ad D (hd.below hb)
 have HW : Hid (∀ wx, Lo w wx -> w.heap.size + 1 <= wx.heap.size -> WB w p ao ao B (w.heap.size + 1) wx) := fun wx hb hs => WB.start hw hb _ hs
 clear hw hd
 go_enter Tryz.func118, Tryz.ntmps118
 go_wp2_with fail
 refine kb.mono ?_
 rintro e w1 ⟨rfl, hw1⟩
 subst hw1
 clear kb
 go_wp2_with fail
 refine ko.mono ?_
 rintro e w2 ⟨rfl, hrd, hb2⟩
 have HRD := kQ hrd
 have HB0 := kQ (HW.out w2 hb2 (lt_of_block hrd))
 have kl := KL.out w2 hb2
 clear ko hrd hb2 KL HW
 go_wp2_with fail
 refine kl.mono ?_
 rintro e w3 ⟨rfl, hw3⟩
 subst hw3
 clear kl
 go_wp2_with fail
 go_loopw [5, 6, 7, 8, 18] (fun s5 s6 s7 s8 s18 wr => ∃ (k : Nat) (aj : OA) (r : Nat), k + r = D.length /\ s5 = .int .i64 (r : Int) /\ WB w1 p ao aj (B ++ D.take k) (w1.heap.size + 1) wr /\ Rd wr w1.heap.size (textOf (pack D)) k) (fun s5 _ _ _ _ _ => (intOf s5).toNat)
 case atStart => exact ⟨0, ao, D.length, by omega, rfl, by rw [List.take_zero, List.append_nil]; exact HB0.out, HRD.out⟩
 case round =>
  clear HB0 HRD
  obtain ⟨k, aj, r, hkr, rfl, hwb, hrd⟩ := hrel
  have HB := kQ hwb
  have HR := kQ hrd
  have hlen : (B ++ D.take k).length <= 7000000000000 := by rw [List.length_append, List.length_take]; omega
  clear hwb hrd
  by_cases hr0 : 0 < r
  focus
   by_cases h64 : r <= 64
   focus
    obtain ⟨s1, s2, s3, s4, s5⟩ := pour_step D h01d k r (by omega) (by omega)
    have kg := get_all (textOf (pack D)) hsz k (by omega) wr w1.heap.size ((r : Nat) : Int) HR.out
    have HS3 : Hid (B ++ D.take (k + r) = (B ++ D.take k) ++ putB (getV (textOf (pack D)) k ((r : Nat) : Int)) ((r : Nat) : Int)) := by show _ = _; rw [s3, List.append_assoc]
    rw [s1, s2] at kg
    clear s1 s2 s3
    generalize getV (textOf (pack D)) k ((r : Nat) : Int) = V at *
   rotate_left
   focus
    obtain ⟨s1, s2, s3, s4, s5⟩ := pour_step D h01d k 64 (by omega) (by omega)
    have kg := get_all (textOf (pack D)) hsz k (by omega) wr w1.heap.size ((64 : Nat) : Int) HR.out
    have HS3 : Hid (B ++ D.take (k + 64) = (B ++ D.take k) ++ putB (getV (textOf (pack D)) k ((64 : Nat) : Int)) ((64 : Nat) : Int)) := by show _ = _; rw [s3, List.append_assoc]
    rw [s1, s2] at kg
    clear s1 s2 s3
    generalize getV (textOf (pack D)) k ((64 : Nat) : Int) = V at *
   rotate_left
  rotate_left 2
  ·have hD : Hid (D.take k = D) := List.take_of_length_le (by omega)
   rw [hD.out] at HB
   go_wp2_with fail
   go_end0
   exact ⟨rfl, aj, HB.out.wr, HB.out.st, HB.out.mv⟩
  all_goals
   go_wp2_with fail
   refine kg.mono ?_
   rintro e w2 ⟨rfl, hr2, hst2⟩
   have HR2 := kQ hr2
   have H2 : Hid (WB w1 p ao aj (B ++ D.take k) (w1.heap.size + 1) w2) := HB.out.look hst2 (Nat.le_refl _) (by omega)
   clear kg hr2 hst2 HB HR
  ·have kp := wput_all w2 aj (B ++ D.take k) p V ((r : Nat) : Int) s4 s5 (h01.append (h01d.take k)) hlen H2.out.wr
   go_wp2_with fail
   refine kp.mono ?_
   rintro e w3 ⟨rfl, ao3, hw3, hs3, hv3⟩
   have H3 : Hid (WB w1 p ao ao3 (B ++ D.take (k + r)) (w1.heap.size + 1) w3) := by rw [HS3.out]; exact H2.out.put hw3 hs3 hv3
   have HR3 : Hid (Rd w3 w1.heap.size (textOf (pack D)) (k + r)) := by
    have h := HR2.out
    unfold Rd at h
    show Rd _ _ _ _
    unfold Rd
    rw [H2.out.box hs3 _ (Nat.le_refl _) (by omega)]; exact h
   clear kp hw3 hs3 hv3 H2 HR2 HS3
   go_wp2_with fail
   go_roundw
   case rel => exact ⟨k + r, ao3, r - r, by omega, by go_num, H3.out, HR3.out⟩
   case measure => simp [intOf]; omega
  ·have kp := wput_all w2 aj (B ++ D.take k) p V ((64 : Nat) : Int) s4 s5 (h01.append (h01d.take k)) hlen H2.out.wr
   go_wp2_with fail
   refine kp.mono ?_
   rintro e w3 ⟨rfl, ao3, hw3, hs3, hv3⟩
   have H3 : Hid (WB w1 p ao ao3 (B ++ D.take (k + 64)) (w1.heap.size + 1) w3) := by rw [HS3.out]; exact H2.out.put hw3 hs3 hv3
   have HR3 : Hid (Rd w3 w1.heap.size (textOf (pack D)) (k + 64)) := by
    have h := HR2.out
    unfold Rd at h
    show Rd _ _ _ _
    unfold Rd
    rw [H2.out.box hs3 _ (Nat.le_refl _) (by omega)]; exact h
   clear kp hw3 hs3 hv3 H2 HR2 HS3
   go_wp2_with fail
   go_roundw
   case rel => exact ⟨k + 64, ao3, r - 64, by omega, by go_num, H3.out, HR3.out⟩
   case measure => simp [intOf]; omega
theorem sigB_short (n k : Int) : (sigB n k).length <= 64 := by
 unfold sigB; split
 ·rw [bitsOf_length]; omega
 ·simp
theorem unrB_short (n : Int) (h : n <= 100) : (unrB n).length <= 101 := by
 unfold unrB; split
 ·rw [List.length_append, List.length_replicate, List.length_singleton]; omega
 ·simp
theorem wstB_short (w : Int) (h : w <= 33) : (wstB w).length <= 200 := by
 unfold wstB; split
 ·rw [List.length_append]; have := putB_short 1 1 (by decide); have := unrB_short (w - 1) (by omega); omega
 ·have := putB_short 0 1 (by decide); omega
theorem wstB_01 (w : Int) : Bits01 (wstB w) := by
 unfold wstB; split
 ·exact (putB_01 _ _).append (unrB_01 _)
 ·exact putB_01 _ _
theorem bodyB_01 (q : Sb) (v : Int) (m : List Int) : Bits01 (bodyB q v m) := by
 unfold bodyB
 split
 ·exact sigB_01 _ _
 ·split
  ·exact numsB_01 _ _ _
  ·split
   ·exact (numsB_01 _ _ _).append (encB_01 _ _ _ _)
   ·exact (numsB_01 _ _ _).append ((putB_01 _ _).append ((putB_01 _ _).append ((numsB_01 _ _ _).append (encB_01 _ _ _ _))))
theorem subB_01 (q : Sb) (v : Int) (l : List Int) : Bits01 (subB q v l) := (putB_01 _ _).append ((wstB_01 _).append (bodyB_01 _ _ _))
theorem encR_room {c : Rc} {b r : Int} {l : List Int} (h : encR c b r l = true) : (encB c b.toNat r.toNat l).length <= 1300000000000 := by
 obtain ⟨b', o', r', rfl, rfl, hk, hf⟩ := encR_yes h
 have hl := ((fitB_iff c b' o' r' l).1 hf).1
 have := hk.cut.b2
 exact encB_room c b' o' r' hk l hl (by omega)
theorem subB_room (q : Sb) (v : Int) (l : List Int) (h : okS q v l) : (subB q v l).length <= 1400000000000 := by
 obtain ⟨⟨hb, hv, hw, hkd⟩, hf, hd, hs, hr⟩ := h
 have hml : (shrL l q.w.toNat).length = l.length := shr_len l q.w.toNat
 have hll : l.length <= 65535 := by omega
 have e1 := putB_short (typN q) 7 (by decide)
 have e2 := wstB_short q.w (by omega)
 have hres : (q.k = 2 ∨ q.k = 3) -> (encB q.R (shrL l q.w.toNat).length q.o.toNat (resN q (shrL l q.w.toNat))).length <= 1300000000000 := fun hk => by
  have := encR_room (hr hk)
  rw [Int.toNat_natCast] at this
  rw [hml]; exact this
 have hnm : ∀ X : List Int, X.length <= 65535 -> (numsB 0 (v - q.w) X).length <= 64 * 65535 := fun X hX => by
  have := numsB_fit_len (v - q.w) X (by omega) (by omega); omega
 have htk : ((shrL l q.w.toNat).take q.o.toNat).length <= 65535 := by rw [List.length_take]; omega
 have hbody : (bodyB q v (shrL l q.w.toNat)).length <= 1390000000000 := by
  unfold bodyB
  split
  ·have := sigB_short ((shrL l q.w.toNat).getD 0 0) (v - q.w); omega
  ·split
   ·have := hnm (shrL l q.w.toNat) (by omega); omega
   ·split
    ·rename_i hk
     rw [List.length_append]
     have := hnm _ htk; have := hres (Or.inl hk); omega
    ·rename_i k0 k1 k2
     have hk3 : q.k = 3 := by have := kd_kinds hkd; unfold kinds at this; omega
     have hL : q.p <= 15 /\ 1 <= q.p /\ (q.C.length : Int) = q.o /\ q.o <= 32 := by
      rcases hkd with hA | hF | hL
      ·have := hA.1; omega
      ·have := hF.1; omega
      ·obtain ⟨_, _, h3, _, h5, h6, _, _, h9, _⟩ := hL; exact ⟨h6, h5, h9, h3⟩
     simp only [List.length_append]
     have a1 := hnm _ htk
     have a2 := hres (Or.inr hk3)
     have a3 := putB_short (q.p - 1) 4 (by decide)
     have a4 := putB_short q.h 5 (by decide)
     have a5 := numsB_fit_len q.p q.C (by omega) (by omega)
     omega
 unfold subB
 simp only [List.length_append]
 omega
structure DR (w : World) (q : Sb) (ca : OA) (cc : Nat) (pa : OA) (pc : Nat) (ea : OA) (ec : Nat) (d : Nat) (ad : OA) (D : List Nat) (wx : World) : Prop where
 box : wx.heap[w.heap.size]? = some (.cells (subC q ca cc pa pc ea ec) 67 (0, 0))
 wr : WrB wx d ad D
 low : Lo w wx
 hd : w.heap.size < d
 nd : ∀ b, blockOf ad = some b -> w.heap.size < b
section
variable {w wx w' : World} {q : Sb} {ca : OA} {cc : Nat} {pa : OA} {pc : Nat} {ea : OA} {ec : Nat} {d : Nat} {ad ad' : OA} {D D' : List Nat}
theorem DR.put (h : DR w q ca cc pa pc ea ec d ad D wx) (hs : Stays (foot d ad) wx w') (hv : Moved wx.heap.size ad ad') (hw : WrB w' d ad' D') : DR w q ca cc pa pc ea ec d ad' D' w' := by
 have hlt := lt_of_block h.box
 have hn : ∀ i, i <= w.heap.size -> ¬ foot d ad i := fun i hi hf => by
  rcases hf with hf | hf
  ·have := h.hd; omega
  ·have := h.nd i hf; omega
 refine ⟨by rw [hs.block _ hlt (hn _ (Nat.le_refl _))]; exact h.box, hw, h.low.trans (hs.below (Nat.le_of_lt hlt) (fun i hi => hn i (by omega))), h.hd, fun b hb => ?_⟩
 rcases hv b hb with h1 | h1
 ·exact h.nd b h1
 ·omega
theorem DR.stay (h : DR w q ca cc pa pc ea ec d ad D wx) (hs : Stays (foot d ad) wx w') : Lo w w' := by
 have hlt := lt_of_block h.box
 exact h.low.trans (hs.below (Nat.le_of_lt hlt) (fun i hi hf => by
  rcases hf with hf | hf
  ·have := h.hd; omega
  ·have := h.nd i hf; omega))
theorem DR.boxstay (h : DR w q ca cc pa pc ea ec d ad D wx) (hs : Stays (foot d ad) wx w') : w'.heap[w.heap.size]? = some (.cells (subC q ca cc pa pc ea ec) 67 (0, 0)) := by
 rw [hs.block _ (lt_of_block h.box) (fun hf => by
  rcases hf with hf | hf
  ·have := h.hd; omega
  ·have := h.nd _ hf; omega)]
 exact h.box
theorem DR.next (h : DR w q ca cc pa pc ea ec d ad D wx) (hb : Lo wx w') : DR w q ca cc pa pc ea ec d ad D w' :=
 ⟨by rw [hb.block _ (lt_of_block h.box)]; exact h.box, h.wr.below hb, h.low.trans (hb.mono h.low.size), h.hd, h.nd⟩
theorem DR.apart (h : DR w q ca cc pa pc ea ec d ad D wx) {xo : OA} {l : List Int} (hx : IntsAt w xo l) : Apart d ad xo l := fun h0 b hb hf => by
 obtain ⟨bb, off, rfl, hc⟩ := hx.lies h0
 have e : bb = b := by simpa [blockOf] using hb
 have h2 : bb < w.heap.size := lt_cell (hc 0 h0)
 rcases hf with hf | hf
 ·have := h.hd; omega
 ·have := h.nd b hf; omega
end
theorem DR.start {w wx : World} {q : Sb} {ca : OA} {cc : Nat} {pa : OA} {pc : Nat} {ea : OA} {ec : Nat} (h : SX w q ca cc pa pc ea ec wx) (o : Obj) (hw : WrB (wx.alloc o) wx.heap.size none []) : DR w q ca cc pa pc ea ec wx.heap.size none [] (wx.alloc o) := by
 have hb : Lo wx (wx.alloc o) := aQ
 have h2 := h.next hb
 exact ⟨h2.box, hw, h2.below, lt_of_block h.box, fun b hb => by cases hb⟩
theorem grp5 : (∀ (q : Sb) (v : Int) (l : List Int) (ca : OA) (cc : Nat) (pa : OA) (pc : Nat) (ea : OA) (ec : Nat) (lo : OA) (cap p : Nat) (w : World) (hq : SbAt w q ca pa ea) (hl : IntsAt w lo l) (hno : ¬ subOk q l.length v), Calls Tryz.prog 64 #[.pointer (some ⟨p, 0, none⟩), subV q ca cc pa pc ea ec, .int .i64 v, .slice lo l.length cap] w fun e w' => e = .returned (.int .i64 60) /\ Lo w w') /\ (∀ (q : Sb) (v : Int) (l : List Int) (ca : OA) (cc : Nat) (pa : OA) (pc : Nat) (ea : OA) (ec : Nat) (lo : OA) (cap p : Nat) (w : World) (hq : SbAt w q ca pa ea) (hl : IntsAt w lo l) (hok : subOk q l.length v) (hfit : ¬ fitOk q v l), Calls Tryz.prog 64 #[.pointer (some ⟨p, 0, none⟩), subV q ca cc pa pc ea ec, .int .i64 v, .slice lo l.length cap] w fun e w' => e = .returned (.int .i64 60) /\ Lo w w') /\ (∀ (q : Sb) (v : Int) (l : List Int) (ca : OA) (cc : Nat) (pa : OA) (pc : Nat) (ea : OA) (ec : Nat) (lo : OA) (cap p : Nat) (w : World) (hq : SbAt w q ca pa ea) (hl : IntsAt w lo l) (hok : subOk q l.length v) (hfit : fitOk q v l) (hres : ¬ (q.k = 2 ∨ q.k = 3 -> encR q.R l.length q.o (resN q (shrL l q.w.toNat)) = true)), Calls Tryz.prog 64 #[.pointer (some ⟨p, 0, none⟩), subV q ca cc pa pc ea ec, .int .i64 v, .slice lo l.length cap] w fun e w' => e = .returned (.int .i64 60) /\ Lo w w') /\ (∀ (q : Sb) (v : Int) (l : List Int) (ca : OA) (cc : Nat) (pa : OA) (pc : Nat) (ea : OA) (ec : Nat) (lo : OA) (cap p : Nat) (ao : OA) (B : List Nat) (h01 : Bits01 B) (hB : B.length <= 1200000000000) (w : World) (hq : SbAt w q ca pa ea) (hl : IntsAt w lo l) (hw : WrB w p ao B) (hS : okS q v l), Calls Tryz.prog 64 #[.pointer (some ⟨p, 0, none⟩), subV q ca cc pa pc ea ec, .int .i64 v, .slice lo l.length cap] w fun e w' => e = .returned (.int .i64 0) /\ ∃ ao', WrB w' p ao' (B ++ subB q v l) /\ Stays (foot p ao) w w' /\ Moved w.heap.size ao ao') := by
 refine ⟨?_, ?_, ?_, ?_⟩
 ·intro q v l ca cc pa pc ea ec lo cap p w hq hl hno
  have hll := hl.len
  have KC : Hid (∀ wx a, a = subV q ca cc pa pc ea ec -> Lo w wx -> G1 88 #[a, .int .i64 (l.length : Int), .int .i64 v] wx (.int .i64 60)) := fun wx a ha hb => by rw [ha]; exact s_check q ca cc pa pc ea ec l.length v 60 (fun h => absurd h hno) (fun _ => rfl) wx (hq.below hb)
  clear hq hl hno
  have HA : Hid (SX w q ca cc pa pc ea ec (w.alloc (.cells (subC q ca cc pa pc ea ec) 67))) := SX.new w q ca cc pa pc ea ec
  go_enter Tryz.func64, Tryz.ntmps64
  go_upto_region 1 with fail
  generalize World.alloc _ _ = wa at *
  obtain ⟨x0, x1, x2, x3, x4, x5, x6, x7, x8, x9⟩ := sub_cells HA.out.box
  go_wp2_with fail
  refine (KC.out _ _ (by simp []) HA.out.below).mono ?_
  rintro e wx_HA0 ⟨rfl, hb⟩
  have HA0 := kQ (HA.out.next hb)
  clear hb HA x0 x1 x2 x3 x4 x5 x6 x7 x8 x9
  obtain ⟨x0, x1, x2, x3, x4, x5, x6, x7, x8, x9⟩ := sub_cells HA0.out.box
  go_wp2_with fail
  go_ret
  exact ⟨rfl, HA0.out.below⟩
 ·intro q v l ca cc pa pc ea ec lo cap p w hq hl hok hfit
  have hll := hl.len
  obtain ⟨hbl, hv, hwd, hkd⟩ := hok
  have KC : Hid (∀ wx a, a = subV q ca cc pa pc ea ec -> Lo w wx -> G1 88 #[a, .int .i64 (l.length : Int), .int .i64 v] wx (.int .i64 0)) := fun wx a ha hb => by rw [ha]; exact s_check q ca cc pa pc ea ec l.length v 0 (fun _ => rfl) (fun h => absurd ⟨hbl, hv, hwd, hkd⟩ h) wx (hq.below hb)
  have KF : Hid (∀ wx a, a = subV q ca cc pa pc ea ec -> Lo w wx -> G1 114 #[a, .int .i64 v, .slice lo l.length cap] wx (.bool false)) := fun wx a ha hb => by
   rw [ha]
   have h := s_fit q ca cc pa pc ea ec q.w.toNat (by omega) (by omega) l lo cap (v.toNat - 1) (by omega) false (ff_iff (by rw [show ((v.toNat - 1 : Nat) : Int) + 1 = v by omega]; exact hfit)) wx (hl.below hb)
   rw [show ((v.toNat - 1 : Nat) : Int) + 1 = v by omega] at h
   exact h
  clear hq hl hfit hkd
  have HA : Hid (SX w q ca cc pa pc ea ec (w.alloc (.cells (subC q ca cc pa pc ea ec) 67))) := SX.new w q ca cc pa pc ea ec
  go_enter Tryz.func64, Tryz.ntmps64
  go_upto_region 1 with fail
  generalize World.alloc _ _ = wa at *
  obtain ⟨x0, x1, x2, x3, x4, x5, x6, x7, x8, x9⟩ := sub_cells HA.out.box
  go_wp2_with fail
  refine (KC.out _ _ (by simp []) HA.out.below).mono ?_
  rintro e wx_HA0 ⟨rfl, hb⟩
  have HA0 := kQ (HA.out.next hb)
  clear hb HA x0 x1 x2 x3 x4 x5 x6 x7 x8 x9
  obtain ⟨x0, x1, x2, x3, x4, x5, x6, x7, x8, x9⟩ := sub_cells HA0.out.box
  go_wp2_with fail
  refine (KF.out _ _ (by simp []) HA0.out.below).mono ?_
  rintro e wx_HA1 ⟨rfl, hb⟩
  have HA1 := kQ (HA0.out.next hb)
  clear hb HA0 x0 x1 x2 x3 x4 x5 x6 x7 x8 x9
  obtain ⟨x0, x1, x2, x3, x4, x5, x6, x7, x8, x9⟩ := sub_cells HA1.out.box
  go_wp2_with fail
  go_ret
  exact ⟨rfl, HA1.out.below⟩
 focus
  intro q v l ca cc pa pc ea ec lo cap p w hq hl hok hfit hres
  have HBB : (false = true ↔ (q.k = 2 ∨ q.k = 3 -> encR q.R l.length q.o (resN q (shrL l q.w.toNat)) = true)) := ff_iff hres
  have hll := hl.len
  obtain ⟨hbl, hv, hwd, hkd⟩ := hok
  have hk := kd_kinds hkd
  unfold kinds at hk
  have KC : Hid (∀ wx a, a = subV q ca cc pa pc ea ec -> Lo w wx -> G1 88 #[a, .int .i64 (l.length : Int), .int .i64 v] wx (.int .i64 0)) := fun wx a ha hb => by rw [ha]; exact s_check q ca cc pa pc ea ec l.length v 0 (fun _ => rfl) (fun h => absurd ⟨hbl, hv, hwd, hkd⟩ h) wx (hq.below hb)
  have KF : Hid (∀ wx a, a = subV q ca cc pa pc ea ec -> Lo w wx -> G1 114 #[a, .int .i64 v, .slice lo l.length cap] wx (.bool true)) := fun wx a ha hb => by
   rw [ha]
   have h := s_fit q ca cc pa pc ea ec q.w.toNat (by omega) (by omega) l lo cap (v.toNat - 1) (by omega) true (tt_iff (by rw [show ((v.toNat - 1 : Nat) : Int) + 1 = v by omega]; exact hfit)) wx (hl.below hb)
   rw [show ((v.toNat - 1 : Nat) : Int) + 1 = v by omega] at h
   exact h
  have KH : Hid (∀ wx a d, a = subV q ca cc pa pc ea ec -> WrB wx d none [] -> Calls Tryz.prog 115 #[.pointer (some ⟨d, 0, none⟩), a] wx fun en w' => en = .returned (.tuple #[]) /\ ∃ ao', WrB w' d ao' ([] ++ (putB (typN q) 7 ++ wstB q.w)) /\ Stays (foot d none) wx w' /\ Moved wx.heap.size none ao') := fun wx a d ha hw => by
   rw [ha]; exact s_head q ca cc pa pc ea ec (by omega) (by omega) (by omega) d none [] Bits01.nil (by simp) wx hw
  have KD : Hid (∀ wx, Lo w wx -> Calls Tryz.prog 117 #[.slice lo l.length cap, .int .i64 q.w] wx fun e w' => ∃ ga gc, e = .returned (.slice ga (shrL l q.w.toNat).length gc) /\ Made wx ga gc (shrL l q.w.toNat) w') := fun wx hb => by
   have h := s_div l q.w.toNat (by omega) lo cap wx (hl.below hb)
   rw [show ((q.w.toNat : Nat) : Int) = q.w by omega] at h
   exact h
  have hsl := shr_len l q.w.toNat
  have HD0 : Hid ((putB (typN q) 7 ++ wstB q.w).length <= 100000000 /\ Bits01 (putB (typN q) 7 ++ wstB q.w)) := by
   refine ⟨?_, (putB_01 _ _).append (wstB_01 _)⟩
   rw [List.length_append]
   have := putB_short (typN q) 7 (by decide)
   have := wstB_short q.w (by omega)
   omega
  have KB : Hid (∀ d wx, ∀ ad, DR w q ca cc pa pc ea ec d ad (putB (typN q) 7 ++ wstB q.w) wx -> ∀ g mc, (shrL l q.w.toNat).length <= mc -> IntsAt wx (some ⟨g, 0, none⟩) (shrL l q.w.toNat) -> Apart d ad (some ⟨g, 0, none⟩) (shrL l q.w.toNat) -> Calls Tryz.prog 116 #[.pointer (some ⟨d, 0, none⟩), subV q ca cc pa pc ea ec, .int .i64 (v - q.w), .slice (some ⟨g, 0, none⟩) (shrL l q.w.toNat).length mc] wx fun e w' => e = .returned (.bool false) /\ ∃ ao', (false = true -> WrB w' d ao' ((putB (typN q) 7 ++ wstB q.w) ++ bodyB q v (shrL l q.w.toNat))) /\ Stays (foot d ad) wx w' /\ Moved wx.heap.size ad ao') := fun d wx ad hD g mc hmc hm ham => by
   have hle := hD.low
   exact s_body q ca cc pa pc ea ec v (shrL l q.w.toNat) g mc hmc d ad _ HD0.out.2 HD0.out.1 wx (by rw [hsl]; exact ⟨hbl, hv, hwd, hkd⟩) (hq.below hle) hm hD.wr (hD.apart hq.C) (hD.apart hq.R.P) (hD.apart hq.R.E) ham false (by rw [hsl]; exact HBB)
  clear hq hl hfit hkd hk HBB hres hsl
 rotate_left
 focus
  intro q v l ca cc pa pc ea ec lo cap p ao B h01 hB w hq hl hw hS
  have HBB : (true = true ↔ (q.k = 2 ∨ q.k = 3 -> encR q.R l.length q.o (resN q (shrL l q.w.toNat)) = true)) := tt_iff hS.2.2.2.2
  have hok := hS.1
  have hfit : fitOk q v l := ⟨hS.2.1, hS.2.2.1, hS.2.2.2.1⟩
  have hroom := subB_room q v l hS
  have hs01 := subB_01 q v l
  have HSB : (putB (typN q) 7 ++ wstB q.w) ++ bodyB q v (shrL l q.w.toNat) = subB q v l := by unfold subB; rw [List.append_assoc]
  have KP : Hid (∀ wx d ad, Lo w wx -> WrB wx d ad ((putB (typN q) 7 ++ wstB q.w) ++ bodyB q v (shrL l q.w.toNat)) -> Calls Tryz.prog 118 #[.pointer (some ⟨p, 0, none⟩), .pointer (some ⟨d, 0, none⟩)] wx fun e w' => e = .returned (.tuple #[]) /\ ∃ ao', WrB w' p ao' (B ++ subB q v l) /\ Stays (foot p ao) wx w' /\ Moved wx.heap.size ao ao') := fun wx d ad hb hd => by
   rw [HSB] at hd
   exact s_pour p ao B d ad (subB q v l) h01 hs01 (by omega) wx (hw.below hb) hd
  have HFIN : Hid (∀ wx w8 ao8, Lo w wx -> WrB w8 p ao8 (B ++ subB q v l) -> Stays (foot p ao) wx w8 -> Moved wx.heap.size ao ao8 -> WrB w8 p ao8 (B ++ subB q v l) /\ Stays (foot p ao) w w8 /\ Moved w.heap.size ao ao8) := fun wx w8 ao8 hb h1 h2 h3 =>
   ⟨h1, (Stays.of_below hb (foot p ao)).trans h2 (fun _ _ h => h), (Moved.refl _ _).trans h3 hb.size⟩
  clear hw hS h01 hroom hs01
  have hll := hl.len
  obtain ⟨hbl, hv, hwd, hkd⟩ := hok
  have hk := kd_kinds hkd
  unfold kinds at hk
  have KC : Hid (∀ wx a, a = subV q ca cc pa pc ea ec -> Lo w wx -> G1 88 #[a, .int .i64 (l.length : Int), .int .i64 v] wx (.int .i64 0)) := fun wx a ha hb => by rw [ha]; exact s_check q ca cc pa pc ea ec l.length v 0 (fun _ => rfl) (fun h => absurd ⟨hbl, hv, hwd, hkd⟩ h) wx (hq.below hb)
  have KF : Hid (∀ wx a, a = subV q ca cc pa pc ea ec -> Lo w wx -> G1 114 #[a, .int .i64 v, .slice lo l.length cap] wx (.bool true)) := fun wx a ha hb => by
   rw [ha]
   have h := s_fit q ca cc pa pc ea ec q.w.toNat (by omega) (by omega) l lo cap (v.toNat - 1) (by omega) true (tt_iff (by rw [show ((v.toNat - 1 : Nat) : Int) + 1 = v by omega]; exact hfit)) wx (hl.below hb)
   rw [show ((v.toNat - 1 : Nat) : Int) + 1 = v by omega] at h
   exact h
  have KH : Hid (∀ wx a d, a = subV q ca cc pa pc ea ec -> WrB wx d none [] -> Calls Tryz.prog 115 #[.pointer (some ⟨d, 0, none⟩), a] wx fun en w' => en = .returned (.tuple #[]) /\ ∃ ao', WrB w' d ao' ([] ++ (putB (typN q) 7 ++ wstB q.w)) /\ Stays (foot d none) wx w' /\ Moved wx.heap.size none ao') := fun wx a d ha hw => by
   rw [ha]; exact s_head q ca cc pa pc ea ec (by omega) (by omega) (by omega) d none [] Bits01.nil (by simp) wx hw
  have KD : Hid (∀ wx, Lo w wx -> Calls Tryz.prog 117 #[.slice lo l.length cap, .int .i64 q.w] wx fun e w' => ∃ ga gc, e = .returned (.slice ga (shrL l q.w.toNat).length gc) /\ Made wx ga gc (shrL l q.w.toNat) w') := fun wx hb => by
   have h := s_div l q.w.toNat (by omega) lo cap wx (hl.below hb)
   rw [show ((q.w.toNat : Nat) : Int) = q.w by omega] at h
   exact h
  have hsl := shr_len l q.w.toNat
  have HD0 : Hid ((putB (typN q) 7 ++ wstB q.w).length <= 100000000 /\ Bits01 (putB (typN q) 7 ++ wstB q.w)) := by
   refine ⟨?_, (putB_01 _ _).append (wstB_01 _)⟩
   rw [List.length_append]
   have := putB_short (typN q) 7 (by decide)
   have := wstB_short q.w (by omega)
   omega
  have KB : Hid (∀ d wx, ∀ ad, DR w q ca cc pa pc ea ec d ad (putB (typN q) 7 ++ wstB q.w) wx -> ∀ g mc, (shrL l q.w.toNat).length <= mc -> IntsAt wx (some ⟨g, 0, none⟩) (shrL l q.w.toNat) -> Apart d ad (some ⟨g, 0, none⟩) (shrL l q.w.toNat) -> Calls Tryz.prog 116 #[.pointer (some ⟨d, 0, none⟩), subV q ca cc pa pc ea ec, .int .i64 (v - q.w), .slice (some ⟨g, 0, none⟩) (shrL l q.w.toNat).length mc] wx fun e w' => e = .returned (.bool true) /\ ∃ ao', (true = true -> WrB w' d ao' ((putB (typN q) 7 ++ wstB q.w) ++ bodyB q v (shrL l q.w.toNat))) /\ Stays (foot d ad) wx w' /\ Moved wx.heap.size ad ao') := fun d wx ad hD g mc hmc hm ham => by
   have hle := hD.low
   exact s_body q ca cc pa pc ea ec v (shrL l q.w.toNat) g mc hmc d ad _ HD0.out.2 HD0.out.1 wx (by rw [hsl]; exact ⟨hbl, hv, hwd, hkd⟩) (hq.below hle) hm hD.wr (hD.apart hq.C) (hD.apart hq.R.P) (hD.apart hq.R.E) ham true (by rw [hsl]; exact HBB)
  clear hq hl hfit hkd hk HBB HSB hsl
 rotate_left
 all_goals
  have HA : Hid (SX w q ca cc pa pc ea ec (w.alloc (.cells (subC q ca cc pa pc ea ec) 67))) := SX.new w q ca cc pa pc ea ec
  go_enter Tryz.func64, Tryz.ntmps64
  go_upto_region 1 with fail
  generalize World.alloc _ _ = wa at *
  obtain ⟨x0, x1, x2, x3, x4, x5, x6, x7, x8, x9⟩ := sub_cells HA.out.box
  go_wp2_with fail
  refine (KC.out _ _ (by simp []) HA.out.below).mono ?_
  rintro e wx_HA0 ⟨rfl, hb⟩
  have HA0 := kQ (HA.out.next hb)
  clear hb HA x0 x1 x2 x3 x4 x5 x6 x7 x8 x9
  obtain ⟨x0, x1, x2, x3, x4, x5, x6, x7, x8, x9⟩ := sub_cells HA0.out.box
  go_wp2_with fail
  refine (KF.out _ _ (by simp) HA0.out.below).mono ?_
  rintro e w2 ⟨rfl, hb⟩
  have HA1 := kQ (HA0.out.next hb)
  clear hb HA0 x0 x1 x2 x3 x4 x5 x6 x7 x8 x9
  obtain ⟨x0, x1, x2, x3, x4, x5, x6, x7, x8, x9⟩ := sub_cells HA1.out.box
  have kn := new_spec w2
  go_wp2_with fail
  refine kn.mono ?_
  rintro e w3 ⟨rfl, hw3, ew3⟩
  have D3 : Hid (DR w q ca cc pa pc ea ec w2.heap.size none [] w3) := by rw [ew3] at hw3 ⊢; exact DR.start HA1.out _ hw3
  clear kn ew3 hw3 HA1 x0 x1 x2 x3 x4 x5 x6 x7 x8 x9
  generalize w2.heap.size = d at *
  obtain ⟨x0, x1, x2, x3, x4, x5, x6, x7, x8, x9⟩ := sub_cells D3.out.box
  go_wp2_with fail
  refine (KH.out _ _ _ (by simp) D3.out.wr).mono ?_
  rintro e w5 ⟨rfl, ad5, hw5, hs5, hv5⟩
  have D5 := kQ (D3.out.put hs5 hv5 hw5)
  have D5d : Hid (DR w q ca cc pa pc ea ec d ad5 (putB (typN q) 7 ++ wstB q.w) w5.drew) := D5.out.next dQ
  clear hw5 hs5 hv5 D3 D5 KH x0 x1 x2 x3 x4 x5 x6 x7 x8 x9
  go_wp2_with fail
  refine wp_region_held_drew (S := fun wx => wx.heap[w.heap.size]? = some (.cells (subC q ca cc pa pc ea ec) 67 (0, 0))) (by kernel_rfl) D5d.out.box (fun hS => ?_)
  refine vQ 0 (.pointer (some ⟨d, 0, none⟩)) hS ?_
  simp only [SL]
  refine uQ 1 (subV q ca cc pa pc ea ec) rfl hS (Or.inl ⟨by rfl, fun w hSw => by obtain ⟨x0, x1, x2, x3, x4, x5, x6, x7, x8, x9⟩ := sub_cells hSw; go_simp⟩) ?_
  simp only [SL]
  refine vQ 2 (.int .i64 v) hS ?_
  simp only [SL]
  refine vQ 3 (.pointer (some ⟨w.heap.size, 2, none⟩)) hS ?_
  simp only [SL]
  refine uQ 4 (.int .i64 q.w) rfl hS (Or.inl ⟨by rfl, fun w hSw => by obtain ⟨x0, x1, x2, x3, x4, x5, x6, x7, x8, x9⟩ := sub_cells hSw; go_simp⟩) ?_
  simp only [SL]
  refine uQ 5 (.int .i64 (v - q.w)) rfl hS (Or.inl ⟨by rfl, fun w hSw => by go_simp; rw [IntKind.wrap_i64]; omega⟩) ?_
  simp only [SL]
  refine vQ 6 (.slice lo l.length cap) hS ?_
  simp only [SL]
  refine vQ 7 (.pointer (some ⟨w.heap.size, 2, none⟩)) hS ?_
  simp only [SL]
  refine uQ 8 (.int .i64 q.w) rfl hS (Or.inl ⟨by rfl, fun w hSw => by obtain ⟨x0, x1, x2, x3, x4, x5, x6, x7, x8, x9⟩ := sub_cells hSw; go_simp⟩) ?_
  simp only [SL]
  refine wpAnyH_ready (rs := [9]) (by kernel_rfl) (by simp) ?_
  refine AllReadyH.cons rfl (fun K hK => ?_) AllReadyH.nil
  go_simp
  refine (KD.out _ D5d.out.low).mono ?_
  rintro e w6 ⟨ga, gc, rfl, hmd⟩
  have D6 := D5d.out.next hmd.below
  obtain ⟨g6, rfl, hg6, hrow⟩ := hmd.at_
  have kb := KB.out d w6 ad5 D6 g6 gc hmd.cap_ hmd.ints (apart_made hmd D5d.out.wr)
  clear hrow
 rotate_left 2
 all_goals
  refine hK.out _ _ D6.box (fun hS6 => ?_)
  clear hK K KB KD
  try simp only [SL]
  refine wpAnyH_ready (rs := [10]) (by kernel_rfl) (by simp) ?_
  refine AllReadyH.cons rfl (fun K hK => ?_) AllReadyH.nil
  go_simp
  refine kb.mono ?_
  rintro e w7 ⟨rfl, ad7, hwr7, hst7, hmv7⟩
 ·have HL7 : Hid (Lo w w7) := D6.stay hst7
  have hS7 : w7.heap[w.heap.size]? = some (.cells (subC q ca cc pa pc ea ec) 67 (0, 0)) := D6.boxstay hst7
  refine hK.out _ _ hS7 (fun hS8 => ?_)
  clear hK K kb hwr7 hst7 hmv7 D6 D5d hmd hg6
  try simp only [SL]
  refine vQ 11 (.bool true) hS8 ?_
  simp only [SL]
  refine wpAnyH_done (by kernel_rfl) ?_ _
  go_wp2_with fail
  go_ret
  exact ⟨rfl, HL7.out⟩
 ·have HW7 : Hid (DR w q ca cc pa pc ea ec d ad7 ((putB (typN q) 7 ++ wstB q.w) ++ bodyB q v (shrL l q.w.toNat)) w7) := D6.put hst7 hmv7 (hwr7 (by trivial))
  refine hK.out _ _ HW7.out.box (fun hS8 => ?_)
  clear hK K kb hwr7 hst7 hmv7 D6 D5d hmd hg6
  try simp only [SL]
  refine vQ 11 (.bool false) hS8 ?_
  simp only [SL]
  refine wpAnyH_done (by kernel_rfl) ?_ _
  have kp := KP.out w7 d ad7 HW7.out.low HW7.out.wr
  clear KP HD0
  go_wp2_with fail
  refine kp.mono ?_
  rintro e w8 ⟨rfl, ao8, hw8, hs8, hv8⟩
  have HF := kQ (HFIN.out w7 w8 ao8 HW7.out.low hw8 hs8 hv8)
  clear hw8 hs8 hv8 HW7 kp
  go_wp2_with fail
  go_ret
  exact ⟨rfl, ao8, HF.out.1, HF.out.2.1, HF.out.2.2⟩
end Go.Proofs.YtfpfabmbipmipaaGreatDoor
