/- Own text. -/
import Derived.Test.YtfpfabmbipmipaaGreatDoorD18
set_option linter.unusedSimpArgs false
set_option linter.unusedVariables false
set_option maxRecDepth 20000
set_option maxHeartbeats 12800000
namespace Go.Proofs.YtfpfabmbipmipaaGreatDoor
open Go.RowKit
structure RowS (n : Nat) (ao : OA) (cap : Nat) (L : List Int) (wx : World) : Prop where
 at_ : ∃ g, ao = some ⟨g, 0, none⟩ /\ n <= g /\ ∃ cs : Array Value, wx.heap[g]? = some (.cells cs 3 (0, 0)) /\ ∀ j, j < L.length -> cs[j]? = some (.int .i64 (L.getD j 0))
 cap_ : L.length <= cap
 len : L.length <= 17592186044415
 num : Rng L
section
variable {w wx w' : World} {n : Nat} {ao : OA} {cap : Nat} {L : List Int}
theorem Made.row (h : Made w ao cap L wx) : RowS w.heap.size ao cap L wx := ⟨h.at_, h.cap_, h.len, h.num⟩
theorem RowS.ints (h : RowS n ao cap L wx) : IntsAt wx ao L := by
 obtain ⟨g, rfl, _, cs, h1, h2⟩ := h.at_
 exact ⟨h.len, h.num, fun _ => ⟨g, 0, rfl, fun j hj => by rw [cell_row h1, Nat.zero_add]; exact h2 j hj⟩⟩
theorem RowS.keep (h : RowS n ao cap L wx) (hb : ∀ g, n <= g -> g < wx.heap.size -> w'.heap[g]? = wx.heap[g]?) : RowS n ao cap L w' := by
 obtain ⟨g, h0, h1, cs, h2, h3⟩ := h.at_
 exact ⟨⟨g, h0, h1, cs, by rw [hb g h1 (lt_of_block h2)]; exact h2, h3⟩, h.cap_, h.len, h.num⟩
theorem RowS.mono (h : RowS n ao cap L wx) {m : Nat} (hm : m <= n) : RowS m ao cap L wx := by
 obtain ⟨g, h0, h1, h2⟩ := h.at_
 exact ⟨⟨g, h0, Nat.le_trans hm h1, h2⟩, h.cap_, h.len, h.num⟩
theorem RowS.none_ (h : RowS n ao cap L wx) : ao = none -> cap = 0 := fun e => by
 obtain ⟨g, h0, _⟩ := h.at_
 rw [e] at h0; cases h0
theorem RowS.fr (h : RowS n ao cap L wx) : Fr n ao := fun b hb => by
 obtain ⟨g, rfl, h1, _⟩ := h.at_
 have e : g = b := by simpa [blockOf] using hb
 omega
theorem RowS.of_blk {g : Nat} (h : IntsBlk wx g L) (hg : n <= g) (hc : L.length <= cap) (hl : L.length <= 17592186044415) (hn : Rng L) : RowS n (some ⟨g, 0, none⟩) cap L wx :=
 ⟨⟨g, rfl, hg, _, h, fun j hj => by
  rw [List.getElem?_toArray];unfold intsC;rw [List.getElem?_map, List.getElem?_eq_getElem hj, List.getD_eq_getElem?_getD, List.getElem?_eq_getElem hj]
  rfl⟩, hc, hl, hn⟩
end
theorem rd_sig (s : ByteArray) (a : Nat) (v : Int) (h1 : ¬ v = -1) (h0 : ¬ v = 0) : rdE s a 0 v = sgnE s a v /\ rdV s a 0 v = sgnV s a v /\ rdA s a 0 v = sgnA s a v := by
 unfold rdE rdV rdA
 rw [if_neg h1, if_neg h0, if_neg h1, if_neg h0, if_neg h1, if_neg h0]
 exact ⟨rfl, rfl, rfl⟩
theorem rdAll_rng {s : ByteArray} {v : Int} {n a a1 : Nat} {X : List Int} (h1 : ¬ v = -1) (h0 : ¬ v = 0) (h : rdAll s 0 v n a = some (X, a1)) : Rng X := by
 have hh := (nums_again h).1
 refine fit_rng X v (fun x hx => ?_)
 exact (fit0 v x h1 h0).1 (hh x hx)
theorem made_zero (b : Nat) (w : World) : IntsBlk (w.alloc (.cells (madeCells #[.int .i64 0] b) 3)) w.heap.size (List.replicate b 0) := by
 have hg := heap_alloc_new w (.cells (madeCells #[.int .i64 0] b) 3)
 have hmc : madeCells #[.int .i64 0] b = (intsC (List.replicate b 0)).toArray := by
  rw [intsC_rep];apply Array.ext_getElem?;intro j
  have hr : (List.replicate b (Value.int .i64 0)).toArray[j]? = if j < b then some (Value.int .i64 0) else none := by
   rw [List.getElem?_toArray, List.getElem?_replicate]
  rw [hr];by_cases hj : j < b
  ·rw [if_pos hj]
   simp only [madeCells, Array.getElem?_map, Array.getElem?_range, hj, if_true, Option.map_some];have hs1 : (#[.int .i64 0] : Array Value).size = 1 := rfl;rw [hs1, Nat.mod_one];rfl
  ·rw [if_neg hj, Array.getElem?_eq_none (by rw [size_madeCells]; omega)]
 unfold IntsBlk
 rw [hg, hmc]
theorem s_reach (x : Nat) (s : ByteArray) (hs : s.size <= 1000000000000000000) (a : Nat) (ha : a <= 8 * s.size) (n : Nat) (hn : n <= 65535) (v : Int) (hv : 1 <= v) (hv2 : v <= 64) (w : World) (h : Rd w x s a) :
  Calls Tryz.prog 179 #[.pointer (some ⟨x, 0, none⟩), .int .i64 (n : Int), .int .i64 v] w fun e w' => Stays (only x) w w' /\ OPost (rdAll s 0 v n a) (e = .returned (.tuple #[.slice none 0 0, .bool false])) (fun p => ∃ la lc, e = .returned (.tuple #[.slice la p.1.length lc, .bool true]) /\ RowS w.heap.size la lc p.1 w' /\ Rd w' x s p.2) := by
 have hmk := make_ints n (by omega)
 have hxw : x < w.heap.size := lt_of_block h
 have HM : Hid (IntsBlk (w.alloc (.cells (madeCells #[.int .i64 0] n) 3)) w.heap.size (List.replicate n 0) /\ Rd (w.alloc (.cells (madeCells #[.int .i64 0] n) 3)) x s a /\ Stays (only x) w (w.alloc (.cells (madeCells #[.int .i64 0] n) 3))) :=
  ⟨made_zero n w, h.below aQ, Stays.of_below aQ _⟩
 have KS : Hid (∀ ai wx, ai <= 8 * s.size -> Rd wx x s ai -> Calls Tryz.prog 199 #[.pointer (some ⟨x, 0, none⟩), .int .i64 v] wx fun e w' => e = .returned (.tuple #[.int .i64 (sgnV s ai v), .int .i64 (sgnE s ai v)]) /\ Rd w' x s (sgnA s ai v) /\ Stays (only x) wx w') := fun ai wx hai hh => signed_all s hs ai hai wx x v hh
 clear h
 go_enter Tryz.func179, Tryz.ntmps179
 go_wp2_with fail
 generalize w.alloc _ = wa at *
 clear hmk
 go_loopw [9, 10, 11, 16, 19] (fun s9 s10 s11 s16 s19 wr => ∃ (i ai : Nat) (X : List Int), i <= n /\ s16 = .int .i64 (i : Int) /\ rdAll s 0 v i a = some (X, ai) /\ Rd wr x s ai /\ IntsBlk wr w.heap.size (X ++ List.replicate (n - i) 0) /\ Stays (only x) w wr) (fun _ _ _ s16 _ _ => n - (intOf s16).toNat)
 case atStart => exact ⟨0, a, [], Nat.zero_le _, rfl, rfl, HM.out.2.1, HM.out.1, HM.out.2.2⟩
 case round =>
  clear HM;obtain ⟨i, ai, X, hi, rfl, hra, hrd, hbk, hst⟩ := hrel;have hxl := rdAll_len hra;have hal := rdAll_le hra ha;obtain ⟨q1, q2, q3⟩ := rd_sig s ai v (by omega) (by omega)
  have HS := kQ hst;have HBK := kQ hbk;by_cases hlt : i < n
  ·have ks := KS.out ai wr hal hrd
   have HX := kQ hxl;by_cases hE : sgnE s ai v = 0
   ·have HN : Hid (rdAll s 0 v (i + 1) a = some (X ++ [sgnV s ai v], sgnA s ai v)) := by
     have := rdAll_some hra (by rw [q1]; exact hE)
     rw [q2, q3] at this;exact this
    rw [hE] at ks;clear hE hra hrd hbk hst hxl q1 q2 q3 hal;generalize sgnV s ai v = vv at *;generalize sgnA s ai v = aa at *
    go_wp2_with fail
    refine ks.mono ?_;rintro e w2 ⟨rfl, h2, h3⟩;have HB2 : Hid (IntsBlk w2 w.heap.size (X ++ List.replicate (n - i) 0)) := HBK.out.stays h3 (fun e => by have h4 : w.heap.size = x := e; omega)
    have HR2 := kQ h2;have HS2 : Hid (Stays (only x) w w2) := HS.out.trans h3 (fun _ _ h => h);have y5 := HB2.out.cell i (by rw [List.length_append, HX.out, List.length_replicate]; omega)
    have z5 := HB2.out.frozen i;clear ks h2 h3 HBK HS
    have HB3 : Hid (IntsBlk (w2.setCell ⟨w.heap.size, i, none⟩ (.int .i64 vv)) w.heap.size (X ++ [vv] ++ List.replicate (n - (i + 1)) 0)) := by
     have := HB2.out.set i vv;rw [<- HX.out, set_next X (n - X.length) vv (by have := HX.out; omega)] at this
     rw [<- HX.out, show n - (X.length + 1) = n - X.length - 1 by omega]
     exact this
    have HR3 : Hid (Rd (w2.setCell ⟨w.heap.size, i, none⟩ (.int .i64 vv)) x s aa) := HR2.out.other _ _ (by show w.heap.size ≠ x; omega)
    have HS3 : Hid (Stays (only x) w (w2.setCell ⟨w.heap.size, i, none⟩ (.int .i64 vv))) := HS2.out.setCell _ _ (Or.inr (Nat.le_refl _));generalize (X ++ List.replicate (n - i) 0).getD i 0 = old at *;clear HB2 HR2 HS2
    go_wp2_with fail
    go_roundw
    case rel => exact ⟨i + 1, aa, X ++ [vv], by omega, by go_num, HN.out, HR3.out, HB3.out, HS3.out⟩
    case measure => simp [intOf]; omega
   ·have HN : Hid (rdAll s 0 v n a = none) := rdAll_none n (rdAll_stop hra (by rw [q1]; exact hE)) (by omega)
    have hEb : (sgnE s ai v != 0) = true := by rw [bne_iff_ne]; exact hE
    clear hE hra hrd hbk hst hxl q1 q2 q3 hal HBK;generalize sgnV s ai v = vv at *;generalize sgnE s ai v = ee at *
    go_wp2_with fail
    refine ks.mono ?_;rintro e w2 ⟨rfl, h2, h3⟩;have HS2 : Hid (Stays (only x) w w2) := HS.out.trans h3 (fun _ _ h => h);clear ks h2 h3 HS
    go_wp2_with fail
    go_ret2
    exact ⟨HS2.out, OPost.none_ HN.out rfl⟩
  ·have hin : i = n := by omega
   subst hin
   have HF : Hid (rdAll s 0 v i a = some (X, ai) /\ RowS w.heap.size (some ⟨w.heap.size, 0, none⟩) i X wr /\ Rd wr x s ai /\ Stays (only x) w wr /\ X.length = i) := by
    rw [Nat.sub_self, List.replicate_zero, List.append_nil] at hbk;exact ⟨hra, RowS.of_blk hbk (Nat.le_refl _) (by omega) (by omega) (rdAll_rng (by omega) (by omega) hra), hrd, hst, hxl⟩
   clear hra hrd hbk hst hxl q1 q2 q3 HS HBK
   go_wp2_with fail
   go_ret2
   exact ⟨HF.out.2.2.2.1, OPost.some_ HF.out.1 ⟨_, _, by rw [HF.out.2.2.2.2]; rfl, HF.out.2.1, HF.out.2.2.1⟩⟩
def XG (x g : Nat) : Nat -> Prop := fun i => i = x ∨ i = g
theorem Stays.s2 {x g : Nat} {a b c : World} (h : Stays (XG x g) a b) (k : Stays (only x) b c) : Stays (XG x g) a c := h.trans k (fun i _ hi => Or.inl hi)
theorem Stays.s2b {x g : Nat} {a b c : World} (h : Stays (XG x g) a b) (k : Lo b c) : Stays (XG x g) a c := h.trans (Stays.of_below k (XG x g)) (fun i _ hi => hi)
theorem rdAll_one (s : ByteArray) (v : Int) (a : Nat) (h1 : ¬ v = -1) (h0 : ¬ v = 0) : rdAll s 0 v 1 a = if sgnE s a v = 0 then some ([sgnV s a v], sgnA s a v) else none := by
 obtain ⟨q1, q2, q3⟩ := rd_sig s a v h1 h0
 show (if rdE s a 0 v = 0 then some ([] ++ [rdV s a 0 v], rdA s a 0 v) else none) = _
 rw [q1, q2, q3, List.nil_append]
section
variable (s : ByteArray) (a : Nat) (b v o : Int)
theorem bodyS_0 (h1 : ¬ v = -1) (h0 : ¬ v = 0) : rdSBody s a b v 0 o = match rdAll s 0 v 1 a with
  | none => none
  | some (X, a1) => some ⟨List.replicate b.toNat (X.getD 0 0), 0, 0, [], R0, a1⟩ := by
 rw [rdAll_one s v a h1 h0]
 unfold rdSBody
 rw [if_pos rfl]
 by_cases h : sgnE s a v = 0
 ·rw [if_pos h, if_pos h]; rfl
 ·rw [if_neg h, if_neg h]
end
theorem no_blk (bb : Nat) : blockOf none ≠ some bb := fun h => by cases h
theorem rc_nil (w : World) : RcAt w R0 none none := ⟨IntsAt.nil w, IntsAt.nil w, by decide, by decide, by decide, by decide⟩
theorem fr_nil (n : Nat) : Fr n none := fun b h => by cases h
theorem s_rbody0 (x : Nat) (s : ByteArray) (hs : s.size <= 1000000000000000000) (a : Nat) (ha : a <= 8 * s.size) (b v : Int) (hb0 : 1 <= b) (hb1 : b <= 65535) (hv0 : 1 <= v) (hv1 : v <= 33) (g : Nat) (o sw : Int)  (w : World) (hrd : Rd w x s a) (hbx : w.heap[g]? = some (.cells (subC ⟨0, o, sw, 0, 0, [], R0⟩ none 0 none 0 none 0) 67 (0, 0))) (hxg : x ≠ g) : Calls Tryz.prog 141 #[.pointer (some ⟨x, 0, none⟩), .pointer (some ⟨g, 0, none⟩), .int .i64 b, .int .i64 v] w fun e w' => Stays (XG x g) w w' /\ OPost (rdSBody s a b v 0 o) (e = .returned (.tuple #[.slice none 0 0, .bool false])) (fun d => ∃ la lc ca cc pa pc ea ec, e = .returned (.tuple #[.slice la d.m.length lc, .bool true]) /\ RowS w.heap.size la lc d.m w' /\ w'.heap[g]? = some (.cells (subC ⟨0, o, sw, d.p, d.h, d.C, d.R⟩ ca cc pa pc ea ec) 67 (0, 0)) /\ IntsAt w' ca d.C /\ (d.C.length <= cc /\ (ca = none -> cc = 0)) /\ RcAt w' d.R pa ea /\ (Fr w.heap.size ca /\ Fr w.heap.size pa /\ Fr w.heap.size ea) /\ Rd w' x s d.a /\ ∀ bb, blockOf la = some bb -> blockOf ca ≠ some bb /\ blockOf pa ≠ some bb /\ blockOf ea ≠ some bb) := by
 have hbs := bodyS_0 s a b v o (by omega) (by omega)
 have hgw := lt_of_block hbx
 have hxw : x < w.heap.size := lt_of_block hrd
 have KA : Hid (∀ wx, G1 158 #[subV ⟨0, o, sw, 0, 0, [], R0⟩ none 0 none 0 none 0, .int .i64 b] wx (.int .i64 ((1 : Nat) : Int))) := fun wx => by
  have h := s_asThey ⟨0, o, sw, 0, 0, [], R0⟩ none 0 none 0 none 0 b wx;rw [show cntN ⟨0, o, sw, 0, 0, [], R0⟩ b = ((1 : Nat) : Int) from rfl] at h
  exact h
 have ke0 := fun wx hh => s_reach x s hs a ha (1) (by omega) v hv0 (by omega) wx hh
 have HBX := kQ hbx
 have HRD := kQ hrd
 obtain ⟨nn, hnn⟩ : ∃ X : Nat, X = 1 := ⟨_, rfl⟩
 rw [<- hnn] at KA ke0
 cases hW : rdAll s 0 v nn a with
 | none =>
  have HN : Hid (rdSBody s a b v 0 o = none) := by show _ = _; rw [hbs, <- hnn, hW]
  have KE : Hid (∀ wx, Rd wx x s a -> Calls Tryz.prog 179 #[.pointer (some ⟨x, 0, none⟩), .int .i64 (nn : Int), .int .i64 v] wx fun e w' => Stays (only x) wx w' /\ e = .returned (.tuple #[.slice none 0 0, .bool false])) := fun wx hh => (ke0 wx hh).mono fun e w' h => by
   obtain ⟨h1, h2⟩ := h;rw [hW] at h2;exact ⟨h1, h2⟩
  clear hbs;clear hrd hbx ke0 hW hnn;obtain ⟨x0, x1, x2, x3, x4, x5, x6, x7, x8, x9⟩ := sub_cells HBX.out;go_enter Tryz.func141, Tryz.ntmps141
  go_wp2_with fail
  refine (KA.out w).mono ?_;rintro e w1 ⟨rfl, hb1_⟩;have ke := KE.out w1 (HRD.out.below hb1_);have HB1 := kQ hb1_;clear KA KE hb1_ x0 x1 x2 x3 x4 x5 x6 x7 x8 x9
  go_wp2_with fail
  refine ke.mono ?_;rintro e w2 ⟨hst, rfl⟩;have HS2 : Hid (Stays (XG x g) w w2) := (Stays.of_below HB1.out (XG x g)).s2 hst;clear ke hst
  go_wp2_with fail
  go_ret2
  exact ⟨HS2.out, OPost.none_ HN.out rfl⟩
 | some p =>
  obtain ⟨W, a1⟩ := p;have HN : Hid (rdSBody s a b v 0 o = some ⟨List.replicate b.toNat (W.getD 0 0), 0, 0, [], R0, a1⟩) := by show _ = _; rw [hbs, <- hnn, hW]
  have hWl := rdAll_len hW;rw [hnn] at hWl
  have HWE : Hid (W = [W.getD 0 0]) := by
   show _ = _
   cases W with
   | nil => simp at hWl
   | cons y T =>
    cases T with
    | nil => rfl
    | cons z T => simp at hWl
  have hbt : ((b.toNat : Nat) : Int) = b := by omega
  have KR : Hid (∀ wx fa fc, IntsAt wx fa W -> Calls Tryz.prog 180 #[.slice fa 1 fc, .int .i64 b] wx fun e w' => ∃ ga gc, e = .returned (.slice ga (List.replicate b.toNat (W.getD 0 0)).length gc) /\ Made wx ga gc (List.replicate b.toNat (W.getD 0 0)) w') := fun wx fa fc hh => by
   have h := s_repeat (W.getD 0 0) b.toNat (by omega) (by omega) fa fc wx (by rw [<- HWE.out]; exact hh)
   rw [hbt] at h;exact h
  have KE : Hid (∀ wx, Rd wx x s a -> Calls Tryz.prog 179 #[.pointer (some ⟨x, 0, none⟩), .int .i64 (nn : Int), .int .i64 v] wx fun e w' => Stays (only x) wx w' /\ ∃ la lc, e = .returned (.tuple #[.slice la W.length lc, .bool true]) /\ RowS wx.heap.size la lc W w' /\ Rd w' x s a1) := fun wx hh => (ke0 wx hh).mono fun e w' h => by
   obtain ⟨h1, h2⟩ := h;rw [hW] at h2;exact ⟨h1, h2⟩
  clear hbs hbt;clear hrd hbx ke0 hW hnn;obtain ⟨x0, x1, x2, x3, x4, x5, x6, x7, x8, x9⟩ := sub_cells HBX.out;go_enter Tryz.func141, Tryz.ntmps141
  go_wp2_with fail
  refine (KA.out w).mono ?_;rintro e w1 ⟨rfl, hb1_⟩;have ke := KE.out w1 (HRD.out.below hb1_);have HB1 := kQ hb1_;clear KA KE hb1_ x0 x1 x2 x3 x4 x5 x6 x7 x8 x9
  go_wp2_with fail
  refine ke.mono ?_;rintro e w2 ⟨hst, fa, fc, rfl, hrow, hr2⟩;have HS2 : Hid (Stays (XG x g) w w2) := (Stays.of_below HB1.out (XG x g)).s2 hst;have HW2 := kQ (hrow.mono HB1.out.size);have HR2 := kQ hr2
  have HG2 : Hid (w2.heap[g]? = some (.cells (subC ⟨0, o, sw, 0, 0, [], R0⟩ none 0 none 0 none 0) 67 (0, 0))) := by
   have h1 : w1.heap[g]? = some (.cells (subC ⟨0, o, sw, 0, 0, [], R0⟩ none 0 none 0 none 0) 67 (0, 0)) := by rw [HB1.out.block _ hgw]; exact HBX.out
   show _ = _;rw [hst.block _ (lt_of_block h1) (fun e => hxg (Eq.symm e))]; exact h1
  clear ke hst hrow hr2 HB1 HBX HRD;obtain ⟨x0, x1, x2, x3, x4, x5, x6, x7, x8, x9⟩ := sub_cells HG2.out;have kr := KR.out w2 fa fc HW2.out.ints;clear KR;rw [hWl];generalize List.replicate b.toNat (W.getD 0 0) = L at *
  go_wp2_with fail
  refine kr.mono ?_;rintro e w3 ⟨ga, gc, rfl, hmd⟩;have HF : Hid (Stays (XG x g) w w3 /\ RowS w.heap.size ga gc L w3 /\ w3.heap[g]? = some (.cells (subC ⟨0, o, sw, 0, 0, [], R0⟩ none 0 none 0 none 0) 67 (0, 0)) /\ Rd w3 x s a1) := ⟨HS2.out.s2b hmd.below, hmd.row.mono HS2.out.size, by rw [hmd.below.block _ (lt_of_block HG2.out)]; exact HG2.out, HR2.out.below hmd.below⟩
  clear kr hmd x0 x1 x2 x3 x4 x5 x6 x7 x8 x9
  go_wp2_with fail
  go_ret2
  exact ⟨HF.out.1, OPost.some_ HN.out ⟨_, _, none, 0, none, 0, none, 0, rfl, HF.out.2.1, HF.out.2.2.1, IntsAt.nil _, ⟨Nat.zero_le _, fun _ => rfl⟩, rc_nil _, ⟨fr_nil _, fr_nil _, fr_nil _⟩, HF.out.2.2.2, fun bb _ => ⟨no_blk bb, no_blk bb, no_blk bb⟩⟩⟩
structure Shl (w0 : World) (gl : Nat) (m : List Int) (k i : Nat) (wr : World) : Prop where
 row : ∃ cs : Array Value, wr.heap[gl]? = some (.cells cs 3 (0, 0)) /\ ∀ j, j < m.length -> cs[j]? = some (.int .i64 (if j < i then wrap64 (m.getD j 0 * 2 ^ k) else m.getD j 0))
 st : Stays (only gl) w0 wr
section
variable {w0 wr : World} {gl : Nat} {m : List Int} {k i : Nat}
theorem Shl.drew (h : Shl w0 gl m k i wr) : Shl w0 gl m k i wr.drew := ⟨h.row, h.st.drew⟩
theorem Shl.cell (h : Shl w0 gl m k i wr) (hi : i < m.length) : wr.cell? ⟨gl, i, none⟩ = some (.int .i64 (m.getD i 0)) := by
 obtain ⟨cs, h1, h2⟩ := h.row
 rw [cell_row h1, h2 i hi, if_neg (Nat.lt_irrefl i)]
theorem Shl.frozen (h : Shl w0 gl m k i wr) (j : Nat) : wr.frozen? ⟨gl, j, none⟩ = false := by
 obtain ⟨cs, h1, _⟩ := h.row
 exact row_frozen h1 j
theorem Shl.set (h : Shl w0 gl m k i wr) (hi : i < m.length) : Shl w0 gl m k (i + 1) (wr.setCell ⟨gl, i, none⟩ (.int .i64 (wrap64 (m.getD i 0 * 2 ^ k)))) := by
 obtain ⟨cs, h1, h2⟩ := h.row
 refine ⟨⟨cs.setIfInBounds i (.int .i64 (wrap64 (m.getD i 0 * 2 ^ k))), heap_setCell_same _ _ _ _ _ _ h1, fun j hj => ?_⟩, h.st.setCell _ _ (Or.inl rfl)⟩
 rw [Array.getElem?_setIfInBounds]
 by_cases e : i = j
 ·subst e
  have hlt : i < cs.size := by
   rcases Nat.lt_or_ge i cs.size with h3 | h3
   ·exact h3
   ·have := h2 i hi; rw [Array.getElem?_eq_none h3] at this; cases this
  rw [if_pos rfl, if_pos hlt, if_pos (by omega)]
 ·rw [if_neg e, h2 j hj]
  by_cases e2 : j < i
  ·rw [if_pos e2, if_pos (by omega)]
  ·rw [if_neg e2, if_neg (by omega)]
theorem Shl.box (h : Shl w0 gl m k i wr) {g : Nat} {o : Obj} (hg : w0.heap[g]? = some o) (hn : g ≠ gl) : wr.heap[g]? = some o := by
 rw [h.st.block _ (lt_of_block hg) hn]; exact hg
end
theorem Shl.start {n : Nat} {gl cap : Nat} {m : List Int} {w0 : World} (h : RowS n (some ⟨gl, 0, none⟩) cap m w0) (k : Nat) : Shl w0 gl m k 0 w0 := by
 obtain ⟨g, e, _, cs, h1, h2⟩ := h.at_
 cases e
 exact ⟨⟨cs, h1, fun j hj => by rw [if_neg (Nat.not_lt_zero j)]; exact h2 j hj⟩, Stays.refl _ _⟩
theorem Shl.row_end {n : Nat} {gl cap : Nat} {m : List Int} {w0 wr : World} {k : Nat} (h : Shl w0 gl m k m.length wr) (hg : n <= gl) (hc : m.length <= cap) (hl : m.length <= 17592186044415) : RowS n (some ⟨gl, 0, none⟩) cap (shlL m k) wr := by
 obtain ⟨cs, h1, h2⟩ := h.row
 have hsl := shl_len m k
 refine ⟨⟨gl, rfl, hg, cs, h1, fun j hj => ?_⟩, by omega, by omega, fun x hx => ?_⟩
 ·rw [h2 j (by omega), if_pos (by omega), getD_shl]
 ·obtain ⟨y, _, rfl⟩ := List.mem_map.1 hx
  exact wrap_rng _
def IntTab (b : Nat) (T : List Int) (w : World) : Prop := ∀ j, j < T.length -> w.cell? ⟨b, j, none⟩ = some (.int .i64 (T.getD j 0))
theorem IntTab.below {b : Nat} {T : List Int} {w w' : World} (h : IntTab b T w) (hb : Lo w w') : IntTab b T w' := fun j hj => by
 have h1 := h j hj
 rw [<- h1]; exact World.cell?_of_block (w := w) (hb.block _ (lt_cell h1))
abbrev sizT : List Int := [0, 192, 576, 1152, 2304, 4608, 0, 0, 256, 512, 1024, 2048, 4096, 8192, 16384, 32768]
abbrev ratT : List Int := [0, 88200, 176400, 192000, 8000, 16000, 22050, 24000, 32000, 44100, 48000, 96000, 0, 0, 0, 0]
abbrev widT : List Int := [0, 8, 12, 0, 16, 20, 24, 0]
structure Lay (w : World) : Prop where
 z : IntTab 0 sizT w
 r : IntTab 1 ratT w
 d : IntTab 2 widT w
 u : S3.RulesAt w
theorem Lay.below {w w' : World} (h : Lay w) (hb : Lo w w') : Lay w' := ⟨h.z.below hb, h.r.below hb, h.d.below hb, S3.RulesAt.below h.u hb⟩
def szb (c : Int) : Int := if c = 6 then 1 else if c = 7 then 2 else 0
def rtb (c : Int) : Int := if c = 12 then 1 else if c = 13 then 2 else if c = 14 then 2 else 0
def rtu (c : Int) : Int := if c = 12 then 1000 else if c = 14 then 10 else 1
theorem szb_all (c : Int) : (c = 6 /\ szb c = 1) ∨ (c = 7 /\ szb c = 2) ∨ (¬ c = 6 /\ ¬ c = 7 /\ szb c = 0) := by
 unfold szb
 by_cases a : c = 6
 ·exact .inl ⟨a, if_pos a⟩
 ·by_cases b : c = 7
  ·exact .inr (.inl ⟨b, by rw [if_neg a, if_pos b]⟩)
  ·exact .inr (.inr ⟨a, b, by rw [if_neg a, if_neg b]⟩)
theorem rtb_all (c : Int) : (c = 12 /\ rtb c = 1 /\ rtu c = 1000) ∨ (c = 13 /\ rtb c = 2 /\ rtu c = 1) ∨ (c = 14 /\ rtb c = 2 /\ rtu c = 10) ∨ (¬ c = 12 /\ ¬ c = 13 /\ ¬ c = 14 /\ rtb c = 0 /\ rtu c = 1) := by
 unfold rtb rtu
 by_cases a : c = 12
 ·exact .inl ⟨a, if_pos a, if_pos a⟩
 ·by_cases b : c = 13
  ·exact .inr (.inl ⟨b, by rw [if_neg a, if_pos b], by rw [if_neg a, if_neg (by omega)]⟩)
  ·by_cases d : c = 14
   ·exact .inr (.inr (.inl ⟨d, by rw [if_neg a, if_neg b, if_pos d], by rw [if_neg a, if_pos d]⟩))
   ·exact .inr (.inr (.inr ⟨a, b, d, by rw [if_neg a, if_neg b, if_neg d], by rw [if_neg a, if_neg d]⟩))
theorem f_szb (c : Int) (w : World) : Calls Tryz.prog 60 #[.int .i64 c] w fun e w' => e = .returned (.int .i64 (szb c)) /\ w' = w := by
 by_cases g6 : c = 6
 focus
  have HV : Hid (szb c = 1) := by show _ = _; unfold szb; omega
  rw [HV.out];have hk6 : (c == 6) = true := eQt (by omega)
  have hk7 : (c == 7) = false := eQf (by omega)
 rotate_left
 focus
  skip
  by_cases g7 : c = 7
  focus
   have HV : Hid (szb c = 2) := by show _ = _; unfold szb; omega
   rw [HV.out];have hk6 : (c == 6) = false := eQf (by omega)
   have hk7 : (c == 7) = true := eQt (by omega)
  rotate_left
  focus
   skip
   have HV : Hid (szb c = 0) := by show _ = _; unfold szb; omega
   rw [HV.out];have hk6 : (c == 6) = false := eQf (by omega)
   have hk7 : (c == 7) = false := eQf (by omega)
  rotate_left
 rotate_left 2
 all_goals
  clear HV;go_enter Tryz.func60, Tryz.ntmps60
  go_wp2_with fail
  go_ret;exact ⟨rfl, rfl⟩
theorem f_rtb (c : Int) (w : World) : Calls Tryz.prog 61 #[.int .i64 c] w fun e w' => e = .returned (.int .i64 (rtb c)) /\ w' = w := by
 by_cases g12 : c = 12
 focus
  have HV : Hid (rtb c = 1) := by show _ = _; unfold rtb; omega
  rw [HV.out];have hk12 : (c == 12) = true := eQt (by omega)
  have hk13 : (c == 13) = false := eQf (by omega)
 rotate_left
 focus
  skip
  by_cases g13 : c = 13
  focus
   have HV : Hid (rtb c = 2) := by show _ = _; unfold rtb; omega
   rw [HV.out];have hk12 : (c == 12) = false := eQf (by omega)
   have hk13 : (c == 13) = true := eQt (by omega)
  rotate_left
  focus
   skip
   by_cases g14 : c = 14
   ·have HV : Hid (rtb c = 2) := by show _ = _; unfold rtb; omega
    rw [HV.out];have hk12 : (c == 12) = false := eQf (by omega)
    have hk13 : (c == 13) = false := eQf (by omega)
    have hk14 : (c == 14) = true := eQt (by omega)
    clear HV;go_enter Tryz.func61, Tryz.ntmps61
    go_wp2_with fail
    go_ret;exact ⟨rfl, rfl⟩
   focus
    skip
    have HV : Hid (rtb c = 0) := by show _ = _; unfold rtb; omega
    rw [HV.out];have hk12 : (c == 12) = false := eQf (by omega)
    have hk13 : (c == 13) = false := eQf (by omega)
   rotate_left
  rotate_left
 rotate_left 2
 all_goals
  have hk14 : (c == 14) = false := eQf (by omega)
  clear HV;go_enter Tryz.func61, Tryz.ntmps61
  go_wp2_with fail
  go_ret;exact ⟨rfl, rfl⟩
theorem f_rtu (c : Int) (w : World) : Calls Tryz.prog 62 #[.int .i64 c] w fun e w' => e = .returned (.int .i64 (rtu c)) /\ w' = w := by
 by_cases g12 : c = 12
 focus
  have HV : Hid (rtu c = 1000) := by show _ = _; unfold rtu; omega
  rw [HV.out];have hk12 : (c == 12) = true := eQt (by omega)
  have hk14 : (c == 14) = false := eQf (by omega)
 rotate_left
 focus
  skip
  by_cases g14 : c = 14
  focus
   have HV : Hid (rtu c = 10) := by show _ = _; unfold rtu; omega
   rw [HV.out];have hk12 : (c == 12) = false := eQf (by omega)
   have hk14 : (c == 14) = true := eQt (by omega)
  rotate_left
  focus
   skip
   have HV : Hid (rtu c = 1) := by show _ = _; unfold rtu; omega
   rw [HV.out];have hk12 : (c == 12) = false := eQf (by omega)
   have hk14 : (c == 14) = false := eQf (by omega)
  rotate_left
 rotate_left 2
 all_goals
  clear HV;go_enter Tryz.func62, Tryz.ntmps62
  go_wp2_with fail
  go_ret;exact ⟨rfl, rfl⟩
def sizS (c b : Int) : Int := if c = 6 ∨ c = 7 then b + 1 else sizT.getD c.toNat 0
def ratS (c b st : Int) : Int := if c = 0 then st else if c = 12 ∨ c = 13 ∨ c = 14 then b * rtu c else ratT.getD c.toNat 0
def widS (c st : Int) : Int := if c = 0 then st else widT.getD c.toNat 0
theorem tab_rng (T : List Int) (h : ∀ x ∈ T, -9223372036854775808 <= x /\ x <= 9223372036854775807) (j : Nat) : -9223372036854775808 <= T.getD j 0 /\ T.getD j 0 <= 9223372036854775807 := by
 rw [List.getD_eq_getElem?_getD]
 by_cases hj : j < T.length
 ·rw [List.getElem?_eq_getElem hj]; exact h _ (List.getElem_mem hj)
 ·rw [List.getElem?_eq_none (by omega)]; exact ⟨by decide, by decide⟩
theorem sizT_rng (j : Nat) : -9223372036854775808 <= sizT.getD j 0 /\ sizT.getD j 0 <= 9223372036854775807 := tab_rng _ (by decide) j
theorem ratT_rng (j : Nat) : -9223372036854775808 <= ratT.getD j 0 /\ ratT.getD j 0 <= 9223372036854775807 := tab_rng _ (by decide) j
theorem widT_rng (j : Nat) : -9223372036854775808 <= widT.getD j 0 /\ widT.getD j 0 <= 9223372036854775807 := tab_rng _ (by decide) j
theorem f_sizS (c b : Int) (hc : 0 <= c /\ c < 16) (hb : 0 <= b /\ b <= 70000) (w : World) (hL : Lay w) : Calls Tryz.prog 99 #[.int .i64 c, .int .i64 b] w fun e w' => e = .returned (.int .i64 (sizS c b)) /\ w' = w := by
 have kz := f_szb c
 rcases szb_all c with ⟨g, hz⟩ | ⟨g, hz⟩ | ⟨g6, g7, hz⟩
 rotate_left
 rotate_left
 ·have HV : Hid (sizS c b = sizT.getD c.toNat 0) := by show _ = _; unfold sizS; rw [if_neg (by omega)]
  rw [HV.out];rw [hz] at kz;clear HV hz;obtain ⟨j, rfl⟩ : ∃ j : Nat, c = j := ⟨c.toNat, by omega⟩
  rw [Int.toNat_natCast];have hcell := hL.z j (by show j < 16; omega)
  have hrg : -9223372036854775808 <= sizT.getD j 0 /\ sizT.getD j 0 <= 9223372036854775807 := sizT_rng j;generalize sizT.getD j 0 = v at *;clear hL;go_enter Tryz.func99, Tryz.ntmps99
  go_wp2_with fail
  refine (kz _).mono ?_;rintro e wc ⟨rfl, hwc⟩;subst hwc
  go_wp2_with fail
  go_ret;exact ⟨rfl, rfl⟩
 all_goals
  have HV : Hid (sizS c b = b + 1) := by show _ = _; unfold sizS; rw [if_pos (by omega)]
  rw [HV.out];rw [hz] at kz;clear HV hL hz g;go_enter Tryz.func99, Tryz.ntmps99
  go_wp2_with fail
  refine (kz _).mono ?_;rintro e wc ⟨rfl, hwc⟩;subst hwc
  go_wp2_with fail
  go_ret;exact ⟨by first | rfl | go_num | simp, rfl⟩
theorem f_ratS (c b st : Int) (hc : 0 <= c /\ c < 16) (hb : 0 <= b /\ b <= 9223372036854775807) (hm : b * rtu c <= 9223372036854775807) (w : World) (hL : Lay w) : Calls Tryz.prog 100 #[.int .i64 c, .int .i64 b, .int .i64 st] w fun e w' => e = .returned (.int .i64 (ratS c b st)) /\ w' = w := by
 have kz := f_rtb c
 have ku := f_rtu c
 by_cases g0 : c = 0
 ·have HV : Hid (ratS c b st = st) := by show _ = _; unfold ratS; rw [if_pos g0]
  rw [HV.out];have hk0 : (c == 0) = true := by rw [beq_iff_eq]; exact g0
  clear HV hL kz ku g0;go_enter Tryz.func100, Tryz.ntmps100
  go_wp2_with fail
  go_ret;exact ⟨rfl, rfl⟩
 focus
  rcases rtb_all c with ⟨g, hz, hu⟩ | ⟨g, hz, hu⟩ | ⟨g, hz, hu⟩ | ⟨g1, g2, g3, hz, hu⟩
  rotate_left;rotate_left;rotate_left
  ·have HV : Hid (ratS c b st = ratT.getD c.toNat 0) := by show _ = _; unfold ratS; rw [if_neg g0, if_neg (by omega)]
   rw [HV.out];have hk0 : (c == 0) = false := by rw [beq_eq_false_iff_ne]; exact g0
   rw [hz] at kz;clear HV hz hu ku g0 hm;obtain ⟨j, rfl⟩ : ∃ j : Nat, c = j := ⟨c.toNat, by omega⟩
   rw [Int.toNat_natCast];have hcell := hL.r j (by show j < 16; omega)
   have hrg : -9223372036854775808 <= ratT.getD j 0 /\ ratT.getD j 0 <= 9223372036854775807 := ratT_rng j;generalize ratT.getD j 0 = v at *;clear hL;go_enter Tryz.func100, Tryz.ntmps100
   go_wp2_with fail
   refine (kz _).mono ?_;rintro e wc ⟨rfl, hwc⟩;subst hwc
   go_wp2_with fail
   go_ret;exact ⟨rfl, rfl⟩
 rotate_left 3
 all_goals
  have HV : Hid (ratS c b st = b * rtu c) := by show _ = _; unfold ratS; rw [if_neg g0, if_pos (by omega)]
  rw [HV.out];have hk0 : (c == 0) = false := by rw [beq_eq_false_iff_ne]; exact g0
  rw [hz] at kz;rw [hu] at ku hm ⊢;clear HV hL hz hu g0 g;go_enter Tryz.func100, Tryz.ntmps100
  go_wp2_with fail
  refine (kz _).mono ?_;rintro e wc ⟨rfl, hwc⟩;subst hwc
  go_wp2_with fail
  refine (ku _).mono ?_;rintro e wc ⟨rfl, hwc⟩;subst hwc
  go_wp2_with fail
  go_ret;exact ⟨by first | rfl | go_num | simp, rfl⟩
theorem f_widS (c st : Int) (hc : 0 <= c /\ c < 8) (w : World) (hL : Lay w) : Calls Tryz.prog 101 #[.int .i64 c, .int .i64 st] w fun e w' => e = .returned (.int .i64 (widS c st)) /\ w' = w := by
 by_cases g0 : c = 0
 ·have HV : Hid (widS c st = st) := by show _ = _; unfold widS; rw [if_pos g0]
  rw [HV.out];have hk0 : (c == 0) = true := by rw [beq_iff_eq]; exact g0
  clear HV hL g0;go_enter Tryz.func101, Tryz.ntmps101
  go_wp2_with fail
  go_ret;exact ⟨rfl, rfl⟩
 ·have HV : Hid (widS c st = widT.getD c.toNat 0) := by show _ = _; unfold widS; rw [if_neg g0]
  rw [HV.out];have hk0 : (c == 0) = false := by rw [beq_eq_false_iff_ne]; exact g0
  clear HV g0;obtain ⟨j, rfl⟩ : ∃ j : Nat, c = j := ⟨c.toNat, by omega⟩
  rw [Int.toNat_natCast];have hcell := hL.d j (by show j < 8; omega)
  have hrg : -9223372036854775808 <= widT.getD j 0 /\ widT.getD j 0 <= 9223372036854775807 := widT_rng j;generalize widT.getD j 0 = v at *;clear hL;go_enter Tryz.func101, Tryz.ntmps101
  go_wp2_with fail
  go_ret;exact ⟨rfl, rfl⟩
theorem f_chS (c : Int) (hc : 0 <= c /\ c < 16) (w : World) : Calls Tryz.prog 98 #[.int .i64 c] w fun e w' => e = .returned (.tuple #[.int .i64 (if c < 8 then c + 1 else 2), .int .i64 (if c < 8 then 0 else c - 7)]) /\ w' = w := by
 by_cases g : c < 8
 ·rw [if_pos g, if_pos g]
  go_enter Tryz.func98, Tryz.ntmps98
  go_wp2_with fail
  go_ret2
  exact ⟨by first | rfl | go_num | simp, rfl⟩
 ·rw [if_neg g, if_neg g, show c - 7 = c - 8 + 1 by omega]
  go_enter Tryz.func98, Tryz.ntmps98
  go_wp2_with fail
  go_ret2
  exact ⟨by first | rfl | go_num | simp, rfl⟩
theorem f_chC (c m : Int) (hc : 1 <= c /\ c <= 8) (hm : 0 <= m /\ m <= 3) (w : World) : Calls Tryz.prog 58 #[.int .i64 c, .int .i64 m] w fun e w' => e = .returned (.int .i64 (if m = 0 then c - 1 else 7 + m)) /\ w' = w := by
 by_cases g : m = 0
 focus
  rw [if_pos g];have hk0 : (m == 0) = true := by rw [beq_iff_eq]; exact g
 rotate_left
 focus
  rw [if_neg g, show 7 + m = 8 + m - 1 by omega]
  have hk0 : (m == 0) = false := by rw [beq_eq_false_iff_ne]; exact g
 rotate_left
 all_goals
  clear g;go_enter Tryz.func58, Tryz.ntmps58
  go_wp2_with fail
  go_ret;exact ⟨by first | rfl | go_num | simp, rfl⟩
theorem f_isIn (c n : Int) (bb : Bool) (hbb : bb = true ↔ 0 <= c /\ c < n) (w : World) : Calls Tryz.prog 131 #[.int .i64 c, .int .i64 n] w fun e w' => e = .returned (.bool bb) /\ w' = w := by
 by_cases g0 : c < 0
 focus
  rw [bb_no hbb (by omega)]
  clear hbb
 rotate_left
 focus
  skip
  by_cases g1 : n <= c
  focus
   rw [bb_no hbb (by omega)]
   clear hbb;have hb : decide (c < n) = false := decide_eq_false (by omega)
  rotate_left
  focus
   skip
   rw [bb_yes hbb (by omega)]
   clear hbb;have hb : decide (c < n) = true := decide_eq_true (by omega)
  rotate_left
 rotate_left 2
 all_goals
  go_enter Tryz.func131, Tryz.ntmps131
  go_wp2_with fail
  go_ret;exact ⟨rfl, rfl⟩
theorem f_hold1 (n : Int) (bb : Bool) (hbb : bb = true ↔ n < 256) (w : World) : Calls Tryz.prog 132 #[.int .i64 1, .int .i64 n] w fun e w' => e = .returned (.bool bb) /\ w' = w := by
 have hd : decide (n < 256) = bb := by
  cases bb with
  | true => exact decide_eq_true (hbb.1 rfl)
  | false => exact decide_eq_false (fun h => Bool.noConfusion (hbb.2 h))
 clear hbb
 go_enter Tryz.func132, Tryz.ntmps132
 go_wp2_with fail
 go_ret
 exact ⟨by first | rfl | simp [hd], rfl⟩
theorem f_hold2 (n : Int) (bb : Bool) (hbb : bb = true ↔ n < 65536) (w : World) : Calls Tryz.prog 132 #[.int .i64 2, .int .i64 n] w fun e w' => e = .returned (.bool bb) /\ w' = w := by
 have hd : decide (n < 65536) = bb := by
  cases bb with
  | true => exact decide_eq_true (hbb.1 rfl)
  | false => exact decide_eq_false (fun h => Bool.noConfusion (hbb.2 h))
 clear hbb
 go_enter Tryz.func132, Tryz.ntmps132
 go_wp2_with fail
 go_ret
 exact ⟨by first | rfl | simp [hd], rfl⟩
theorem f_hold0 (n : Int) (w : World) : Calls Tryz.prog 132 #[.int .i64 0, .int .i64 n] w fun e w' => e = .returned (.bool true) /\ w' = w := by
 go_enter Tryz.func132, Tryz.ntmps132
 go_wp2_with fail
 go_ret
 exact ⟨rfl, rfl⟩
end Go.Proofs.YtfpfabmbipmipaaGreatDoor
