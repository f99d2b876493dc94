/- Own text. -/
import Derived.Test.YtfpfabmbipmipaaGreatDoorA24
set_option linter.unusedSimpArgs false
set_option linter.unusedVariables false
set_option maxRecDepth 20000
set_option maxHeartbeats 12800000
namespace Go.Proofs.YtfpfabmbipmipaaGreatDoor
open Go.RowKit
theorem rdAll_one (s : ByteArray) (v : Int) (a : Nat) (h1 : ¬ v = -1) (h0 : ¬ v = 0) : rdAll s 0 v 1 a = if sgnE s a v = 0 then some ([sgnV s a v], sgnA s a v) else none := by
 obtain ⟨q1, q2, q3⟩ := rd_sig s a v h1 h0
 show (if rdE s a 0 v = 0 then some ([] ++ [rdV s a 0 v], rdA s a 0 v) else none) = _
 rw [q1, q2, q3, List.nil_append]
section
variable (s : ByteArray) (a : Nat) (b v o : Int)
theorem bodyS_0 (h1 : ¬ v = -1) (h0 : ¬ v = 0) : rdSBody s a b v 0 o = match rdAll s 0 v 1 a with
  | none => none
  | some (X, a1) => some ⟨List.replicate b.toNat (X.getD 0 0), 0, 0, [], R0, a1⟩ := by
 rw [rdAll_one s v a h1 h0]
 unfold rdSBody
 rw [if_pos rfl]
 by_cases h : sgnE s a v = 0
 ·rw [if_pos h, if_pos h]; rfl
 ·rw [if_neg h, if_neg h]
theorem bodyS_1 : rdSBody s a b v 1 o = match rdAll s 0 v b.toNat a with
  | none => none
  | some (X, a1) => some ⟨X, 0, 0, [], R0, a1⟩ := by
 unfold rdSBody
 rw [if_neg (by decide), if_pos rfl]
 cases rdAll s 0 v b.toNat a with
 | none => rfl
 | some p => rfl
theorem bodyS_2 : rdSBody s a b v 2 o = match rdAll s 0 v o.toNat a with
  | none => none
  | some (W, a1) => rdRes s a1 b o 0 0 [] (wF o.toNat) W := by
 unfold rdSBody
 rw [if_neg (by decide), if_neg (by decide)]
 cases rdAll s 0 v o.toNat a with
 | none => rfl
 | some p => rfl
theorem bodyS_3 : rdSBody s a b v 3 o = match rdAll s 0 v o.toNat a with
  | none => none
  | some (W, a1) => match coefN s a1 o with
   | none => none
   | some (p, h, C, a2) => rdRes s a2 b o p h C C W := by
 unfold rdSBody
 rw [if_neg (by decide), if_neg (by decide)]
 cases rdAll s 0 v o.toNat a with
 | none => rfl
 | some p =>
  obtain ⟨W, a1⟩ := p
  show rdLpc s a1 b o W = (match coefN s a1 o with
   | none => none
   | some (p, h, C, a2) => rdRes s a2 b o p h C C W)
  unfold rdLpc coefN
  by_cases hc : getE s a1 4 = 0 /\ ¬ getV s a1 4 = 15 /\ getE s (getA s a1 4) 5 = 0 /\ getV s (getA s a1 4) 5 <= 15
  ·rw [if_pos hc, if_pos hc]
   cases rdAll s 0 (getV s a1 4 + 1) o.toNat (getA s (getA s a1 4) 5) with
   | none => rfl
   | some r => rfl
  ·rw [if_neg hc, if_neg hc]
end
theorem no_blk (bb : Nat) : blockOf none ≠ some bb := fun h => by cases h
theorem rc_nil (w : World) : RcAt w R0 none none := ⟨IntsAt.nil w, IntsAt.nil w, by decide, by decide, by decide, by decide⟩
theorem fr_nil (n : Nat) : Fr n none := fun b h => by cases h
theorem RowS.lt {n : Nat} {ao : OA} {cap : Nat} {L : List Int} {wx : World} (h : RowS n ao cap L wx) : ∀ bb, blockOf ao = some bb -> bb < wx.heap.size := fun bb hbb => by
 obtain ⟨g, rfl, _, cs, h1, _⟩ := h.at_
 have e : g = bb := by simpa [blockOf] using hbb
 have := lt_of_block h1
 omega
theorem coefN_rng {s : ByteArray} {a : Nat} {o p h : Int} {C : List Int} {a1 : Nat} (hn : coefN s a o = some (p, h, C, a1)) (ha : a <= 8 * s.size) : 0 <= h /\ h <= 15 /\ C.length = o.toNat /\ a1 <= 8 * s.size := by
 unfold coefN at hn
 split at hn
 ·rename_i hc
  cases hr : rdAll s 0 (getV s a 4 + 1) o.toNat (getA s (getA s a 4) 5) with
  | none => rw [hr] at hn; cases hn
  | some r =>
   obtain ⟨C', a'⟩ := r
   rw [hr] at hn
   cases hn
   have b5 := getV_bound s (getA s a 4) 5
   exact ⟨b5.1, hc.2.2.2, rdAll_len hr, rdAll_le hr (getA_le _ _ _ (getA_le _ _ _ ha))⟩
 ·cases hn
theorem s_rbody0 (x : Nat) (s : ByteArray) (hs : s.size <= 1000000000000000000) (a : Nat) (ha : a <= 8 * s.size) (b v : Int) (hb0 : 1 <= b) (hb1 : b <= 65535) (hv0 : 1 <= v) (hv1 : v <= 33) (g : Nat) (o sw : Int)  (w : World) (hrd : Rd w x s a) (hbx : w.heap[g]? = some (.cells (subC ⟨0, o, sw, 0, 0, [], R0⟩ none 0 none 0 none 0) 67 (0, 0))) (hxg : x ≠ g) : Calls Tryz.prog 141 #[.pointer (some ⟨x, 0, none⟩), .pointer (some ⟨g, 0, none⟩), .int .i64 b, .int .i64 v] w fun e w' => Stays (XG x g) w w' /\ OPost (rdSBody s a b v 0 o) (e = .returned (.tuple #[.slice none 0 0, .bool false])) (fun d => ∃ la lc ca cc pa pc ea ec, e = .returned (.tuple #[.slice la d.m.length lc, .bool true]) /\ RowS w.heap.size la lc d.m w' /\ w'.heap[g]? = some (.cells (subC ⟨0, o, sw, d.p, d.h, d.C, d.R⟩ ca cc pa pc ea ec) 67 (0, 0)) /\ IntsAt w' ca d.C /\ (d.C.length <= cc /\ (ca = none -> cc = 0)) /\ RcAt w' d.R pa ea /\ (Fr w.heap.size ca /\ Fr w.heap.size pa /\ Fr w.heap.size ea) /\ Rd w' x s d.a /\ ∀ bb, blockOf la = some bb -> blockOf ca ≠ some bb /\ blockOf pa ≠ some bb /\ blockOf ea ≠ some bb) := by
 have hbs := bodyS_0 s a b v o (by omega) (by omega)
 have hgw := lt_of_block hbx
 have hxw : x < w.heap.size := lt_of_block hrd
 have KA : Hid (∀ wx, G1 158 #[subV ⟨0, o, sw, 0, 0, [], R0⟩ none 0 none 0 none 0, .int .i64 b] wx (.int .i64 ((1 : Nat) : Int))) := fun wx => by
  have h := s_asThey ⟨0, o, sw, 0, 0, [], R0⟩ none 0 none 0 none 0 b wx
  rw [show cntN ⟨0, o, sw, 0, 0, [], R0⟩ b = ((1 : Nat) : Int) from rfl] at h
  exact h
 have ke0 := fun wx hh => s_reach x s hs a ha (1) (by omega) v hv0 (by omega) wx hh
 have HBX := kQ hbx
 have HRD := kQ hrd
 obtain ⟨nn, hnn⟩ : ∃ X : Nat, X = 1 := ⟨_, rfl⟩
 rw [<- hnn] at KA ke0
 cases hW : rdAll s 0 v nn a with
 | none =>
  have HN : Hid (rdSBody s a b v 0 o = none) := by show _ = _; rw [hbs, <- hnn, hW]
  have KE : Hid (∀ wx, Rd wx x s a -> Calls Tryz.prog 179 #[.pointer (some ⟨x, 0, none⟩), .int .i64 (nn : Int), .int .i64 v] wx fun e w' => Stays (only x) wx w' /\ e = .returned (.tuple #[.slice none 0 0, .bool false])) := fun wx hh => (ke0 wx hh).mono fun e w' h => by
   obtain ⟨h1, h2⟩ := h
   rw [hW] at h2
   exact ⟨h1, h2⟩
  clear hbs
  clear hrd hbx ke0 hW hnn
  obtain ⟨x0, x1, x2, x3, x4, x5, x6, x7, x8, x9⟩ := sub_cells HBX.out
  go_enter Tryz.func141, Tryz.ntmps141
  go_wp2_with fail
  refine (KA.out w).mono ?_
  rintro e w1 ⟨rfl, hb1_⟩
  have ke := KE.out w1 (HRD.out.below hb1_)
  have HB1 := kQ hb1_
  clear KA KE hb1_ x0 x1 x2 x3 x4 x5 x6 x7 x8 x9
  go_wp2_with fail
  refine ke.mono ?_
  rintro e w2 ⟨hst, rfl⟩
  have HS2 : Hid (Stays (XG x g) w w2) := (Stays.of_below HB1.out (XG x g)).s2 hst
  clear ke hst
  go_wp2_with fail
  go_ret2
  exact ⟨HS2.out, OPost.none_ HN.out rfl⟩
 | some p =>
  obtain ⟨W, a1⟩ := p
  have HN : Hid (rdSBody s a b v 0 o = some ⟨List.replicate b.toNat (W.getD 0 0), 0, 0, [], R0, a1⟩) := by show _ = _; rw [hbs, <- hnn, hW]
  have hWl := rdAll_len hW
  rw [hnn] at hWl
  have HWE : Hid (W = [W.getD 0 0]) := by
   show _ = _
   cases W with
   | nil => simp at hWl
   | cons y T =>
    cases T with
    | nil => rfl
    | cons z T => simp at hWl
  have hbt : ((b.toNat : Nat) : Int) = b := by omega
  have KR : Hid (∀ wx fa fc, IntsAt wx fa W -> Calls Tryz.prog 180 #[.slice fa 1 fc, .int .i64 b] wx fun e w' => ∃ ga gc, e = .returned (.slice ga (List.replicate b.toNat (W.getD 0 0)).length gc) /\ Made wx ga gc (List.replicate b.toNat (W.getD 0 0)) w') := fun wx fa fc hh => by
   have h := s_repeat (W.getD 0 0) b.toNat (by omega) (by omega) fa fc wx (by rw [<- HWE.out]; exact hh)
   rw [hbt] at h
   exact h
  have KE : Hid (∀ wx, Rd wx x s a -> Calls Tryz.prog 179 #[.pointer (some ⟨x, 0, none⟩), .int .i64 (nn : Int), .int .i64 v] wx fun e w' => Stays (only x) wx w' /\ ∃ la lc, e = .returned (.tuple #[.slice la W.length lc, .bool true]) /\ RowS wx.heap.size la lc W w' /\ Rd w' x s a1) := fun wx hh => (ke0 wx hh).mono fun e w' h => by
   obtain ⟨h1, h2⟩ := h
   rw [hW] at h2
   exact ⟨h1, h2⟩
  clear hbs hbt
  clear hrd hbx ke0 hW hnn
  obtain ⟨x0, x1, x2, x3, x4, x5, x6, x7, x8, x9⟩ := sub_cells HBX.out
  go_enter Tryz.func141, Tryz.ntmps141
  go_wp2_with fail
  refine (KA.out w).mono ?_
  rintro e w1 ⟨rfl, hb1_⟩
  have ke := KE.out w1 (HRD.out.below hb1_)
  have HB1 := kQ hb1_
  clear KA KE hb1_ x0 x1 x2 x3 x4 x5 x6 x7 x8 x9
  go_wp2_with fail
  refine ke.mono ?_
  rintro e w2 ⟨hst, fa, fc, rfl, hrow, hr2⟩
  have HS2 : Hid (Stays (XG x g) w w2) := (Stays.of_below HB1.out (XG x g)).s2 hst
  have HW2 := kQ (hrow.mono HB1.out.size)
  have HR2 := kQ hr2
  have HG2 : Hid (w2.heap[g]? = some (.cells (subC ⟨0, o, sw, 0, 0, [], R0⟩ none 0 none 0 none 0) 67 (0, 0))) := by
   have h1 : w1.heap[g]? = some (.cells (subC ⟨0, o, sw, 0, 0, [], R0⟩ none 0 none 0 none 0) 67 (0, 0)) := by rw [HB1.out.block _ hgw]; exact HBX.out
   show _ = _
   rw [hst.block _ (lt_of_block h1) (fun e => hxg (Eq.symm e))]; exact h1
  clear ke hst hrow hr2 HB1 HBX HRD
  obtain ⟨x0, x1, x2, x3, x4, x5, x6, x7, x8, x9⟩ := sub_cells HG2.out
  have kr := KR.out w2 fa fc HW2.out.ints
  clear KR
  rw [hWl]
  generalize List.replicate b.toNat (W.getD 0 0) = L at *
  go_wp2_with fail
  refine kr.mono ?_
  rintro e w3 ⟨ga, gc, rfl, hmd⟩
  have HF : Hid (Stays (XG x g) w w3 /\ RowS w.heap.size ga gc L w3 /\ w3.heap[g]? = some (.cells (subC ⟨0, o, sw, 0, 0, [], R0⟩ none 0 none 0 none 0) 67 (0, 0)) /\ Rd w3 x s a1) := ⟨HS2.out.s2b hmd.below, hmd.row.mono HS2.out.size, by rw [hmd.below.block _ (lt_of_block HG2.out)]; exact HG2.out, HR2.out.below hmd.below⟩
  clear kr hmd x0 x1 x2 x3 x4 x5 x6 x7 x8 x9
  go_wp2_with fail
  go_ret2
  exact ⟨HF.out.1, OPost.some_ HN.out ⟨_, _, none, 0, none, 0, none, 0, rfl, HF.out.2.1, HF.out.2.2.1, IntsAt.nil _, ⟨Nat.zero_le _, fun _ => rfl⟩, rc_nil _, ⟨fr_nil _, fr_nil _, fr_nil _⟩, HF.out.2.2.2, fun bb _ => ⟨no_blk bb, no_blk bb, no_blk bb⟩⟩⟩
theorem s_rbody1 (x : Nat) (s : ByteArray) (hs : s.size <= 1000000000000000000) (a : Nat) (ha : a <= 8 * s.size) (b v : Int) (hb0 : 1 <= b) (hb1 : b <= 65535) (hv0 : 1 <= v) (hv1 : v <= 33) (g : Nat) (o sw : Int)  (w : World) (hrd : Rd w x s a) (hbx : w.heap[g]? = some (.cells (subC ⟨1, o, sw, 0, 0, [], R0⟩ none 0 none 0 none 0) 67 (0, 0))) (hxg : x ≠ g) : Calls Tryz.prog 141 #[.pointer (some ⟨x, 0, none⟩), .pointer (some ⟨g, 0, none⟩), .int .i64 b, .int .i64 v] w fun e w' => Stays (XG x g) w w' /\ OPost (rdSBody s a b v 1 o) (e = .returned (.tuple #[.slice none 0 0, .bool false])) (fun d => ∃ la lc ca cc pa pc ea ec, e = .returned (.tuple #[.slice la d.m.length lc, .bool true]) /\ RowS w.heap.size la lc d.m w' /\ w'.heap[g]? = some (.cells (subC ⟨1, o, sw, d.p, d.h, d.C, d.R⟩ ca cc pa pc ea ec) 67 (0, 0)) /\ IntsAt w' ca d.C /\ (d.C.length <= cc /\ (ca = none -> cc = 0)) /\ RcAt w' d.R pa ea /\ (Fr w.heap.size ca /\ Fr w.heap.size pa /\ Fr w.heap.size ea) /\ Rd w' x s d.a /\ ∀ bb, blockOf la = some bb -> blockOf ca ≠ some bb /\ blockOf pa ≠ some bb /\ blockOf ea ≠ some bb) := by
 have hbs := bodyS_1 s a b v o
 have hgw := lt_of_block hbx
 have hxw : x < w.heap.size := lt_of_block hrd
 have KA : Hid (∀ wx, G1 158 #[subV ⟨1, o, sw, 0, 0, [], R0⟩ none 0 none 0 none 0, .int .i64 b] wx (.int .i64 ((b.toNat : Nat) : Int))) := fun wx => by
  have h := s_asThey ⟨1, o, sw, 0, 0, [], R0⟩ none 0 none 0 none 0 b wx
  rw [show cntN ⟨1, o, sw, 0, 0, [], R0⟩ b = ((b.toNat : Nat) : Int) from (by show (if (1 : Int) = 0 then (1 : Int) else if (1 : Int) = 1 then b else o) = _; rw [if_neg (by decide), if_pos rfl]; omega)] at h
  exact h
 have ke0 := fun wx hh => s_reach x s hs a ha (b.toNat) (by omega) v hv0 (by omega) wx hh
 have HBX := kQ hbx
 have HRD := kQ hrd
 obtain ⟨nn, hnn⟩ : ∃ X : Nat, X = b.toNat := ⟨_, rfl⟩
 rw [<- hnn] at KA ke0
 cases hW : rdAll s 0 v nn a with
 | none =>
  have HN : Hid (rdSBody s a b v 1 o = none) := by show _ = _; rw [hbs, <- hnn, hW]
  have KE : Hid (∀ wx, Rd wx x s a -> Calls Tryz.prog 179 #[.pointer (some ⟨x, 0, none⟩), .int .i64 (nn : Int), .int .i64 v] wx fun e w' => Stays (only x) wx w' /\ e = .returned (.tuple #[.slice none 0 0, .bool false])) := fun wx hh => (ke0 wx hh).mono fun e w' h => by
   obtain ⟨h1, h2⟩ := h
   rw [hW] at h2
   exact ⟨h1, h2⟩
  clear hbs
  clear hrd hbx ke0 hW hnn
  obtain ⟨x0, x1, x2, x3, x4, x5, x6, x7, x8, x9⟩ := sub_cells HBX.out
  go_enter Tryz.func141, Tryz.ntmps141
  go_wp2_with fail
  refine (KA.out w).mono ?_
  rintro e w1 ⟨rfl, hb1_⟩
  have ke := KE.out w1 (HRD.out.below hb1_)
  have HB1 := kQ hb1_
  clear KA KE hb1_ x0 x1 x2 x3 x4 x5 x6 x7 x8 x9
  go_wp2_with fail
  refine ke.mono ?_
  rintro e w2 ⟨hst, rfl⟩
  have HS2 : Hid (Stays (XG x g) w w2) := (Stays.of_below HB1.out (XG x g)).s2 hst
  clear ke hst
  go_wp2_with fail
  go_ret2
  exact ⟨HS2.out, OPost.none_ HN.out rfl⟩
 | some p =>
  obtain ⟨W, a1⟩ := p
  have HN : Hid (rdSBody s a b v 1 o = some ⟨W, 0, 0, [], R0, a1⟩) := by show _ = _; rw [hbs, <- hnn, hW]
  have KE : Hid (∀ wx, Rd wx x s a -> Calls Tryz.prog 179 #[.pointer (some ⟨x, 0, none⟩), .int .i64 (nn : Int), .int .i64 v] wx fun e w' => Stays (only x) wx w' /\ ∃ la lc, e = .returned (.tuple #[.slice la W.length lc, .bool true]) /\ RowS wx.heap.size la lc W w' /\ Rd w' x s a1) := fun wx hh => (ke0 wx hh).mono fun e w' h => by
   obtain ⟨h1, h2⟩ := h
   rw [hW] at h2
   exact ⟨h1, h2⟩
  clear hbs
  clear hrd hbx ke0 hW hnn
  obtain ⟨x0, x1, x2, x3, x4, x5, x6, x7, x8, x9⟩ := sub_cells HBX.out
  go_enter Tryz.func141, Tryz.ntmps141
  go_wp2_with fail
  refine (KA.out w).mono ?_
  rintro e w1 ⟨rfl, hb1_⟩
  have ke := KE.out w1 (HRD.out.below hb1_)
  have HB1 := kQ hb1_
  clear KA KE hb1_ x0 x1 x2 x3 x4 x5 x6 x7 x8 x9
  go_wp2_with fail
  refine ke.mono ?_
  rintro e w2 ⟨hst, fa, fc, rfl, hrow, hr2⟩
  have HS2 : Hid (Stays (XG x g) w w2) := (Stays.of_below HB1.out (XG x g)).s2 hst
  have HW2 := kQ (hrow.mono HB1.out.size)
  have HR2 := kQ hr2
  have HG2 : Hid (w2.heap[g]? = some (.cells (subC ⟨1, o, sw, 0, 0, [], R0⟩ none 0 none 0 none 0) 67 (0, 0))) := by
   have h1 : w1.heap[g]? = some (.cells (subC ⟨1, o, sw, 0, 0, [], R0⟩ none 0 none 0 none 0) 67 (0, 0)) := by rw [HB1.out.block _ hgw]; exact HBX.out
   show _ = _
   rw [hst.block _ (lt_of_block h1) (fun e => hxg (Eq.symm e))]; exact h1
  clear ke hst hrow hr2 HB1 HBX HRD
  obtain ⟨x0, x1, x2, x3, x4, x5, x6, x7, x8, x9⟩ := sub_cells HG2.out
  go_wp2_with fail
  go_ret2
  exact ⟨HS2.out, OPost.some_ HN.out ⟨_, _, none, 0, none, 0, none, 0, rfl, HW2.out, HG2.out, IntsAt.nil _, ⟨Nat.zero_le _, fun _ => rfl⟩, rc_nil _, ⟨fr_nil _, fr_nil _, fr_nil _⟩, HR2.out, fun bb _ => ⟨no_blk bb, no_blk bb, no_blk bb⟩⟩⟩
theorem s_rbody2 (x : Nat) (s : ByteArray) (hs : s.size <= 1000000000000000000) (a : Nat) (ha : a <= 8 * s.size) (b v : Int) (hb0 : 1 <= b) (hb1 : b <= 65535) (hv0 : 1 <= v) (hv1 : v <= 33) (g : Nat) (o sw : Int) (ho0 : 0 <= o) (ho1 : o <= 4) (hob : o <= b) (w : World) (hrd : Rd w x s a) (hbx : w.heap[g]? = some (.cells (subC ⟨2, o, sw, 0, 0, [], R0⟩ none 0 none 0 none 0) 67 (0, 0))) (hxg : x ≠ g) : Calls Tryz.prog 141 #[.pointer (some ⟨x, 0, none⟩), .pointer (some ⟨g, 0, none⟩), .int .i64 b, .int .i64 v] w fun e w' => Stays (XG x g) w w' /\ OPost (rdSBody s a b v 2 o) (e = .returned (.tuple #[.slice none 0 0, .bool false])) (fun d => ∃ la lc ca cc pa pc ea ec, e = .returned (.tuple #[.slice la d.m.length lc, .bool true]) /\ RowS w.heap.size la lc d.m w' /\ w'.heap[g]? = some (.cells (subC ⟨2, o, sw, d.p, d.h, d.C, d.R⟩ ca cc pa pc ea ec) 67 (0, 0)) /\ IntsAt w' ca d.C /\ (d.C.length <= cc /\ (ca = none -> cc = 0)) /\ RcAt w' d.R pa ea /\ (Fr w.heap.size ca /\ Fr w.heap.size pa /\ Fr w.heap.size ea) /\ Rd w' x s d.a /\ ∀ bb, blockOf la = some bb -> blockOf ca ≠ some bb /\ blockOf pa ≠ some bb /\ blockOf ea ≠ some bb) := by
 have hbs := bodyS_2 s a b v o
 have hgw := lt_of_block hbx
 have hxw : x < w.heap.size := lt_of_block hrd
 have KA : Hid (∀ wx, G1 158 #[subV ⟨2, o, sw, 0, 0, [], R0⟩ none 0 none 0 none 0, .int .i64 b] wx (.int .i64 ((o.toNat : Nat) : Int))) := fun wx => by
  have h := s_asThey ⟨2, o, sw, 0, 0, [], R0⟩ none 0 none 0 none 0 b wx
  rw [show cntN ⟨2, o, sw, 0, 0, [], R0⟩ b = ((o.toNat : Nat) : Int) from (by show (if (2 : Int) = 0 then (1 : Int) else if (2 : Int) = 1 then b else o) = _; rw [if_neg (by decide), if_neg (by decide)]; omega)] at h
  exact h
 have ke0 := fun wx hh => s_reach x s hs a ha (o.toNat) (by omega) v hv0 (by omega) wx hh
 have HBX := kQ hbx
 have HRD := kQ hrd
 obtain ⟨nn, hnn⟩ : ∃ X : Nat, X = o.toNat := ⟨_, rfl⟩
 rw [<- hnn] at KA ke0
 cases hW : rdAll s 0 v nn a with
 | none =>
  have HN : Hid (rdSBody s a b v 2 o = none) := by show _ = _; rw [hbs, <- hnn, hW]
  have KE : Hid (∀ wx, Rd wx x s a -> Calls Tryz.prog 179 #[.pointer (some ⟨x, 0, none⟩), .int .i64 (nn : Int), .int .i64 v] wx fun e w' => Stays (only x) wx w' /\ e = .returned (.tuple #[.slice none 0 0, .bool false])) := fun wx hh => (ke0 wx hh).mono fun e w' h => by
   obtain ⟨h1, h2⟩ := h
   rw [hW] at h2
   exact ⟨h1, h2⟩
  clear hbs
  clear hrd hbx ke0 hW hnn
  obtain ⟨x0, x1, x2, x3, x4, x5, x6, x7, x8, x9⟩ := sub_cells HBX.out
  go_enter Tryz.func141, Tryz.ntmps141
  go_wp2_with fail
  refine (KA.out w).mono ?_
  rintro e w1 ⟨rfl, hb1_⟩
  have ke := KE.out w1 (HRD.out.below hb1_)
  have HB1 := kQ hb1_
  clear KA KE hb1_ x0 x1 x2 x3 x4 x5 x6 x7 x8 x9
  go_wp2_with fail
  refine ke.mono ?_
  rintro e w2 ⟨hst, rfl⟩
  have HS2 : Hid (Stays (XG x g) w w2) := (Stays.of_below HB1.out (XG x g)).s2 hst
  clear ke hst
  go_wp2_with fail
  go_ret2
  exact ⟨HS2.out, OPost.none_ HN.out rfl⟩
 | some p =>
  obtain ⟨W, a1⟩ := p
  have hWl := rdAll_len hW
  have hal := rdAll_le hW ha
  have HN0 : rdSBody s a b v 2 o = rdRes s a1 b o 0 0 [] (wF o.toNat) W := by rw [hbs, <- hnn, hW]
  unfold rdRes at HN0
  cases hD : decP s a1 b o with
  | none =>
   have HN : Hid (rdSBody s a b v 2 o = none) := by show _ = _; rw [HN0, hD]
   have KR : Hid (∀ wx fa fc, Rd wx x s a1 -> wx.heap[g]? = some (.cells (subC ⟨2, o, sw, 0, 0, [], R0⟩ none 0 none 0 none 0) 67 (0, 0)) -> RowS w.heap.size fa fc W wx -> Calls Tryz.prog 182 #[.pointer (some ⟨x, 0, none⟩), .pointer (some ⟨g, 0, none⟩), .int .i64 b, .slice fa W.length fc] wx fun e w' => Stays (XG x g) wx w' /\ e = .returned (.tuple #[.slice none 0 0, .bool false])) := fun wx fa fc hr hg HF_ => (s_rest x s hs a1 hal b g 2 o sw 0 0 [] none 0 W fa fc (wF o.toNat) (by unfold argOk; omega) hb1 (fun c R => by unfold foreR unfR; rw [if_pos rfl, if_pos (by show 0 <= o /\ o <= 4 /\ (W.length : Int) = o; omega)]; rfl) wx hr hg (IntsAt.nil _) HF_.ints hxg (fun bb hbb => by cases hbb) (fun bb hbb => by have := HF_.fr bb hbb; exact ⟨by omega, by omega⟩)).mono fun e w' h => by
     obtain ⟨h1, h2⟩ := h
     rw [hD] at h2
     exact ⟨h1, h2⟩
   have KE : Hid (∀ wx, Rd wx x s a -> Calls Tryz.prog 179 #[.pointer (some ⟨x, 0, none⟩), .int .i64 (nn : Int), .int .i64 v] wx fun e w' => Stays (only x) wx w' /\ ∃ la lc, e = .returned (.tuple #[.slice la W.length lc, .bool true]) /\ RowS wx.heap.size la lc W w' /\ Rd w' x s a1) := fun wx hh => (ke0 wx hh).mono fun e w' h => by
    obtain ⟨h1, h2⟩ := h
    rw [hW] at h2
    exact ⟨h1, h2⟩
   clear hbs HN0 hD hWl hal
   clear hrd hbx ke0 hW hnn
   obtain ⟨x0, x1, x2, x3, x4, x5, x6, x7, x8, x9⟩ := sub_cells HBX.out
   go_enter Tryz.func141, Tryz.ntmps141
   go_wp2_with fail
   refine (KA.out w).mono ?_
   rintro e w1 ⟨rfl, hb1_⟩
   have ke := KE.out w1 (HRD.out.below hb1_)
   have HB1 := kQ hb1_
   clear KA KE hb1_ x0 x1 x2 x3 x4 x5 x6 x7 x8 x9
   go_wp2_with fail
   refine ke.mono ?_
   rintro e w2 ⟨hst, fa, fc, rfl, hrow, hr2⟩
   have HS2 : Hid (Stays (XG x g) w w2) := (Stays.of_below HB1.out (XG x g)).s2 hst
   have HW2 := kQ (hrow.mono HB1.out.size)
   have HR2 := kQ hr2
   have HG2 : Hid (w2.heap[g]? = some (.cells (subC ⟨2, o, sw, 0, 0, [], R0⟩ none 0 none 0 none 0) 67 (0, 0))) := by
    have h1 : w1.heap[g]? = some (.cells (subC ⟨2, o, sw, 0, 0, [], R0⟩ none 0 none 0 none 0) 67 (0, 0)) := by rw [HB1.out.block _ hgw]; exact HBX.out
    show _ = _
    rw [hst.block _ (lt_of_block h1) (fun e => hxg (Eq.symm e))]; exact h1
   clear ke hst hrow hr2 HB1 HBX HRD
   obtain ⟨x0, x1, x2, x3, x4, x5, x6, x7, x8, x9⟩ := sub_cells HG2.out
   have kr := KR.out w2 fa fc HR2.out HG2.out HW2.out
   clear KR
   go_wp2_with fail
   refine kr.mono ?_
   rintro e w8 ⟨hst8, rfl⟩
   have HF : Hid (Stays (XG x g) w w8) := HS2.out.trans hst8 (fun _ _ h => h)
   clear kr hst8 x0 x1 x2 x3 x4 x5 x6 x7 x8 x9
   go_wp2_with fail
   go_ret2
   exact ⟨HF.out, OPost.none_ HN.out rfl⟩
  | some r =>
   obtain ⟨c, R, a9⟩ := r
   have HN : Hid (rdSBody s a b v 2 o = some ⟨wholeN (wF o.toNat) (0 : Int).toNat W R R.length, 0, 0, [], c, a9⟩) := by show _ = _; rw [HN0, hD]
   have KR : Hid (∀ wx fa fc, Rd wx x s a1 -> wx.heap[g]? = some (.cells (subC ⟨2, o, sw, 0, 0, [], R0⟩ none 0 none 0 none 0) 67 (0, 0)) -> RowS w.heap.size fa fc W wx -> Calls Tryz.prog 182 #[.pointer (some ⟨x, 0, none⟩), .pointer (some ⟨g, 0, none⟩), .int .i64 b, .slice fa W.length fc] wx fun e w' => Stays (XG x g) wx w' /\ ∃ la lc gp ge, e = .returned (.tuple #[.slice la (wholeN (wF o.toNat) ((0 : Int)).toNat W R R.length).length lc, .bool true]) /\ RowS wx.heap.size la lc (wholeN (wF o.toNat) ((0 : Int)).toNat W R R.length) w' /\ w'.heap[g]? = some (.cells (subC ⟨2, o, sw, 0, (0 : Int), [], c⟩ none 0 (some ⟨gp, 0, none⟩) c.P.length (some ⟨ge, 0, none⟩) c.E.length) 67 (0, 0)) /\ RcAt w' c (some ⟨gp, 0, none⟩) (some ⟨ge, 0, none⟩) /\ wx.heap.size <= gp /\ wx.heap.size <= ge /\ Rd w' x s a9 /\ ∀ bb, blockOf la = some bb -> gp < bb /\ ge < bb /\ wx.heap.size <= bb) := fun wx fa fc hr hg HF_ => (s_rest x s hs a1 hal b g 2 o sw 0 0 [] none 0 W fa fc (wF o.toNat) (by unfold argOk; omega) hb1 (fun c R => by unfold foreR unfR; rw [if_pos rfl, if_pos (by show 0 <= o /\ o <= 4 /\ (W.length : Int) = o; omega)]; rfl) wx hr hg (IntsAt.nil _) HF_.ints hxg (fun bb hbb => by cases hbb) (fun bb hbb => by have := HF_.fr bb hbb; exact ⟨by omega, by omega⟩)).mono fun e w' h => by
     obtain ⟨h1, h2⟩ := h
     rw [hD] at h2
     exact ⟨h1, h2⟩
   have KE : Hid (∀ wx, Rd wx x s a -> Calls Tryz.prog 179 #[.pointer (some ⟨x, 0, none⟩), .int .i64 (nn : Int), .int .i64 v] wx fun e w' => Stays (only x) wx w' /\ ∃ la lc, e = .returned (.tuple #[.slice la W.length lc, .bool true]) /\ RowS wx.heap.size la lc W w' /\ Rd w' x s a1) := fun wx hh => (ke0 wx hh).mono fun e w' h => by
    obtain ⟨h1, h2⟩ := h
    rw [hW] at h2
    exact ⟨h1, h2⟩
   clear hbs HN0 hD hWl hal
   clear hrd hbx ke0 hW hnn
   obtain ⟨x0, x1, x2, x3, x4, x5, x6, x7, x8, x9⟩ := sub_cells HBX.out
   go_enter Tryz.func141, Tryz.ntmps141
   go_wp2_with fail
   refine (KA.out w).mono ?_
   rintro e w1 ⟨rfl, hb1_⟩
   have ke := KE.out w1 (HRD.out.below hb1_)
   have HB1 := kQ hb1_
   clear KA KE hb1_ x0 x1 x2 x3 x4 x5 x6 x7 x8 x9
   go_wp2_with fail
   refine ke.mono ?_
   rintro e w2 ⟨hst, fa, fc, rfl, hrow, hr2⟩
   have HS2 : Hid (Stays (XG x g) w w2) := (Stays.of_below HB1.out (XG x g)).s2 hst
   have HW2 := kQ (hrow.mono HB1.out.size)
   have HR2 := kQ hr2
   have HG2 : Hid (w2.heap[g]? = some (.cells (subC ⟨2, o, sw, 0, 0, [], R0⟩ none 0 none 0 none 0) 67 (0, 0))) := by
    have h1 : w1.heap[g]? = some (.cells (subC ⟨2, o, sw, 0, 0, [], R0⟩ none 0 none 0 none 0) 67 (0, 0)) := by rw [HB1.out.block _ hgw]; exact HBX.out
    show _ = _
    rw [hst.block _ (lt_of_block h1) (fun e => hxg (Eq.symm e))]; exact h1
   clear ke hst hrow hr2 HB1 HBX HRD
   obtain ⟨x0, x1, x2, x3, x4, x5, x6, x7, x8, x9⟩ := sub_cells HG2.out
   have kr := KR.out w2 fa fc HR2.out HG2.out HW2.out
   clear KR
   obtain ⟨L, hLe⟩ : ∃ L, L = wholeN (wF o.toNat) ((0 : Int)).toNat W R R.length := ⟨_, rfl⟩
   rw [<- hLe] at kr HN
   clear hLe
   go_wp2_with fail
   refine kr.mono ?_
   rintro e w8 ⟨hst8, la, lc, gp, ge, rfl, r1, r2, r3, r4, r5, r6, r7⟩
   have HF : Hid (Stays (XG x g) w w8 /\ RowS w.heap.size la lc L w8 /\ w8.heap[g]? = some (.cells (subC ⟨2, o, sw, 0, (0 : Int), [], c⟩ none 0 (some ⟨gp, 0, none⟩) c.P.length (some ⟨ge, 0, none⟩) c.E.length) 67 (0, 0)) /\ RcAt w8 c (some ⟨gp, 0, none⟩) (some ⟨ge, 0, none⟩) /\ (Fr w.heap.size (some ⟨gp, 0, none⟩) /\ Fr w.heap.size (some ⟨ge, 0, none⟩)) /\ Rd w8 x s a9 /\ (∀ bb, blockOf la = some bb -> blockOf (none : OA) ≠ some bb /\ blockOf (some (⟨gp, 0, none⟩ : Addr)) ≠ some bb /\ blockOf (some (⟨ge, 0, none⟩ : Addr)) ≠ some bb) /\ True) := by
    have hz := HS2.out.size
    refine ⟨HS2.out.trans hst8 (fun _ _ h => h), r1.mono hz, r2, r3, ⟨fun bb hbb => ?_, fun bb hbb => ?_⟩, r6, fun bb hbb => ⟨no_blk bb, fun e => ?_, fun e => ?_⟩, trivial⟩
    ·have e : gp = bb := by simpa [blockOf] using hbb
     omega
    ·have e : ge = bb := by simpa [blockOf] using hbb
     omega
    ·have h7 := r7 bb hbb
     have e : gp = bb := by simpa [blockOf] using e
     omega
    ·have h7 := r7 bb hbb
     have e : ge = bb := by simpa [blockOf] using e
     omega
   clear kr hst8 r1 r2 r3 r4 r5 r6 r7 x0 x1 x2 x3 x4 x5 x6 x7 x8 x9
   go_wp2_with fail
   go_ret2
   exact ⟨HF.out.1, OPost.some_ HN.out ⟨_, _, none, 0, _, _, _, _, rfl, HF.out.2.1, HF.out.2.2.1, IntsAt.nil _, ⟨Nat.zero_le _, fun _ => rfl⟩, HF.out.2.2.2.1, ⟨fr_nil _, HF.out.2.2.2.2.1.1, HF.out.2.2.2.2.1.2⟩, HF.out.2.2.2.2.2.1, HF.out.2.2.2.2.2.2.1⟩⟩
theorem s_rbody3 (x : Nat) (s : ByteArray) (hs : s.size <= 1000000000000000000) (a : Nat) (ha : a <= 8 * s.size) (b v : Int) (hb0 : 1 <= b) (hb1 : b <= 65535) (hv0 : 1 <= v) (hv1 : v <= 33) (g : Nat) (o sw : Int) (ho0 : 1 <= o) (ho1 : o <= 32) (hob : o <= b) (w : World) (hrd : Rd w x s a) (hbx : w.heap[g]? = some (.cells (subC ⟨3, o, sw, 0, 0, [], R0⟩ none 0 none 0 none 0) 67 (0, 0))) (hxg : x ≠ g) : Calls Tryz.prog 141 #[.pointer (some ⟨x, 0, none⟩), .pointer (some ⟨g, 0, none⟩), .int .i64 b, .int .i64 v] w fun e w' => Stays (XG x g) w w' /\ OPost (rdSBody s a b v 3 o) (e = .returned (.tuple #[.slice none 0 0, .bool false])) (fun d => ∃ la lc ca cc pa pc ea ec, e = .returned (.tuple #[.slice la d.m.length lc, .bool true]) /\ RowS w.heap.size la lc d.m w' /\ w'.heap[g]? = some (.cells (subC ⟨3, o, sw, d.p, d.h, d.C, d.R⟩ ca cc pa pc ea ec) 67 (0, 0)) /\ IntsAt w' ca d.C /\ (d.C.length <= cc /\ (ca = none -> cc = 0)) /\ RcAt w' d.R pa ea /\ (Fr w.heap.size ca /\ Fr w.heap.size pa /\ Fr w.heap.size ea) /\ Rd w' x s d.a /\ ∀ bb, blockOf la = some bb -> blockOf ca ≠ some bb /\ blockOf pa ≠ some bb /\ blockOf ea ≠ some bb) := by
 have hbs := bodyS_3 s a b v o
 have hgw := lt_of_block hbx
 have hxw : x < w.heap.size := lt_of_block hrd
 have KA : Hid (∀ wx, G1 158 #[subV ⟨3, o, sw, 0, 0, [], R0⟩ none 0 none 0 none 0, .int .i64 b] wx (.int .i64 ((o.toNat : Nat) : Int))) := fun wx => by
  have h := s_asThey ⟨3, o, sw, 0, 0, [], R0⟩ none 0 none 0 none 0 b wx
  rw [show cntN ⟨3, o, sw, 0, 0, [], R0⟩ b = ((o.toNat : Nat) : Int) from (by show (if (3 : Int) = 0 then (1 : Int) else if (3 : Int) = 1 then b else o) = _; rw [if_neg (by decide), if_neg (by decide)]; omega)] at h
  exact h
 have ke0 := fun wx hh => s_reach x s hs a ha (o.toNat) (by omega) v hv0 (by omega) wx hh
 have HBX := kQ hbx
 have HRD := kQ hrd
 obtain ⟨nn, hnn⟩ : ∃ X : Nat, X = o.toNat := ⟨_, rfl⟩
 rw [<- hnn] at KA ke0
 cases hW : rdAll s 0 v nn a with
 | none =>
  have HN : Hid (rdSBody s a b v 3 o = none) := by show _ = _; rw [hbs, <- hnn, hW]
  have KE : Hid (∀ wx, Rd wx x s a -> Calls Tryz.prog 179 #[.pointer (some ⟨x, 0, none⟩), .int .i64 (nn : Int), .int .i64 v] wx fun e w' => Stays (only x) wx w' /\ e = .returned (.tuple #[.slice none 0 0, .bool false])) := fun wx hh => (ke0 wx hh).mono fun e w' h => by
   obtain ⟨h1, h2⟩ := h
   rw [hW] at h2
   exact ⟨h1, h2⟩
  clear hbs
  clear hrd hbx ke0 hW hnn
  obtain ⟨x0, x1, x2, x3, x4, x5, x6, x7, x8, x9⟩ := sub_cells HBX.out
  go_enter Tryz.func141, Tryz.ntmps141
  go_wp2_with fail
  refine (KA.out w).mono ?_
  rintro e w1 ⟨rfl, hb1_⟩
  have ke := KE.out w1 (HRD.out.below hb1_)
  have HB1 := kQ hb1_
  clear KA KE hb1_ x0 x1 x2 x3 x4 x5 x6 x7 x8 x9
  go_wp2_with fail
  refine ke.mono ?_
  rintro e w2 ⟨hst, rfl⟩
  have HS2 : Hid (Stays (XG x g) w w2) := (Stays.of_below HB1.out (XG x g)).s2 hst
  clear ke hst
  go_wp2_with fail
  go_ret2
  exact ⟨HS2.out, OPost.none_ HN.out rfl⟩
 | some p =>
  obtain ⟨W, a1⟩ := p
  have hWl := rdAll_len hW
  have hal := rdAll_le hW ha
  have HN0 : rdSBody s a b v 3 o = match coefN s a1 o with
   | none => none
   | some (p, h, C, a2) => rdRes s a2 b o p h C C W := by rw [hbs, <- hnn, hW]
  cases hCN : coefN s a1 o with
  | none =>
   have HN : Hid (rdSBody s a b v 3 o = none) := by show _ = _; rw [HN0, hCN]
   have KCO : Hid (∀ wx, Rd wx x s a1 -> wx.heap[g]? = some (.cells (subC ⟨3, o, sw, 0, 0, [], R0⟩ none 0 none 0 none 0) 67 (0, 0)) -> Calls Tryz.prog 181 #[.pointer (some ⟨x, 0, none⟩), .pointer (some ⟨g, 0, none⟩)] wx fun e w' => Stays (XG x g) wx w' /\ e = .returned (.bool false)) := fun wx hr hg => (s_rcoefs x s hs a1 hal g 3 o sw ho0 ho1 wx hr hg hxg).mono fun e w' h => by
    obtain ⟨h1, h2⟩ := h
    rw [hCN] at h2
    exact ⟨h1, h2⟩
   have KE : Hid (∀ wx, Rd wx x s a -> Calls Tryz.prog 179 #[.pointer (some ⟨x, 0, none⟩), .int .i64 (nn : Int), .int .i64 v] wx fun e w' => Stays (only x) wx w' /\ ∃ la lc, e = .returned (.tuple #[.slice la W.length lc, .bool true]) /\ RowS wx.heap.size la lc W w' /\ Rd w' x s a1) := fun wx hh => (ke0 wx hh).mono fun e w' h => by
    obtain ⟨h1, h2⟩ := h
    rw [hW] at h2
    exact ⟨h1, h2⟩
   clear hbs HN0 hCN hWl hal
   clear hrd hbx ke0 hW hnn
   obtain ⟨x0, x1, x2, x3, x4, x5, x6, x7, x8, x9⟩ := sub_cells HBX.out
   go_enter Tryz.func141, Tryz.ntmps141
   go_wp2_with fail
   refine (KA.out w).mono ?_
   rintro e w1 ⟨rfl, hb1_⟩
   have ke := KE.out w1 (HRD.out.below hb1_)
   have HB1 := kQ hb1_
   clear KA KE hb1_ x0 x1 x2 x3 x4 x5 x6 x7 x8 x9
   go_wp2_with fail
   refine ke.mono ?_
   rintro e w2 ⟨hst, fa, fc, rfl, hrow, hr2⟩
   have HS2 : Hid (Stays (XG x g) w w2) := (Stays.of_below HB1.out (XG x g)).s2 hst
   have HW2 := kQ (hrow.mono HB1.out.size)
   have HR2 := kQ hr2
   have HG2 : Hid (w2.heap[g]? = some (.cells (subC ⟨3, o, sw, 0, 0, [], R0⟩ none 0 none 0 none 0) 67 (0, 0))) := by
    have h1 : w1.heap[g]? = some (.cells (subC ⟨3, o, sw, 0, 0, [], R0⟩ none 0 none 0 none 0) 67 (0, 0)) := by rw [HB1.out.block _ hgw]; exact HBX.out
    show _ = _
    rw [hst.block _ (lt_of_block h1) (fun e => hxg (Eq.symm e))]; exact h1
   clear ke hst hrow hr2 HB1 HBX HRD
   obtain ⟨x0, x1, x2, x3, x4, x5, x6, x7, x8, x9⟩ := sub_cells HG2.out
   have kc := KCO.out w2 HR2.out HG2.out
   clear KCO
   go_wp2_with fail
   refine kc.mono ?_
   rintro e w3 ⟨hst3, rfl⟩
   have HF : Hid (Stays (XG x g) w w3) := HS2.out.trans hst3 (fun _ _ h => h)
   clear kc hst3 x0 x1 x2 x3 x4 x5 x6 x7 x8 x9
   go_wp2_with fail
   go_ret2
   exact ⟨HF.out, OPost.none_ HN.out rfl⟩
  | some r =>
   obtain ⟨p, h, C, a2⟩ := r
   rw [hCN] at HN0
   have hcr := coefN_rng hCN hal
   have HN1 : rdSBody s a b v 3 o = rdRes s a2 b o p h C C W := HN0
   unfold rdRes at HN1
   cases hD : decP s a2 b o with
   | none =>
    have HN : Hid (rdSBody s a b v 3 o = none) := by show _ = _; rw [HN1, hD]
    have KCO : Hid (∀ wx, Rd wx x s a1 -> wx.heap[g]? = some (.cells (subC ⟨3, o, sw, 0, 0, [], R0⟩ none 0 none 0 none 0) 67 (0, 0)) -> Calls Tryz.prog 181 #[.pointer (some ⟨x, 0, none⟩), .pointer (some ⟨g, 0, none⟩)] wx fun e w' => Stays (XG x g) wx w' /\ e = .returned (.bool true) /\ ∃ ca cc, w'.heap[g]? = some (.cells (subC ⟨3, o, sw, p, h, C, R0⟩ ca cc none 0 none 0) 67 (0, 0)) /\ RowS wx.heap.size ca cc C w' /\ Rd w' x s a2) := fun wx hr hg => (s_rcoefs x s hs a1 hal g 3 o sw ho0 ho1 wx hr hg hxg).mono fun e w' h => by
     obtain ⟨h1, h2⟩ := h
     rw [hCN] at h2
     exact ⟨h1, h2⟩
    have KR : Hid (∀ wx fa fc ca cc, Rd wx x s a2 -> wx.heap[g]? = some (.cells (subC ⟨3, o, sw, p, h, C, R0⟩ ca cc none 0 none 0) 67 (0, 0)) -> RowS w.heap.size fa fc W wx -> RowS w.heap.size ca cc C wx -> Calls Tryz.prog 182 #[.pointer (some ⟨x, 0, none⟩), .pointer (some ⟨g, 0, none⟩), .int .i64 b, .slice fa W.length fc] wx fun e w' => Stays (XG x g) wx w' /\ e = .returned (.tuple #[.slice none 0 0, .bool false])) := fun wx fa fc ca cc hr hg HF_ HC_ => (s_rest x s hs a2 hcr.2.2.2 b g 3 o sw p h C ca cc W fa fc C (by unfold argOk; omega) hb1 (fun c R => by unfold foreR unlR; rw [if_neg (by show ¬ (3 : Int) = 2; decide), if_pos ⟨(mayB_iff _ _).2 (by show 1 <= C.length /\ C.length <= 32 /\ 0 <= h /\ h <= 31; omega), by show W.length = C.length; omega⟩]) wx hr hg HC_.ints HF_.ints hxg (fun bb hbb => by have := HC_.fr bb hbb; exact ⟨by omega, by omega⟩) (fun bb hbb => by have := HF_.fr bb hbb; exact ⟨by omega, by omega⟩)).mono fun e w' h => by
      obtain ⟨h1, h2⟩ := h
      rw [hD] at h2
      exact ⟨h1, h2⟩
    have KE : Hid (∀ wx, Rd wx x s a -> Calls Tryz.prog 179 #[.pointer (some ⟨x, 0, none⟩), .int .i64 (nn : Int), .int .i64 v] wx fun e w' => Stays (only x) wx w' /\ ∃ la lc, e = .returned (.tuple #[.slice la W.length lc, .bool true]) /\ RowS wx.heap.size la lc W w' /\ Rd w' x s a1) := fun wx hh => (ke0 wx hh).mono fun e w' h => by
     obtain ⟨h1, h2⟩ := h
     rw [hW] at h2
     exact ⟨h1, h2⟩
    clear hbs HN0 HN1 hCN hD hWl hal hcr
    clear hrd hbx ke0 hW hnn
    obtain ⟨x0, x1, x2, x3, x4, x5, x6, x7, x8, x9⟩ := sub_cells HBX.out
    go_enter Tryz.func141, Tryz.ntmps141
    go_wp2_with fail
    refine (KA.out w).mono ?_
    rintro e w1 ⟨rfl, hb1_⟩
    have ke := KE.out w1 (HRD.out.below hb1_)
    have HB1 := kQ hb1_
    clear KA KE hb1_ x0 x1 x2 x3 x4 x5 x6 x7 x8 x9
    go_wp2_with fail
    refine ke.mono ?_
    rintro e w2 ⟨hst, fa, fc, rfl, hrow, hr2⟩
    have HS2 : Hid (Stays (XG x g) w w2) := (Stays.of_below HB1.out (XG x g)).s2 hst
    have HW2 := kQ (hrow.mono HB1.out.size)
    have HR2 := kQ hr2
    have HG2 : Hid (w2.heap[g]? = some (.cells (subC ⟨3, o, sw, 0, 0, [], R0⟩ none 0 none 0 none 0) 67 (0, 0))) := by
     have h1 : w1.heap[g]? = some (.cells (subC ⟨3, o, sw, 0, 0, [], R0⟩ none 0 none 0 none 0) 67 (0, 0)) := by rw [HB1.out.block _ hgw]; exact HBX.out
     show _ = _
     rw [hst.block _ (lt_of_block h1) (fun e => hxg (Eq.symm e))]; exact h1
    clear ke hst hrow hr2 HB1 HBX HRD
    obtain ⟨x0, x1, x2, x3, x4, x5, x6, x7, x8, x9⟩ := sub_cells HG2.out
    have kc := KCO.out w2 HR2.out HG2.out
    clear KCO
    go_wp2_with fail
    refine kc.mono ?_
    rintro e w3 ⟨hst3, rfl, ca, cc, hg3, hrow3, hr3⟩
    have HS3 : Hid (Stays (XG x g) w w3) := HS2.out.trans hst3 (fun _ _ h => h)
    have HW3 : Hid (RowS w.heap.size fa fc W w3) := HW2.out.stays hst3 (fun j hj hS => by rcases hS with e | e <;> omega)
    have HC3 := kQ (hrow3.mono HS2.out.size)
    have HR3 := kQ hr3
    have HG3 := kQ hg3
    clear kc hst3 hg3 hrow3 hr3 HS2 HW2 HR2 HG2 x0 x1 x2 x3 x4 x5 x6 x7 x8 x9
    obtain ⟨x0, x1, x2, x3, x4, x5, x6, x7, x8, x9⟩ := sub_cells HG3.out
    have kr := KR.out w3 fa fc ca cc HR3.out HG3.out HW3.out HC3.out
    clear KR
    go_wp2_with fail
    refine kr.mono ?_
    rintro e w8 ⟨hst8, rfl⟩
    have HF : Hid (Stays (XG x g) w w8) := HS3.out.trans hst8 (fun _ _ h => h)
    clear kr hst8 x0 x1 x2 x3 x4 x5 x6 x7 x8 x9
    go_wp2_with fail
    go_ret2
    exact ⟨HF.out, OPost.none_ HN.out rfl⟩
   | some r2 =>
    obtain ⟨c, R, a9⟩ := r2
    have HN : Hid (rdSBody s a b v 3 o = some ⟨wholeN C (h).toNat W R R.length, p, h, C, c, a9⟩) := by show _ = _; rw [HN1, hD]
    have KCO : Hid (∀ wx, Rd wx x s a1 -> wx.heap[g]? = some (.cells (subC ⟨3, o, sw, 0, 0, [], R0⟩ none 0 none 0 none 0) 67 (0, 0)) -> Calls Tryz.prog 181 #[.pointer (some ⟨x, 0, none⟩), .pointer (some ⟨g, 0, none⟩)] wx fun e w' => Stays (XG x g) wx w' /\ e = .returned (.bool true) /\ ∃ ca cc, w'.heap[g]? = some (.cells (subC ⟨3, o, sw, p, h, C, R0⟩ ca cc none 0 none 0) 67 (0, 0)) /\ RowS wx.heap.size ca cc C w' /\ Rd w' x s a2) := fun wx hr hg => (s_rcoefs x s hs a1 hal g 3 o sw ho0 ho1 wx hr hg hxg).mono fun e w' h => by
     obtain ⟨h1, h2⟩ := h
     rw [hCN] at h2
     exact ⟨h1, h2⟩
    have KR : Hid (∀ wx fa fc ca cc, Rd wx x s a2 -> wx.heap[g]? = some (.cells (subC ⟨3, o, sw, p, h, C, R0⟩ ca cc none 0 none 0) 67 (0, 0)) -> RowS w.heap.size fa fc W wx -> RowS w.heap.size ca cc C wx -> Calls Tryz.prog 182 #[.pointer (some ⟨x, 0, none⟩), .pointer (some ⟨g, 0, none⟩), .int .i64 b, .slice fa W.length fc] wx fun e w' => Stays (XG x g) wx w' /\ ∃ la lc gp ge, e = .returned (.tuple #[.slice la (wholeN C (h).toNat W R R.length).length lc, .bool true]) /\ RowS wx.heap.size la lc (wholeN C (h).toNat W R R.length) w' /\ w'.heap[g]? = some (.cells (subC ⟨3, o, sw, p, h, C, c⟩ ca cc (some ⟨gp, 0, none⟩) c.P.length (some ⟨ge, 0, none⟩) c.E.length) 67 (0, 0)) /\ RcAt w' c (some ⟨gp, 0, none⟩) (some ⟨ge, 0, none⟩) /\ wx.heap.size <= gp /\ wx.heap.size <= ge /\ Rd w' x s a9 /\ ∀ bb, blockOf la = some bb -> gp < bb /\ ge < bb /\ wx.heap.size <= bb) := fun wx fa fc ca cc hr hg HF_ HC_ => (s_rest x s hs a2 hcr.2.2.2 b g 3 o sw p h C ca cc W fa fc C (by unfold argOk; omega) hb1 (fun c R => by unfold foreR unlR; rw [if_neg (by show ¬ (3 : Int) = 2; decide), if_pos ⟨(mayB_iff _ _).2 (by show 1 <= C.length /\ C.length <= 32 /\ 0 <= h /\ h <= 31; omega), by show W.length = C.length; omega⟩]) wx hr hg HC_.ints HF_.ints hxg (fun bb hbb => by have := HC_.fr bb hbb; exact ⟨by omega, by omega⟩) (fun bb hbb => by have := HF_.fr bb hbb; exact ⟨by omega, by omega⟩)).mono fun e w' h => by
      obtain ⟨h1, h2⟩ := h
      rw [hD] at h2
      exact ⟨h1, h2⟩
    have KE : Hid (∀ wx, Rd wx x s a -> Calls Tryz.prog 179 #[.pointer (some ⟨x, 0, none⟩), .int .i64 (nn : Int), .int .i64 v] wx fun e w' => Stays (only x) wx w' /\ ∃ la lc, e = .returned (.tuple #[.slice la W.length lc, .bool true]) /\ RowS wx.heap.size la lc W w' /\ Rd w' x s a1) := fun wx hh => (ke0 wx hh).mono fun e w' h => by
     obtain ⟨h1, h2⟩ := h
     rw [hW] at h2
     exact ⟨h1, h2⟩
    clear hbs HN0 HN1 hCN hD hWl hal hcr
    clear hrd hbx ke0 hW hnn
    obtain ⟨x0, x1, x2, x3, x4, x5, x6, x7, x8, x9⟩ := sub_cells HBX.out
    go_enter Tryz.func141, Tryz.ntmps141
    go_wp2_with fail
    refine (KA.out w).mono ?_
    rintro e w1 ⟨rfl, hb1_⟩
    have ke := KE.out w1 (HRD.out.below hb1_)
    have HB1 := kQ hb1_
    clear KA KE hb1_ x0 x1 x2 x3 x4 x5 x6 x7 x8 x9
    go_wp2_with fail
    refine ke.mono ?_
    rintro e w2 ⟨hst, fa, fc, rfl, hrow, hr2⟩
    have HS2 : Hid (Stays (XG x g) w w2) := (Stays.of_below HB1.out (XG x g)).s2 hst
    have HW2 := kQ (hrow.mono HB1.out.size)
    have HR2 := kQ hr2
    have HG2 : Hid (w2.heap[g]? = some (.cells (subC ⟨3, o, sw, 0, 0, [], R0⟩ none 0 none 0 none 0) 67 (0, 0))) := by
     have h1 : w1.heap[g]? = some (.cells (subC ⟨3, o, sw, 0, 0, [], R0⟩ none 0 none 0 none 0) 67 (0, 0)) := by rw [HB1.out.block _ hgw]; exact HBX.out
     show _ = _
     rw [hst.block _ (lt_of_block h1) (fun e => hxg (Eq.symm e))]; exact h1
    clear ke hst hrow hr2 HB1 HBX HRD
    obtain ⟨x0, x1, x2, x3, x4, x5, x6, x7, x8, x9⟩ := sub_cells HG2.out
    have kc := KCO.out w2 HR2.out HG2.out
    clear KCO
    go_wp2_with fail
    refine kc.mono ?_
    rintro e w3 ⟨hst3, rfl, ca, cc, hg3, hrow3, hr3⟩
    have HS3 : Hid (Stays (XG x g) w w3) := HS2.out.trans hst3 (fun _ _ h => h)
    have HW3 : Hid (RowS w.heap.size fa fc W w3) := HW2.out.stays hst3 (fun j hj hS => by rcases hS with e | e <;> omega)
    have HC3 := kQ (hrow3.mono HS2.out.size)
    have HR3 := kQ hr3
    have HG3 := kQ hg3
    clear kc hst3 hg3 hrow3 hr3 HS2 HW2 HR2 HG2 x0 x1 x2 x3 x4 x5 x6 x7 x8 x9
    obtain ⟨x0, x1, x2, x3, x4, x5, x6, x7, x8, x9⟩ := sub_cells HG3.out
    have kr := KR.out w3 fa fc ca cc HR3.out HG3.out HW3.out HC3.out
    clear KR
    obtain ⟨L, hLe⟩ : ∃ L, L = wholeN C (h).toNat W R R.length := ⟨_, rfl⟩
    rw [<- hLe] at kr HN
    clear hLe
    go_wp2_with fail
    refine kr.mono ?_
    rintro e w8 ⟨hst8, la, lc, gp, ge, rfl, r1, r2, r3, r4, r5, r6, r7⟩
    have HF : Hid (Stays (XG x g) w w8 /\ RowS w.heap.size la lc L w8 /\ w8.heap[g]? = some (.cells (subC ⟨3, o, sw, p, h, C, c⟩ ca cc (some ⟨gp, 0, none⟩) c.P.length (some ⟨ge, 0, none⟩) c.E.length) 67 (0, 0)) /\ RcAt w8 c (some ⟨gp, 0, none⟩) (some ⟨ge, 0, none⟩) /\ (Fr w.heap.size (some ⟨gp, 0, none⟩) /\ Fr w.heap.size (some ⟨ge, 0, none⟩)) /\ Rd w8 x s a9 /\ (∀ bb, blockOf la = some bb -> blockOf (ca : OA) ≠ some bb /\ blockOf (some (⟨gp, 0, none⟩ : Addr)) ≠ some bb /\ blockOf (some (⟨ge, 0, none⟩ : Addr)) ≠ some bb) /\ RowS w.heap.size ca cc C w8) := by
     have hz := HS3.out.size
     refine ⟨HS3.out.trans hst8 (fun _ _ h => h), r1.mono hz, r2, r3, ⟨fun bb hbb => ?_, fun bb hbb => ?_⟩, r6, fun bb hbb => ⟨fun e => by have h7 := r7 bb hbb; have h8 := HC3.out.lt bb e; omega, fun e => ?_, fun e => ?_⟩, HC3.out.stays hst8 (fun j hj hS => by rcases hS with e | e <;> omega)⟩
     ·have e : gp = bb := by simpa [blockOf] using hbb
      omega
     ·have e : ge = bb := by simpa [blockOf] using hbb
      omega
     ·have h7 := r7 bb hbb
      have e : gp = bb := by simpa [blockOf] using e
      omega
     ·have h7 := r7 bb hbb
      have e : ge = bb := by simpa [blockOf] using e
      omega
    clear kr hst8 r1 r2 r3 r4 r5 r6 r7 x0 x1 x2 x3 x4 x5 x6 x7 x8 x9
    go_wp2_with fail
    go_ret2
    exact ⟨HF.out.1, OPost.some_ HN.out ⟨_, _, ca, cc, _, _, _, _, rfl, HF.out.2.1, HF.out.2.2.1, HF.out.2.2.2.2.2.2.2.ints, ⟨HF.out.2.2.2.2.2.2.2.cap_, HF.out.2.2.2.2.2.2.2.none_⟩, HF.out.2.2.2.1, ⟨HF.out.2.2.2.2.2.2.2.fr, HF.out.2.2.2.2.1.1, HF.out.2.2.2.2.1.2⟩, HF.out.2.2.2.2.2.1, HF.out.2.2.2.2.2.2.1⟩⟩
theorem s_rbody (x : Nat) (s : ByteArray) (hs : s.size <= 1000000000000000000) (a : Nat) (ha : a <= 8 * s.size) (b v : Int) (hb0 : 1 <= b) (hb1 : b <= 65535) (hv0 : 1 <= v) (hv1 : v <= 33) (g : Nat) (o sw : Int) (k : Int) (hk : kinds k o) (hob : o <= b) (w : World) (hrd : Rd w x s a) (hbx : w.heap[g]? = some (.cells (subC ⟨k, o, sw, 0, 0, [], R0⟩ none 0 none 0 none 0) 67 (0, 0))) (hxg : x ≠ g) : Calls Tryz.prog 141 #[.pointer (some ⟨x, 0, none⟩), .pointer (some ⟨g, 0, none⟩), .int .i64 b, .int .i64 v] w fun e w' => Stays (XG x g) w w' /\ OPost (rdSBody s a b v k o) (e = .returned (.tuple #[.slice none 0 0, .bool false])) (fun d => ∃ la lc ca cc pa pc ea ec, e = .returned (.tuple #[.slice la d.m.length lc, .bool true]) /\ RowS w.heap.size la lc d.m w' /\ w'.heap[g]? = some (.cells (subC ⟨k, o, sw, d.p, d.h, d.C, d.R⟩ ca cc pa pc ea ec) 67 (0, 0)) /\ IntsAt w' ca d.C /\ (d.C.length <= cc /\ (ca = none -> cc = 0)) /\ RcAt w' d.R pa ea /\ (Fr w.heap.size ca /\ Fr w.heap.size pa /\ Fr w.heap.size ea) /\ Rd w' x s d.a /\ ∀ bb, blockOf la = some bb -> blockOf ca ≠ some bb /\ blockOf pa ≠ some bb /\ blockOf ea ≠ some bb) := by
 unfold kinds at hk
 rcases hk with ⟨rfl, h⟩ | ⟨rfl, h⟩ | ⟨rfl, h1, h2⟩ | ⟨rfl, h1, h2⟩
 ·exact s_rbody0 x s hs a ha b v hb0 hb1 hv0 hv1 g o sw w hrd hbx hxg
 ·exact s_rbody1 x s hs a ha b v hb0 hb1 hv0 hv1 g o sw w hrd hbx hxg
 ·exact s_rbody2 x s hs a ha b v hb0 hb1 hv0 hv1 g o sw h1 h2 hob w hrd hbx hxg
 ·exact s_rbody3 x s hs a ha b v hb0 hb1 hv0 hv1 g o sw h1 h2 hob w hrd hbx hxg
end Go.Proofs.YtfpfabmbipmipaaGreatDoor
