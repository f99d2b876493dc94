/- Own text. -/
import Derived.Test.YtfpfabmbipmipaaGreatDoorD17
set_option linter.unusedSimpArgs false
set_option linter.unusedVariables false
set_option maxRecDepth 20000
set_option maxHeartbeats 12800000
namespace Go.Proofs.YtfpfabmbipmipaaGreatDoor
open Go.RowKit
structure DR (w : World) (q : Sb) (ca : OA) (cc : Nat) (pa : OA) (pc : Nat) (ea : OA) (ec : Nat) (d : Nat) (ad : OA) (D : List Nat) (wx : World) : Prop where
 box : wx.heap[w.heap.size]? = some (.cells (subC q ca cc pa pc ea ec) 67 (0, 0))
 wr : WrB wx d ad D
 low : Lo w wx
 hd : w.heap.size < d
 nd : ∀ b, blockOf ad = some b -> w.heap.size < b
section
variable {w wx w' : World} {q : Sb} {ca : OA} {cc : Nat} {pa : OA} {pc : Nat} {ea : OA} {ec : Nat} {d : Nat} {ad ad' : OA} {D D' : List Nat}
theorem DR.put (h : DR w q ca cc pa pc ea ec d ad D wx) (hs : Stays (foot d ad) wx w') (hv : Moved wx.heap.size ad ad') (hw : WrB w' d ad' D') : DR w q ca cc pa pc ea ec d ad' D' w' := by
 have hlt := lt_of_block h.box
 have hn : ∀ i, i <= w.heap.size -> ¬ foot d ad i := fun i hi hf => by
  rcases hf with hf | hf
  ·have := h.hd; omega
  ·have := h.nd i hf; omega
 refine ⟨by rw [hs.block _ hlt (hn _ (Nat.le_refl _))]; exact h.box, hw, h.low.trans (hs.below (Nat.le_of_lt hlt) (fun i hi => hn i (by omega))), h.hd, fun b hb => ?_⟩
 rcases hv b hb with h1 | h1
 ·exact h.nd b h1
 ·omega
theorem DR.stay (h : DR w q ca cc pa pc ea ec d ad D wx) (hs : Stays (foot d ad) wx w') : Lo w w' := by
 have hlt := lt_of_block h.box
 exact h.low.trans (hs.below (Nat.le_of_lt hlt) (fun i hi hf => by
  rcases hf with hf | hf
  ·have := h.hd; omega
  ·have := h.nd i hf; omega))
theorem DR.boxstay (h : DR w q ca cc pa pc ea ec d ad D wx) (hs : Stays (foot d ad) wx w') : w'.heap[w.heap.size]? = some (.cells (subC q ca cc pa pc ea ec) 67 (0, 0)) := by
 rw [hs.block _ (lt_of_block h.box) (fun hf => by
  rcases hf with hf | hf
  ·have := h.hd; omega
  ·have := h.nd _ hf; omega)]
 exact h.box
theorem DR.next (h : DR w q ca cc pa pc ea ec d ad D wx) (hb : Lo wx w') : DR w q ca cc pa pc ea ec d ad D w' :=
 ⟨by rw [hb.block _ (lt_of_block h.box)]; exact h.box, h.wr.below hb, h.low.trans (hb.mono h.low.size), h.hd, h.nd⟩
theorem DR.apart (h : DR w q ca cc pa pc ea ec d ad D wx) {xo : OA} {l : List Int} (hx : IntsAt w xo l) : Apart d ad xo l := fun h0 b hb hf => by
 obtain ⟨bb, off, rfl, hc⟩ := hx.lies h0
 have e : bb = b := by simpa [blockOf] using hb
 have h2 : bb < w.heap.size := lt_cell (hc 0 h0)
 rcases hf with hf | hf
 ·have := h.hd; omega
 ·have := h.nd b hf; omega
end
theorem DR.start {w wx : World} {q : Sb} {ca : OA} {cc : Nat} {pa : OA} {pc : Nat} {ea : OA} {ec : Nat} (h : SX w q ca cc pa pc ea ec wx) (o : Obj) (hw : WrB (wx.alloc o) wx.heap.size none []) : DR w q ca cc pa pc ea ec wx.heap.size none [] (wx.alloc o) := by
 have hb : Lo wx (wx.alloc o) := aQ
 have h2 := h.next hb
 exact ⟨h2.box, hw, h2.below, lt_of_block h.box, fun b hb => by cases hb⟩
theorem grp5 : (∀ (q : Sb) (v : Int) (l : List Int) (ca : OA) (cc : Nat) (pa : OA) (pc : Nat) (ea : OA) (ec : Nat) (lo : OA) (cap p : Nat) (w : World) (hq : SbAt w q ca pa ea) (hl : IntsAt w lo l) (hno : ¬ subOk q l.length v), Calls Tryz.prog 64 #[.pointer (some ⟨p, 0, none⟩), subV q ca cc pa pc ea ec, .int .i64 v, .slice lo l.length cap] w fun e w' => e = .returned (.int .i64 60) /\ Lo w w') /\ (∀ (q : Sb) (v : Int) (l : List Int) (ca : OA) (cc : Nat) (pa : OA) (pc : Nat) (ea : OA) (ec : Nat) (lo : OA) (cap p : Nat) (w : World) (hq : SbAt w q ca pa ea) (hl : IntsAt w lo l) (hok : subOk q l.length v) (hfit : ¬ fitOk q v l), Calls Tryz.prog 64 #[.pointer (some ⟨p, 0, none⟩), subV q ca cc pa pc ea ec, .int .i64 v, .slice lo l.length cap] w fun e w' => e = .returned (.int .i64 60) /\ Lo w w') /\ (∀ (q : Sb) (v : Int) (l : List Int) (ca : OA) (cc : Nat) (pa : OA) (pc : Nat) (ea : OA) (ec : Nat) (lo : OA) (cap p : Nat) (w : World) (hq : SbAt w q ca pa ea) (hl : IntsAt w lo l) (hok : subOk q l.length v) (hfit : fitOk q v l) (hres : ¬ (q.k = 2 ∨ q.k = 3 -> encR q.R l.length q.o (resN q (shrL l q.w.toNat)) = true)), Calls Tryz.prog 64 #[.pointer (some ⟨p, 0, none⟩), subV q ca cc pa pc ea ec, .int .i64 v, .slice lo l.length cap] w fun e w' => e = .returned (.int .i64 60) /\ Lo w w') /\ (∀ (q : Sb) (v : Int) (l : List Int) (ca : OA) (cc : Nat) (pa : OA) (pc : Nat) (ea : OA) (ec : Nat) (lo : OA) (cap p : Nat) (ao : OA) (B : List Nat) (h01 : Bits01 B) (hB : B.length <= 1200000000000) (w : World) (hq : SbAt w q ca pa ea) (hl : IntsAt w lo l) (hw : WrB w p ao B) (hS : okS q v l), Calls Tryz.prog 64 #[.pointer (some ⟨p, 0, none⟩), subV q ca cc pa pc ea ec, .int .i64 v, .slice lo l.length cap] w fun e w' => e = .returned (.int .i64 0) /\ ∃ ao', WrB w' p ao' (B ++ subB q v l) /\ Stays (foot p ao) w w' /\ Moved w.heap.size ao ao') := by
 refine ⟨?_, ?_, ?_, ?_⟩
 ·intro q v l ca cc pa pc ea ec lo cap p w hq hl hno
  have hll := hl.len;have KC : Hid (∀ wx a, a = subV q ca cc pa pc ea ec -> Lo w wx -> G1 88 #[a, .int .i64 (l.length : Int), .int .i64 v] wx (.int .i64 60)) := fun wx a ha hb => by rw [ha]; exact s_check q ca cc pa pc ea ec l.length v 60 (fun h => absurd h hno) (fun _ => rfl) wx (hq.below hb)
  clear hq hl hno;have HA : Hid (SX w q ca cc pa pc ea ec (w.alloc (.cells (subC q ca cc pa pc ea ec) 67))) := SX.new w q ca cc pa pc ea ec;go_enter Tryz.func64, Tryz.ntmps64
  go_upto_region 1 with fail
  generalize World.alloc _ _ = wa at *;obtain ⟨x0, x1, x2, x3, x4, x5, x6, x7, x8, x9⟩ := sub_cells HA.out.box
  go_wp2_with fail
  refine (KC.out _ _ (by simp []) HA.out.below).mono ?_
  rintro e wx_HA0 ⟨rfl, hb⟩;have HA0 := kQ (HA.out.next hb);clear hb HA x0 x1 x2 x3 x4 x5 x6 x7 x8 x9;obtain ⟨x0, x1, x2, x3, x4, x5, x6, x7, x8, x9⟩ := sub_cells HA0.out.box
  go_wp2_with fail
  go_ret;exact ⟨rfl, HA0.out.below⟩
 ·intro q v l ca cc pa pc ea ec lo cap p w hq hl hok hfit
  have hll := hl.len;obtain ⟨hbl, hv, hwd, hkd⟩ := hok;have KC : Hid (∀ wx a, a = subV q ca cc pa pc ea ec -> Lo w wx -> G1 88 #[a, .int .i64 (l.length : Int), .int .i64 v] wx (.int .i64 0)) := fun wx a ha hb => by rw [ha]; exact s_check q ca cc pa pc ea ec l.length v 0 (fun _ => rfl) (fun h => absurd ⟨hbl, hv, hwd, hkd⟩ h) wx (hq.below hb)
  have KF : Hid (∀ wx a, a = subV q ca cc pa pc ea ec -> Lo w wx -> G1 114 #[a, .int .i64 v, .slice lo l.length cap] wx (.bool false)) := fun wx a ha hb => by
   rw [ha];have h := s_fit q ca cc pa pc ea ec q.w.toNat (by omega) (by omega) l lo cap (v.toNat - 1) (by omega) false (ff_iff (by rw [show ((v.toNat - 1 : Nat) : Int) + 1 = v by omega]; exact hfit)) wx (hl.below hb)
   rw [show ((v.toNat - 1 : Nat) : Int) + 1 = v by omega] at h
   exact h
  clear hq hl hfit hkd;have HA : Hid (SX w q ca cc pa pc ea ec (w.alloc (.cells (subC q ca cc pa pc ea ec) 67))) := SX.new w q ca cc pa pc ea ec;go_enter Tryz.func64, Tryz.ntmps64
  go_upto_region 1 with fail
  generalize World.alloc _ _ = wa at *;obtain ⟨x0, x1, x2, x3, x4, x5, x6, x7, x8, x9⟩ := sub_cells HA.out.box
  go_wp2_with fail
  refine (KC.out _ _ (by simp []) HA.out.below).mono ?_
  rintro e wx_HA0 ⟨rfl, hb⟩;have HA0 := kQ (HA.out.next hb);clear hb HA x0 x1 x2 x3 x4 x5 x6 x7 x8 x9;obtain ⟨x0, x1, x2, x3, x4, x5, x6, x7, x8, x9⟩ := sub_cells HA0.out.box
  go_wp2_with fail
  refine (KF.out _ _ (by simp []) HA0.out.below).mono ?_
  rintro e wx_HA1 ⟨rfl, hb⟩;have HA1 := kQ (HA0.out.next hb);clear hb HA0 x0 x1 x2 x3 x4 x5 x6 x7 x8 x9;obtain ⟨x0, x1, x2, x3, x4, x5, x6, x7, x8, x9⟩ := sub_cells HA1.out.box
  go_wp2_with fail
  go_ret;exact ⟨rfl, HA1.out.below⟩
 focus
  intro q v l ca cc pa pc ea ec lo cap p w hq hl hok hfit hres;have HBB : (false = true ↔ (q.k = 2 ∨ q.k = 3 -> encR q.R l.length q.o (resN q (shrL l q.w.toNat)) = true)) := ff_iff hres;have hll := hl.len;obtain ⟨hbl, hv, hwd, hkd⟩ := hok;have hk := kd_kinds hkd;unfold kinds at hk;have KC : Hid (∀ wx a, a = subV q ca cc pa pc ea ec -> Lo w wx -> G1 88 #[a, .int .i64 (l.length : Int), .int .i64 v] wx (.int .i64 0)) := fun wx a ha hb => by rw [ha]; exact s_check q ca cc pa pc ea ec l.length v 0 (fun _ => rfl) (fun h => absurd ⟨hbl, hv, hwd, hkd⟩ h) wx (hq.below hb)
  have KF : Hid (∀ wx a, a = subV q ca cc pa pc ea ec -> Lo w wx -> G1 114 #[a, .int .i64 v, .slice lo l.length cap] wx (.bool true)) := fun wx a ha hb => by
   rw [ha];have h := s_fit q ca cc pa pc ea ec q.w.toNat (by omega) (by omega) l lo cap (v.toNat - 1) (by omega) true (tt_iff (by rw [show ((v.toNat - 1 : Nat) : Int) + 1 = v by omega]; exact hfit)) wx (hl.below hb)
   rw [show ((v.toNat - 1 : Nat) : Int) + 1 = v by omega] at h
   exact h
  have KH : Hid (∀ wx a d, a = subV q ca cc pa pc ea ec -> WrB wx d none [] -> Calls Tryz.prog 115 #[.pointer (some ⟨d, 0, none⟩), a] wx fun en w' => en = .returned (.tuple #[]) /\ ∃ ao', WrB w' d ao' ([] ++ (putB (typN q) 7 ++ wstB q.w)) /\ Stays (foot d none) wx w' /\ Moved wx.heap.size none ao') := fun wx a d ha hw => by
   rw [ha]; exact s_head q ca cc pa pc ea ec (by omega) (by omega) (by omega) d none [] Bits01.nil (by simp) wx hw
  have KD : Hid (∀ wx, Lo w wx -> Calls Tryz.prog 117 #[.slice lo l.length cap, .int .i64 q.w] wx fun e w' => ∃ ga gc, e = .returned (.slice ga (shrL l q.w.toNat).length gc) /\ Made wx ga gc (shrL l q.w.toNat) w') := fun wx hb => by
   have h := s_div l q.w.toNat (by omega) lo cap wx (hl.below hb)
   rw [show ((q.w.toNat : Nat) : Int) = q.w by omega] at h
   exact h
  have hsl := shr_len l q.w.toNat
  have HD0 : Hid ((putB (typN q) 7 ++ wstB q.w).length <= 100000000 /\ Bits01 (putB (typN q) 7 ++ wstB q.w)) := by
   refine ⟨?_, (putB_01 _ _).append (wstB_01 _)⟩;rw [List.length_append];have := putB_short (typN q) 7 (by decide)
   have := wstB_short q.w (by omega)
   omega
  have KB : Hid (∀ d wx, ∀ ad, DR w q ca cc pa pc ea ec d ad (putB (typN q) 7 ++ wstB q.w) wx -> ∀ g mc, (shrL l q.w.toNat).length <= mc -> IntsAt wx (some ⟨g, 0, none⟩) (shrL l q.w.toNat) -> Apart d ad (some ⟨g, 0, none⟩) (shrL l q.w.toNat) -> Calls Tryz.prog 116 #[.pointer (some ⟨d, 0, none⟩), subV q ca cc pa pc ea ec, .int .i64 (v - q.w), .slice (some ⟨g, 0, none⟩) (shrL l q.w.toNat).length mc] wx fun e w' => e = .returned (.bool false) /\ ∃ ao', (false = true -> WrB w' d ao' ((putB (typN q) 7 ++ wstB q.w) ++ bodyB q v (shrL l q.w.toNat))) /\ Stays (foot d ad) wx w' /\ Moved wx.heap.size ad ao') := fun d wx ad hD g mc hmc hm ham => by
   have hle := hD.low;exact s_body q ca cc pa pc ea ec v (shrL l q.w.toNat) g mc hmc d ad _ HD0.out.2 HD0.out.1 wx (by rw [hsl]; exact ⟨hbl, hv, hwd, hkd⟩) (hq.below hle) hm hD.wr (hD.apart hq.C) (hD.apart hq.R.P) (hD.apart hq.R.E) ham false (by rw [hsl]; exact HBB)
  clear hq hl hfit hkd hk HBB hres hsl
 rotate_left
 focus
  intro q v l ca cc pa pc ea ec lo cap p ao B h01 hB w hq hl hw hS;have HBB : (true = true ↔ (q.k = 2 ∨ q.k = 3 -> encR q.R l.length q.o (resN q (shrL l q.w.toNat)) = true)) := tt_iff hS.2.2.2.2;have hok := hS.1;have hfit : fitOk q v l := ⟨hS.2.1, hS.2.2.1, hS.2.2.2.1⟩;have hroom := subB_room q v l hS;have hs01 := subB_01 q v l;have HSB : (putB (typN q) 7 ++ wstB q.w) ++ bodyB q v (shrL l q.w.toNat) = subB q v l := by unfold subB; rw [List.append_assoc]
  have KP : Hid (∀ wx d ad, Lo w wx -> WrB wx d ad ((putB (typN q) 7 ++ wstB q.w) ++ bodyB q v (shrL l q.w.toNat)) -> Calls Tryz.prog 118 #[.pointer (some ⟨p, 0, none⟩), .pointer (some ⟨d, 0, none⟩)] wx fun e w' => e = .returned (.tuple #[]) /\ ∃ ao', WrB w' p ao' (B ++ subB q v l) /\ Stays (foot p ao) wx w' /\ Moved wx.heap.size ao ao') := fun wx d ad hb hd => by
   rw [HSB] at hd;exact s_pour p ao B d ad (subB q v l) h01 hs01 (by omega) wx (hw.below hb) hd
  have HFIN : Hid (∀ wx w8 ao8, Lo w wx -> WrB w8 p ao8 (B ++ subB q v l) -> Stays (foot p ao) wx w8 -> Moved wx.heap.size ao ao8 -> WrB w8 p ao8 (B ++ subB q v l) /\ Stays (foot p ao) w w8 /\ Moved w.heap.size ao ao8) := fun wx w8 ao8 hb h1 h2 h3 =>
   ⟨h1, (Stays.of_below hb (foot p ao)).trans h2 (fun _ _ h => h), (Moved.refl _ _).trans h3 hb.size⟩
  clear hw hS h01 hroom hs01;have hll := hl.len;obtain ⟨hbl, hv, hwd, hkd⟩ := hok;have hk := kd_kinds hkd;unfold kinds at hk;have KC : Hid (∀ wx a, a = subV q ca cc pa pc ea ec -> Lo w wx -> G1 88 #[a, .int .i64 (l.length : Int), .int .i64 v] wx (.int .i64 0)) := fun wx a ha hb => by rw [ha]; exact s_check q ca cc pa pc ea ec l.length v 0 (fun _ => rfl) (fun h => absurd ⟨hbl, hv, hwd, hkd⟩ h) wx (hq.below hb)
  have KF : Hid (∀ wx a, a = subV q ca cc pa pc ea ec -> Lo w wx -> G1 114 #[a, .int .i64 v, .slice lo l.length cap] wx (.bool true)) := fun wx a ha hb => by
   rw [ha];have h := s_fit q ca cc pa pc ea ec q.w.toNat (by omega) (by omega) l lo cap (v.toNat - 1) (by omega) true (tt_iff (by rw [show ((v.toNat - 1 : Nat) : Int) + 1 = v by omega]; exact hfit)) wx (hl.below hb)
   rw [show ((v.toNat - 1 : Nat) : Int) + 1 = v by omega] at h
   exact h
  have KH : Hid (∀ wx a d, a = subV q ca cc pa pc ea ec -> WrB wx d none [] -> Calls Tryz.prog 115 #[.pointer (some ⟨d, 0, none⟩), a] wx fun en w' => en = .returned (.tuple #[]) /\ ∃ ao', WrB w' d ao' ([] ++ (putB (typN q) 7 ++ wstB q.w)) /\ Stays (foot d none) wx w' /\ Moved wx.heap.size none ao') := fun wx a d ha hw => by
   rw [ha]; exact s_head q ca cc pa pc ea ec (by omega) (by omega) (by omega) d none [] Bits01.nil (by simp) wx hw
  have KD : Hid (∀ wx, Lo w wx -> Calls Tryz.prog 117 #[.slice lo l.length cap, .int .i64 q.w] wx fun e w' => ∃ ga gc, e = .returned (.slice ga (shrL l q.w.toNat).length gc) /\ Made wx ga gc (shrL l q.w.toNat) w') := fun wx hb => by
   have h := s_div l q.w.toNat (by omega) lo cap wx (hl.below hb)
   rw [show ((q.w.toNat : Nat) : Int) = q.w by omega] at h
   exact h
  have hsl := shr_len l q.w.toNat
  have HD0 : Hid ((putB (typN q) 7 ++ wstB q.w).length <= 100000000 /\ Bits01 (putB (typN q) 7 ++ wstB q.w)) := by
   refine ⟨?_, (putB_01 _ _).append (wstB_01 _)⟩;rw [List.length_append];have := putB_short (typN q) 7 (by decide)
   have := wstB_short q.w (by omega)
   omega
  have KB : Hid (∀ d wx, ∀ ad, DR w q ca cc pa pc ea ec d ad (putB (typN q) 7 ++ wstB q.w) wx -> ∀ g mc, (shrL l q.w.toNat).length <= mc -> IntsAt wx (some ⟨g, 0, none⟩) (shrL l q.w.toNat) -> Apart d ad (some ⟨g, 0, none⟩) (shrL l q.w.toNat) -> Calls Tryz.prog 116 #[.pointer (some ⟨d, 0, none⟩), subV q ca cc pa pc ea ec, .int .i64 (v - q.w), .slice (some ⟨g, 0, none⟩) (shrL l q.w.toNat).length mc] wx fun e w' => e = .returned (.bool true) /\ ∃ ao', (true = true -> WrB w' d ao' ((putB (typN q) 7 ++ wstB q.w) ++ bodyB q v (shrL l q.w.toNat))) /\ Stays (foot d ad) wx w' /\ Moved wx.heap.size ad ao') := fun d wx ad hD g mc hmc hm ham => by
   have hle := hD.low;exact s_body q ca cc pa pc ea ec v (shrL l q.w.toNat) g mc hmc d ad _ HD0.out.2 HD0.out.1 wx (by rw [hsl]; exact ⟨hbl, hv, hwd, hkd⟩) (hq.below hle) hm hD.wr (hD.apart hq.C) (hD.apart hq.R.P) (hD.apart hq.R.E) ham true (by rw [hsl]; exact HBB)
  clear hq hl hfit hkd hk HBB HSB hsl
 rotate_left
 all_goals
  have HA : Hid (SX w q ca cc pa pc ea ec (w.alloc (.cells (subC q ca cc pa pc ea ec) 67))) := SX.new w q ca cc pa pc ea ec;go_enter Tryz.func64, Tryz.ntmps64
  go_upto_region 1 with fail
  generalize World.alloc _ _ = wa at *;obtain ⟨x0, x1, x2, x3, x4, x5, x6, x7, x8, x9⟩ := sub_cells HA.out.box
  go_wp2_with fail
  refine (KC.out _ _ (by simp []) HA.out.below).mono ?_
  rintro e wx_HA0 ⟨rfl, hb⟩;have HA0 := kQ (HA.out.next hb);clear hb HA x0 x1 x2 x3 x4 x5 x6 x7 x8 x9;obtain ⟨x0, x1, x2, x3, x4, x5, x6, x7, x8, x9⟩ := sub_cells HA0.out.box
  go_wp2_with fail
  refine (KF.out _ _ (by simp) HA0.out.below).mono ?_
  rintro e w2 ⟨rfl, hb⟩;have HA1 := kQ (HA0.out.next hb);clear hb HA0 x0 x1 x2 x3 x4 x5 x6 x7 x8 x9;obtain ⟨x0, x1, x2, x3, x4, x5, x6, x7, x8, x9⟩ := sub_cells HA1.out.box;have kn := new_spec w2
  go_wp2_with fail
  refine kn.mono ?_;rintro e w3 ⟨rfl, hw3, ew3⟩;have D3 : Hid (DR w q ca cc pa pc ea ec w2.heap.size none [] w3) := by rw [ew3] at hw3 ⊢; exact DR.start HA1.out _ hw3
  clear kn ew3 hw3 HA1 x0 x1 x2 x3 x4 x5 x6 x7 x8 x9;generalize w2.heap.size = d at *;obtain ⟨x0, x1, x2, x3, x4, x5, x6, x7, x8, x9⟩ := sub_cells D3.out.box
  go_wp2_with fail
  refine (KH.out _ _ _ (by simp) D3.out.wr).mono ?_
  rintro e w5 ⟨rfl, ad5, hw5, hs5, hv5⟩;have D5 := kQ (D3.out.put hs5 hv5 hw5);have D5d : Hid (DR w q ca cc pa pc ea ec d ad5 (putB (typN q) 7 ++ wstB q.w) w5.drew) := D5.out.next dQ;clear hw5 hs5 hv5 D3 D5 KH x0 x1 x2 x3 x4 x5 x6 x7 x8 x9
  go_wp2_with fail
  refine wp_region_held_drew (S := fun wx => wx.heap[w.heap.size]? = some (.cells (subC q ca cc pa pc ea ec) 67 (0, 0))) (by kernel_rfl) D5d.out.box (fun hS => ?_)
  refine vQ 0 (.pointer (some ⟨d, 0, none⟩)) hS ?_;simp only [SL];refine uQ 1 (subV q ca cc pa pc ea ec) rfl hS (Or.inl ⟨by rfl, fun w hSw => by obtain ⟨x0, x1, x2, x3, x4, x5, x6, x7, x8, x9⟩ := sub_cells hSw; go_simp⟩) ?_
  simp only [SL];refine vQ 2 (.int .i64 v) hS ?_;simp only [SL];refine vQ 3 (.pointer (some ⟨w.heap.size, 2, none⟩)) hS ?_;simp only [SL];refine uQ 4 (.int .i64 q.w) rfl hS (Or.inl ⟨by rfl, fun w hSw => by obtain ⟨x0, x1, x2, x3, x4, x5, x6, x7, x8, x9⟩ := sub_cells hSw; go_simp⟩) ?_
  simp only [SL];refine uQ 5 (.int .i64 (v - q.w)) rfl hS (Or.inl ⟨by rfl, fun w hSw => by go_simp; rw [IntKind.wrap_i64]; omega⟩) ?_
  simp only [SL];refine vQ 6 (.slice lo l.length cap) hS ?_;simp only [SL];refine vQ 7 (.pointer (some ⟨w.heap.size, 2, none⟩)) hS ?_;simp only [SL];refine uQ 8 (.int .i64 q.w) rfl hS (Or.inl ⟨by rfl, fun w hSw => by obtain ⟨x0, x1, x2, x3, x4, x5, x6, x7, x8, x9⟩ := sub_cells hSw; go_simp⟩) ?_
  simp only [SL];refine wpAnyH_ready (rs := [9]) (by kernel_rfl) (by simp) ?_
  refine AllReadyH.cons rfl (fun K hK => ?_) AllReadyH.nil;go_simp;refine (KD.out _ D5d.out.low).mono ?_;rintro e w6 ⟨ga, gc, rfl, hmd⟩;have D6 := D5d.out.next hmd.below;obtain ⟨g6, rfl, hg6, hrow⟩ := hmd.at_;have kb := KB.out d w6 ad5 D6 g6 gc hmd.cap_ hmd.ints (apart_made hmd D5d.out.wr);clear hrow
 rotate_left 2
 all_goals
  refine hK.out _ _ D6.box (fun hS6 => ?_);clear hK K KB KD
  try simp only [SL]
  refine wpAnyH_ready (rs := [10]) (by kernel_rfl) (by simp) ?_
  refine AllReadyH.cons rfl (fun K hK => ?_) AllReadyH.nil;go_simp;refine kb.mono ?_;rintro e w7 ⟨rfl, ad7, hwr7, hst7, hmv7⟩
 ·have HL7 : Hid (Lo w w7) := D6.stay hst7
  have hS7 : w7.heap[w.heap.size]? = some (.cells (subC q ca cc pa pc ea ec) 67 (0, 0)) := D6.boxstay hst7;refine hK.out _ _ hS7 (fun hS8 => ?_);clear hK K kb hwr7 hst7 hmv7 D6 D5d hmd hg6
  try simp only [SL]
  refine vQ 11 (.bool true) hS8 ?_;simp only [SL];refine wpAnyH_done (by kernel_rfl) ?_ _
  go_wp2_with fail
  go_ret;exact ⟨rfl, HL7.out⟩
 ·have HW7 : Hid (DR w q ca cc pa pc ea ec d ad7 ((putB (typN q) 7 ++ wstB q.w) ++ bodyB q v (shrL l q.w.toNat)) w7) := D6.put hst7 hmv7 (hwr7 (by trivial))
  refine hK.out _ _ HW7.out.box (fun hS8 => ?_);clear hK K kb hwr7 hst7 hmv7 D6 D5d hmd hg6
  try simp only [SL]
  refine vQ 11 (.bool false) hS8 ?_;simp only [SL];refine wpAnyH_done (by kernel_rfl) ?_ _
  have kp := KP.out w7 d ad7 HW7.out.low HW7.out.wr;clear KP HD0
  go_wp2_with fail
  refine kp.mono ?_;rintro e w8 ⟨rfl, ao8, hw8, hs8, hv8⟩;have HF := kQ (HFIN.out w7 w8 ao8 HW7.out.low hw8 hs8 hv8);clear hw8 hs8 hv8 HW7 kp
  go_wp2_with fail
  go_ret;exact ⟨rfl, ao8, HF.out.1, HF.out.2.1, HF.out.2.2⟩
theorem Made.of_blk {w wx : World} {g : Nat} {cap : Nat} {L : List Int} (h : IntsBlk wx g L) (hg : w.heap.size <= g) (hb : Lo w wx) (hc : L.length <= cap) (hl : L.length <= 17592186044415) (hn : Rng L) : Made w (some ⟨g, 0, none⟩) cap L wx :=
 ⟨⟨g, rfl, hg, _, h, fun j hj => by
  rw [List.getElem?_toArray];unfold intsC;rw [List.getElem?_map, List.getElem?_eq_getElem hj, List.getD_eq_getElem?_getD, List.getElem?_eq_getElem hj]
  rfl⟩, hc, hl, hn, hb⟩
theorem intsC_rep (n : Nat) (c : Int) : intsC (List.replicate n c) = List.replicate n (.int .i64 c) := by simp [intsC]
theorem rep_copy (c : Int) (b n m g : Nat) (hm : m = Nat.min n (b - n)) (hn : n < b) (w wx : World) (hg : w.heap.size <= g) (hB : Lo w wx) (h : IntsBlk wx g (List.replicate n c ++ List.replicate (b - n) 0)) :
  ∃ w', (Builtin.copy_ #[56, 56] 3 #[.slice (some ⟨g, n, none⟩) (b - n) (b - n), .slice (some ⟨g, 0, none⟩) n b]).run Tryz.prog wx = .ok (goInt m) w' /\ IntsBlk w' g (List.replicate (n + m) c ++ List.replicate (b - (n + m)) 0) /\ Lo w w' := by
 have hs : (Tryz.prog.info? 3).map (·.size) = some 1 := by kernel_rfl
 have hmn : m <= n := by rw [hm]; exact Nat.min_le_left _ _
 have hmb : m <= b - n := by rw [hm]; exact Nat.min_le_right _ _
 have hsz : (intsC (List.replicate n c ++ List.replicate (b - n) 0)).toArray.size = b := by
  rw [List.size_toArray, intsC_length, List.length_append, List.length_replicate, List.length_replicate]; omega
 have hrun := run_copy_row (P := Tryz.prog) wx 56 56 3 3 g n (b - n) (b - n) ⟨g, 0, none⟩ n b _ 3 (List.replicate m (.int .i64 c)) undI3 hs h (by rw [List.length_replicate]; exact hm) (fun j v hj => by
  rw [List.getElem?_replicate] at hj
  split at hj
  ·cases hj
   rw [Addr.add_mid, Nat.zero_add, h.cell j (by rw [List.length_append, List.length_replicate]; omega), List.getD_eq_getElem?_getD, List.getElem?_append_left (by rw [List.length_replicate]; omega), List.getElem?_replicate, if_pos (by omega)]
   rfl
  ·cases hj) (by rw [List.length_replicate, hsz]; omega) (fun v hv => by rw [(List.mem_replicate.1 hv).2]; rfl)
 rw [List.length_replicate] at hrun
 refine ⟨_, hrun, ?_, ?_⟩
 ·have el : (intsC (List.replicate n c ++ List.replicate (b - n) 0)).take n ++ List.replicate m (Value.int .i64 c) ++ (intsC (List.replicate n c ++ List.replicate (b - n) 0)).drop (n + m) = intsC (List.replicate (n + m) c ++ List.replicate (b - (n + m)) 0) := by
   rw [intsC_append, intsC_append, intsC_rep, intsC_rep, intsC_rep, intsC_rep];rw [List.take_append_of_le_length (by rw [List.length_replicate]; omega), List.take_of_length_le (by rw [List.length_replicate]; omega), List.drop_append, List.drop_of_length_le (by rw [List.length_replicate]; omega), List.length_replicate, List.drop_replicate, List.replicate_append_replicate, List.nil_append, show b - n - (n + m - n) = b - (n + m) by omega]
  have h2 := setRow_heap wx g _ (intsC (List.replicate (n + m) c ++ List.replicate (b - (n + m)) 0)).toArray 3 (0, 0) h;unfold IntsBlk;rw [<- h2, <- el]
 ·exact ⟨hB.os, hB.tape, hB.output, by rw [size_setRow]; exact hB.size, fun k hk => by rw [setRow_other _ _ _ _ (by omega)]; exact hB.block k hk⟩
theorem one_copy (c : Int) (b : Nat) (hb : 1 <= b) (fa : OA) (fc : Nat) (w : World) (hf : IntsAt w fa [c]) :
  ∃ w', (Builtin.copy_ #[56, 56] 3 #[.slice (some ⟨w.heap.size, 0, none⟩) b b, .slice fa 1 fc]).run Tryz.prog (w.alloc (.cells (madeCells #[.int .i64 0] b) 3)) = .ok (goInt 1) w' /\ IntsBlk w' w.heap.size (List.replicate 1 c ++ List.replicate (b - 1) 0) /\ Lo w w' := by
 have hs : (Tryz.prog.info? 3).map (·.size) = some 1 := by kernel_rfl
 have hB : Lo w (w.alloc (.cells (madeCells #[.int .i64 0] b) 3)) := aQ
 have hW := hf.below hB
 have hg := heap_alloc_new w (.cells (madeCells #[.int .i64 0] b) 3)
 have hmc : madeCells #[.int .i64 0] b = (intsC (List.replicate b 0)).toArray := by
  rw [intsC_rep];apply Array.ext_getElem?;intro j
  have hr : (List.replicate b (Value.int .i64 0)).toArray[j]? = if j < b then some (Value.int .i64 0) else none := by
   rw [List.getElem?_toArray, List.getElem?_replicate]
  rw [hr];by_cases hj : j < b
  ·rw [if_pos hj]
   simp only [madeCells, Array.getElem?_map, Array.getElem?_range, hj, if_true, Option.map_some];have hs1 : (#[.int .i64 0] : Array Value).size = 1 := rfl;rw [hs1, Nat.mod_one];rfl
  ·rw [if_neg hj, Array.getElem?_eq_none (by rw [size_madeCells]; omega)]
 rw [hmc] at hg hB hW ⊢
 obtain ⟨b1, off, rfl⟩ := hW.addr (by simp)
 generalize w.alloc (.cells (intsC (List.replicate b 0)).toArray 3) = w1 at *
 have hrun := run_copy_row (P := Tryz.prog) w1 56 56 3 3 w.heap.size 0 b b ⟨b1, off, none⟩ 1 fc _ 3 (intsC [c]) undI3 hs hg (by rw [intsC_length]; show 1 = Nat.min 1 b; exact (Nat.min_eq_left hb).symm) (hW.news _ rfl) (by rw [intsC_length, List.size_toArray, intsC_length, List.length_replicate]; simp; omega) (intsC_one [c])
 rw [intsC_length] at hrun
 refine ⟨_, hrun, ?_, ?_⟩
 ·have el : (intsC (List.replicate b 0)).take 0 ++ intsC [c] ++ (intsC (List.replicate b 0)).drop (0 + [c].length) = intsC (List.replicate 1 c ++ List.replicate (b - 1) 0) := by
   rw [intsC_append, intsC_rep, intsC_rep, intsC_rep, List.take_zero, List.nil_append, List.drop_replicate];rfl
  have h2 := setRow_heap w1 w.heap.size _ (intsC (List.replicate 1 c ++ List.replicate (b - 1) 0)).toArray 3 (0, 0) hg;unfold IntsBlk;rw [<- h2, <- el]
 ·exact ⟨hB.os, hB.tape, hB.output, by rw [size_setRow]; exact hB.size, fun k hk => by rw [setRow_other _ _ _ _ (by omega)]; exact hB.block k hk⟩
theorem s_mul64 (b : Nat) (hb : b <= 65535) (w : World) : Calls Tryz.prog 221 #[.int .u64 1, .int .u64 (b : Int)] w fun e w' => e = .returned (.tuple #[.int .u64 0, .int .u64 (b : Int)]) /\ w' = w := by
 have hm := mask_u64 b 32 (by omega) (by decide)
 have hmm : IntKind.u64.wrap (IntKind.u64.wrap (2 ^ 32) - 1) = 4294967295 := by decide
 rw [hmm, show b % 2 ^ 32 = b from Nat.mod_eq_of_lt (by omega)] at hm
 have hm1 : bits BinOp.and IntKind.u64 1 4294967295 = 1 := by decide
 have hm0 : bits BinOp.and IntKind.u64 0 4294967295 = 0 := by decide
 have hs : (b : Int) / 4294967296 = 0 := Int.ediv_eq_zero_of_lt (by omega) (by omega)
 have hs2 : (b : Int) / 2 ^ 32 = 0 := hs
 go_enter Tryz.func221, Tryz.ntmps221
 go_wp2_with fail
 go_ret2
 exact ⟨rfl, rfl⟩
theorem s_mul (b : Nat) (hb : b <= 65535) (w : World) : Calls Tryz.prog 200 #[.int .u64 1, .int .u64 (b : Int)] w fun e w' => e = .returned (.tuple #[.int .u64 0, .int .u64 (b : Int)]) /\ w' = w := by
 have km := s_mul64 b hb w
 go_enter Tryz.func200, Tryz.ntmps200
 go_wp2_with fail
 refine km.mono ?_
 rintro e w2 ⟨rfl, hw2⟩
 subst hw2
 go_wp2_with fail
 go_ret2
 exact ⟨rfl, rfl⟩
theorem s_repeat (c : Int) (b : Nat) (hb1 : 1 <= b) (hb2 : b <= 65535) (fa : OA) (fc : Nat) (w : World) (hf : IntsAt w fa [c]) : Calls Tryz.prog 180 #[.slice fa 1 fc, .int .i64 (b : Int)] w fun e w' => ∃ ga gc, e = .returned (.slice ga (List.replicate b c).length gc) /\ Made w ga gc (List.replicate b c) w' := by
 have km := s_mul b hb2 w
 have hmk := make_ints b (by omega)
 obtain ⟨w2, hcp, hbk, hbl⟩ := one_copy c b hb1 fa fc w hf
 have HB2 : Hid (IntsBlk w2 w.heap.size (List.replicate 1 c ++ List.replicate (b - 1) 0) /\ Lo w w2) := ⟨hbk, hbl⟩
 have HRG : Hid (Rng (List.replicate b c)) := fun x hx => by rw [(List.mem_replicate.1 hx).2]; exact hf.num c (by simp)
 have hgi : goInt 1 = .int .i64 1 := rfl
 rw [List.length_replicate]
 clear hf hbk hbl
 go_enter Tryz.func180, Tryz.ntmps180
 go_wp2_with fail
 refine km.mono ?_
 rintro e w1 ⟨rfl, hw1⟩
 subst hw1
 clear km
 go_wp2_with fail
 clear hmk hcp
 go_loopw [8] (fun s8 wr => ∃ n : Nat, 1 <= n /\ n <= b /\ s8 = .int .i64 (n : Int) /\ IntsBlk wr w1.heap.size (List.replicate n c ++ List.replicate (b - n) 0) /\ Lo w1 wr) (fun s8 _ => b - (intOf s8).toNat)
 case atStart => exact ⟨1, Nat.le_refl _, hb1, rfl, HB2.out.1, HB2.out.2⟩
 case round =>
  clear HB2;obtain ⟨n, hn1, hn2, rfl, hbk, hbl⟩ := hrel;by_cases hlt : n < b
  ·obtain ⟨m, hm⟩ : ∃ m, m = Nat.min n (b - n) := ⟨_, rfl⟩
   have hmn : m <= n := by rw [hm]; exact Nat.min_le_left _ _
   have hmb : m <= b - n := by rw [hm]; exact Nat.min_le_right _ _
   have hm1 : 1 <= m := by rw [hm]; exact Nat.le_min.2 ⟨hn1, by omega⟩
   have hbd : Lo w1 wr.drew := hbl.trans dQ;obtain ⟨w3, hcp, hbk3, hbl3⟩ := rep_copy c b n m w1.heap.size hm hlt w1 wr.drew (Nat.le_refl _) hbd hbk;have HD := kQ hbd;have HW3 : Hid (IntsBlk w3 w1.heap.size (List.replicate (n + m) c ++ List.replicate (b - (n + m)) 0) /\ Lo w1 w3) := ⟨hbk3, hbl3⟩;have hgm : goInt m = .int .i64 (m : Int) := rfl;obtain ⟨nm, hnm⟩ : ∃ x, x = n + m := ⟨_, rfl⟩;have hsum : (n : Int) + (m : Int) = (nm : Int) := by omega
   have hne : ¬ b = n := by omega
   have hnb : (n : Int) <= (b : Int) := by omega
   have hbn : (b : Int) - (n : Int) = ((b - n : Nat) : Int) := by omega
   rw [<- hnm] at HW3;have hnmb : nm <= b := by omega
   have HNM : Hid (n < nm /\ nm <= b) := ⟨by omega, by omega⟩
   clear hbk hbl hbd hbk3 hbl3 hm hmn hmb hm1 hnm
   go_wp2_with fail
   refine wp_region_held_drew (S := fun wx => Lo w1 wx) (by kernel_rfl) (HD.out) (fun hS => ?_)
   refine vQ 0 (.int .i64 (n : Int)) hS ?_;simp only [SL];refine vQ 1 (.slice (some ⟨w1.heap.size, 0, none⟩) b b) hS ?_;simp only [SL];refine vQ 2 (.int .i64 (n : Int)) hS ?_;simp only [SL];refine vQ 3 (.slice (some ⟨w1.heap.size, n, none⟩) (b - n) (b - n)) hS ?_;simp only [SL];refine vQ 4 (.slice (some ⟨w1.heap.size, 0, none⟩) b b) hS ?_;simp only [SL];refine vQ 5 (.int .i64 (n : Int)) hS ?_;simp only [SL];refine vQ 6 (.slice (some ⟨w1.heap.size, 0, none⟩) n b) hS ?_;simp only [SL];refine wpAnyH_ready (rs := [7]) (by kernel_rfl) (by simp) ?_
   refine AllReadyH.cons rfl (fun K hK => ?_) AllReadyH.nil;go_simp;refine hK.out _ _ HW3.out.2 (fun hS3 => ?_);clear hK K
   try simp only [SL]
   refine uQ 8 (.int .i64 (nm : Int)) rfl hS3 (Or.inl ⟨by rfl, fun w hSw => by go_simp; rw [IntKind.wrap_i64]; omega⟩) ?_
   simp only [SL];refine vQ 9 (.int .i64 (nm : Int)) hS3 ?_;simp only [SL];refine wpAnyH_done (by kernel_rfl) ?_ _
   go_wp2_with fail
   go_roundw
   case rel => exact ⟨nm, by have := HNM.out; omega, HNM.out.2, rfl, HW3.out.1, HW3.out.2⟩
   case measure => have := HNM.out; simp [intOf]; omega
  ·have hnb : n = b := by omega
   subst hnb
   have HM : Hid (Made w1 (some ⟨w1.heap.size, 0, none⟩) n (List.replicate n c) wr) := by
    rw [Nat.sub_self, List.replicate_zero, List.append_nil] at hbk;exact Made.of_blk hbk (Nat.le_refl _) hbl (by rw [List.length_replicate]; exact Nat.le_refl _) (by rw [List.length_replicate]; omega) HRG.out
   clear hbk hbl
   go_wp2_with fail
   go_ret;exact ⟨_, _, rfl, HM.out⟩
theorem set10_a {wx : World} (n : Nat) (v0 v1 v2 v3 v4 v5 v6 v7 v8 v9 : Value) {a0 a1 a2 a3 a4 a5 a6 a7 a8 a9 : Value} {t : TypeId} (h : wx.heap[n]? = some (.cells #[a0, a1, a2, a3, a4, a5, a6, a7, a8, a9] t (0, 0))) : ((((((((((wx.setCell ⟨n, 0, none⟩ v0).setCell ⟨n, 1, none⟩ v1).setCell ⟨n, 2, none⟩ v2).setCell ⟨n, 3, none⟩ v3).setCell ⟨n, 4, none⟩ v4).setCell ⟨n, 5, none⟩ v5).setCell ⟨n, 6, none⟩ v6).setCell ⟨n, 7, none⟩ v7).setCell ⟨n, 8, none⟩ v8).setCell ⟨n, 9, none⟩ v9).heap[n]? = some (.cells #[v0, v1, v2, v3, v4, v5, v6, v7, v8, v9] t (0, 0)) := by
 rw [block_setCell _ _ _ _ _ _ (block_setCell _ _ _ _ _ _ (block_setCell _ _ _ _ _ _ (block_setCell _ _ _ _ _ _ (block_setCell _ _ _ _ _ _ (block_setCell _ _ _ _ _ _ (block_setCell _ _ _ _ _ _ (block_setCell _ _ _ _ _ _ (block_setCell _ _ _ _ _ _ (block_setCell _ _ _ _ _ _ h)))))))))]
 simp only [List.setIfInBounds_toArray, List.set_cons_zero, List.set_cons_succ]
theorem set10_c {wx : World} (n : Nat) (v0 v1 v2 v3 v4 v5 v6 v7 v8 v9 : Value) (w : World) (S : Nat -> Prop) (hn : S n ∨ w.heap.size <= n) (h : Stays S w wx) : Stays S w ((((((((((wx.setCell ⟨n, 0, none⟩ v0).setCell ⟨n, 1, none⟩ v1).setCell ⟨n, 2, none⟩ v2).setCell ⟨n, 3, none⟩ v3).setCell ⟨n, 4, none⟩ v4).setCell ⟨n, 5, none⟩ v5).setCell ⟨n, 6, none⟩ v6).setCell ⟨n, 7, none⟩ v7).setCell ⟨n, 8, none⟩ v8).setCell ⟨n, 9, none⟩ v9) :=
 (((((((((h.setCell _ _ hn).setCell _ _ hn).setCell _ _ hn).setCell _ _ hn).setCell _ _ hn).setCell _ _ hn).setCell _ _ hn).setCell _ _ hn).setCell _ _ hn).setCell _ _ hn
theorem set10_d {wx : World} (n : Nat) (v0 v1 v2 v3 v4 v5 v6 v7 v8 v9 : Value) (j : Nat) (h0 : j ≠ n) : ((((((((((wx.setCell ⟨n, 0, none⟩ v0).setCell ⟨n, 1, none⟩ v1).setCell ⟨n, 2, none⟩ v2).setCell ⟨n, 3, none⟩ v3).setCell ⟨n, 4, none⟩ v4).setCell ⟨n, 5, none⟩ v5).setCell ⟨n, 6, none⟩ v6).setCell ⟨n, 7, none⟩ v7).setCell ⟨n, 8, none⟩ v8).setCell ⟨n, 9, none⟩ v9).heap[j]? = wx.heap[j]? := by
 rw [Below.heap_setCell _ _ _ j h0, Below.heap_setCell _ _ _ j h0, Below.heap_setCell _ _ _ j h0, Below.heap_setCell _ _ _ j h0, Below.heap_setCell _ _ _ j h0, Below.heap_setCell _ _ _ j h0, Below.heap_setCell _ _ _ j h0, Below.heap_setCell _ _ _ j h0, Below.heap_setCell _ _ _ j h0, Below.heap_setCell _ _ _ j h0]
theorem row_frozen {w : World} {g : Nat} {cs : Array Value} {t : TypeId} (h : w.heap[g]? = some (.cells cs t (0, 0))) (i : Nat) : w.frozen? ⟨g, i, none⟩ = false := by simp [World.frozen?, h]
theorem info_Sub : (Tryz.prog.info? 67).map (·.size) = some 10 := by kernel_rfl
def OPost {α : Type} (R : Option α) (no : Prop) (yes : α -> Prop) : Prop := match R with
 | none => no
 | some x => yes x
theorem OPost.none_ {α : Type} {R : Option α} {no : Prop} {yes : α -> Prop} (h : R = none) (hn : no) : OPost R no yes := by rw [h]; exact hn
theorem OPost.some_ {α : Type} {R : Option α} {no : Prop} {yes : α -> Prop} {x : α} (h : R = some x) (hn : yes x) : OPost R no yes := by rw [h]; exact hn
theorem s_num (x : Nat) (s : ByteArray) (hs : s.size <= 1000000000000000000) (a : Nat) (ha : a <= 8 * s.size) (k : Int) (k0 : 0 <= k) (k1 : k <= 31) (w : World) (h : Rd w x s a) :
  Calls Tryz.prog 176 #[.pointer (some ⟨x, 0, none⟩), .int .i64 k] w fun en w' => en = .returned (.tuple #[.int .i64 (getV s a k), .bool (getE s a k == 0)]) /\ Rd w' x s (getA s a k) /\ Stays (only x) w w' := by
 have kg := get_all s hs a ha w x k h
 obtain ⟨v0, v1⟩ := getV_bound s a k
 have v2 : getV s a k <= 4294967296 := by
  have hp : (2 : Int) ^ k.toNat <= 2 ^ 31 := by
   have e1 : ((2 ^ k.toNat : Nat) : Int) = 2 ^ k.toNat := by simp
   have e2 : (2 : Nat) ^ k.toNat <= 2 ^ 31 := Nat.pow_le_pow_right (by decide) (by omega)
   have e3 : (2 : Nat) ^ 31 = 2147483648 := by decide
   rw [<- e1];have e4 : (2 : Int) ^ 31 = 2147483648 := by decide
   omega
  have e4 : (2 : Int) ^ 31 = 2147483648 := by decide
  omega
 clear v1
 generalize getV s a k = v at *
 generalize getE s a k = ev at *
 go_enter Tryz.func176, Tryz.ntmps176
 go_wp2_with fail
 refine kg.mono ?_
 rintro e w2 ⟨rfl, h2, h3⟩
 have HH : Hid (Rd w2 x s (getA s a k) /\ Stays (only x) w w2) := ⟨h2, h3⟩
 clear h2 h3 kg
 go_wp2_with fail
 go_ret2
 exact ⟨rfl, HH.out⟩
structure HDS (w : World) (x : Nat) (s : ByteArray) (a : Nat) (wx : World) : Prop where
 zb : wx.heap[w.heap.size]? = some (.cells (subC ⟨0, 0, 0, 0, 0, [], R0⟩ none 0 none 0 none 0) 67 (0, 0))
 rd : Rd wx x s a
 st : Stays (only x) w wx
 hx : x < w.heap.size
section
variable {w wx w' : World} {x : Nat} {s : ByteArray} {a a' : Nat}
theorem HDS.then_ (h : HDS w x s a wx) (hr : Rd w' x s a') (hS : Stays (only x) wx w') : HDS w x s a' w' :=
 ⟨by rw [hS.block _ (lt_of_block h.zb) (fun e => by have := h.hx; unfold only at e; omega)]; exact h.zb, hr, h.st.trans hS (fun _ _ h => h), h.hx⟩
theorem HDS.low (h : HDS w x s a wx) (hb : Lo wx w') : HDS w x s a w' :=
 ⟨by rw [hb.block _ (lt_of_block h.zb)]; exact h.zb, h.rd.below hb, h.st.trans (Stays.of_below hb (only x)) (fun _ _ h => h), h.hx⟩
end
theorem HDS.start {w : World} {x : Nat} {s : ByteArray} {a : Nat} (h : Rd w x s a) : HDS w x s a (w.alloc (.cells (subC ⟨0, 0, 0, 0, 0, [], R0⟩ none 0 none 0 none 0) 67)) := by
 have hb : Lo w (w.alloc (.cells (subC ⟨0, 0, 0, 0, 0, [], R0⟩ none 0 none 0 none 0) 67)) := aQ
 exact ⟨heap_alloc_new _ _, h.below hb, Stays.of_below hb _, lt_of_block h⟩
end Go.Proofs.YtfpfabmbipmipaaGreatDoor
