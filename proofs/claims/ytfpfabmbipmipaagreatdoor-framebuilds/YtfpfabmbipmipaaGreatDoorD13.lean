/- Own text. -/
import Derived.Test.YtfpfabmbipmipaaGreatDoorD12
set_option linter.unusedSimpArgs false
set_option linter.unusedVariables false
set_option maxRecDepth 20000
set_option maxHeartbeats 12800000
namespace Go.Proofs.YtfpfabmbipmipaaGreatDoor
open Go.RowKit
theorem rsame_same (c : Rc) (pa : OA) (pc : Nat) (ea : OA) (ec : Nat) (pb : OA) (pd : Nat) (eb : OA) (ed : Nat) (w : World) (hr : RcAt w c pa ea) (hq : RcAt w c pb eb) :
  Calls Tryz.prog 112 #[riceV c pa pc ea ec, riceV c pb pd eb ed] w fun e w' => e = .returned (.bool true) /\ Lo w w' := by
 have HR := kQ hr
 have HQ := kQ hq
 have hlP := hr.P.len
 have hlE := hr.E.len
 have HA0 : Hid (RB w c pa pc ea ec ((w.alloc (.cells (riceC c pa pc ea ec) 65)).alloc (.cells (riceC c pb pd eb ed) 65)) /\ ((w.alloc (.cells (riceC c pa pc ea ec) 65)).alloc (.cells (riceC c pb pd eb ed) 65)).heap[w.heap.size + 1]? = some (.cells (riceC c pb pd eb ed) 65 (0, 0))) := by
  refine ⟨(RB.new w c pa pc ea ec).next aQ, ?_⟩;have hh := heap_alloc_new (w.alloc (.cells (riceC c pa pc ea ec) 65)) (.cells (riceC c pb pd eb ed) 65);rw [show (w.alloc (.cells (riceC c pa pc ea ec) 65)).heap.size = w.heap.size + 1 from by simp] at hh
  exact hh
 clear hr hq
 go_enter Tryz.func112, Tryz.ntmps112
 go_wp2_with fail
 generalize World.alloc _ _ = wa at *
 go_loopw [5] (fun t wr => ∃ k : Nat, k <= c.P.length /\ t = .int .i64 (k : Int) /\ RB w c pa pc ea ec wr /\ wr.heap[w.heap.size + 1]? = some (.cells (riceC c pb pd eb ed) 65 (0, 0))) (fun t _ => c.P.length - (intOf t).toNat)
 case atStart => exact ⟨0, Nat.zero_le _, rfl, HA0.out⟩
 case round =>
  obtain ⟨k, hk, rfl, h1, h2⟩ := hrel;have HA : Hid (RB w c pa pc ea ec wr /\ wr.heap[w.heap.size + 1]? = some (.cells (riceC c pb pd eb ed) 65 (0, 0))) := ⟨h1, h2⟩;have x2 := h1.c2;have y2 : wr.cell? ⟨w.heap.size + 1, 2, none⟩ = some (.slice pb c.P.length pd) := by rw [cell_of_row _ _ _ _ _ _ h2]; rfl
  by_cases hlt : k < c.P.length
  ·obtain ⟨b1, o1, e1, q1⟩ := HR.out.P.at k hlt
   obtain ⟨b2, o2, e2, q2⟩ := HQ.out.P.at k hlt;have r1 := q1 wr h1.below;have r2 := q2 wr h1.below;rw [e1] at x2;rw [e2] at y2;clear q1 q2 e1 e2 h1 h2;generalize c.P.getD k 0 = x at *
   go_wp2_with fail
   go_quiet (fail)
   go_wp2_with fail
   go_roundw
   case rel => exact ⟨k + 1, by omega, by go_num, HA.out.1.drewN _, HA.out.2⟩
   case measure => simp [intOf]; omega
  ·clear h1 h2
   go_wp2_with fail
   clear HA0;have HA0 := HA;clear HA
   go_loopw [6] (fun t wr => ∃ k : Nat, k <= c.E.length /\ t = .int .i64 (k : Int) /\ RB w c pa pc ea ec wr /\ wr.heap[w.heap.size + 1]? = some (.cells (riceC c pb pd eb ed) 65 (0, 0))) (fun t _ => c.E.length - (intOf t).toNat)
   case atStart => exact ⟨0, Nat.zero_le _, rfl, HA0.out⟩
   case round =>
    obtain ⟨k, hk, rfl, h1, h2⟩ := hrel;have HA : Hid (RB w c pa pc ea ec wr /\ wr.heap[w.heap.size + 1]? = some (.cells (riceC c pb pd eb ed) 65 (0, 0))) := ⟨h1, h2⟩;have x3 := h1.c3;have y3 : wr.cell? ⟨w.heap.size + 1, 3, none⟩ = some (.slice eb c.E.length ed) := by rw [cell_of_row _ _ _ _ _ _ h2]; rfl
    by_cases hlt : k < c.E.length
    ·obtain ⟨b1, o1, e1, q1⟩ := HR.out.E.at k hlt
     obtain ⟨b2, o2, e2, q2⟩ := HQ.out.E.at k hlt;have r1 := q1 wr h1.below;have r2 := q2 wr h1.below;rw [e1] at x3;rw [e2] at y3;clear q1 q2 e1 e2 h1 h2;generalize c.E.getD k 0 = x at *
     go_wp2_with fail
     go_quiet (fail)
     go_wp2_with fail
     go_roundw
     case rel => exact ⟨k + 1, by omega, by go_num, HA.out.1.drewN _, HA.out.2⟩
     case measure => simp [intOf]; omega
    ·clear h1 h2
     go_wp2_with fail
     go_ret;exact ⟨rfl, HA.out.1.below⟩
theorem sub_same (q : Sb) (ca : OA) (cc : Nat) (pa : OA) (pc : Nat) (ea : OA) (ec : Nat) (cb : OA) (cd : Nat) (pb : OA) (pd : Nat) (eb : OA) (ed : Nat) (w : World) (hr : SbAt w q ca pa ea) (hq : SbAt w q cb pb eb) :
  Calls Tryz.prog 56 #[subV q ca cc pa pc ea ec, subV q cb cd pb pd eb ed] w fun e w' => e = .returned (.bool true) /\ Lo w w' := by
 have HA0 : Hid (((w.alloc (.cells (subC q ca cc pa pc ea ec) 67)).alloc (.cells (subC q cb cd pb pd eb ed) 67)).heap[w.heap.size]? = some (.cells (subC q ca cc pa pc ea ec) 67 (0, 0)) /\ ((w.alloc (.cells (subC q ca cc pa pc ea ec) 67)).alloc (.cells (subC q cb cd pb pd eb ed) 67)).heap[w.heap.size + 1]? = some (.cells (subC q cb cd pb pd eb ed) 67 (0, 0)) /\ Lo w ((w.alloc (.cells (subC q ca cc pa pc ea ec) 67)).alloc (.cells (subC q cb cd pb pd eb ed) 67))) := by
  refine ⟨heap_two _ _ _, ?_, aQ.alloc (by simp) _⟩
  have hh := heap_alloc_new (w.alloc (.cells (subC q ca cc pa pc ea ec) 67)) (.cells (subC q cb cd pb pd eb ed) 67);rw [show (w.alloc (.cells (subC q ca cc pa pc ea ec) 67)).heap.size = w.heap.size + 1 from by simp] at hh
  exact hh
 have KI : Hid (∀ wx, Lo w wx -> Calls Tryz.prog 55 #[.slice ca q.C.length cc, .slice cb q.C.length cd] wx fun e w' => e = .returned (.bool true) /\ ∃ n, w' = wx.drewN n) := fun wx hb => ints_same q.C ca cb cc cd wx (hr.C.below hb) (hq.C.below hb)
 have KR : Hid (∀ wx, Lo w wx -> G1 112 #[riceV q.R pa pc ea ec, riceV q.R pb pd eb ed] wx (.bool true)) := fun wx hb => rsame_same q.R pa pc ea ec pb pd eb ed wx (hr.R.below hb) (hq.R.below hb)
 clear hr hq
 go_enter Tryz.func56, Tryz.ntmps56
 go_upto_region 1 with fail
 generalize World.alloc _ _ = wa at *
 obtain ⟨x0, x1, x2, x3, x4, x5, x6, x7, x8, x9⟩ := sub_cells HA0.out.1
 obtain ⟨y0, y1, y2, y3, y4, y5, y6, y7, y8, y9⟩ := sub_cells HA0.out.2.1
 go_wp2_with fail
 refine (KI.out wa HA0.out.2.2).mono ?_
 rintro e w2 ⟨rfl, n2, hw2⟩
 have hb2 : Lo wa w2 := by rw [hw2]; exact below_drewN _ _
 have HB2 := kQ (HA0.out.2.2.trans (hb2.mono HA0.out.2.2.size))
 have h1 : w2.heap[w.heap.size]? = some (.cells (subC q ca cc pa pc ea ec) 67 (0, 0)) := by rw [hb2.block _ (lt_of_block HA0.out.1)]; exact HA0.out.1
 have h2 : w2.heap[w.heap.size + 1]? = some (.cells (subC q cb cd pb pd eb ed) 67 (0, 0)) := by rw [hb2.block _ (lt_of_block HA0.out.2.1)]; exact HA0.out.2.1
 clear x0 x1 x2 x3 x4 x5 x6 x7 x8 x9 y0 y1 y2 y3 y4 y5 y6 y7 y8 y9 hb2 hw2
 obtain ⟨x0, x1, x2, x3, x4, x5, x6, x7, x8, x9⟩ := sub_cells h1
 obtain ⟨y0, y1, y2, y3, y4, y5, y6, y7, y8, y9⟩ := sub_cells h2
 clear h1 h2
 go_wp2_with fail
 refine (KR.out w2 HB2.out).mono ?_
 rintro e w3 ⟨rfl, hb3⟩
 have HB3 := kQ (HB2.out.trans (hb3.mono HB2.out.size))
 clear hb3 x0 x1 x2 x3 x4 x5 x6 x7 x8 x9 y0 y1 y2 y3 y4 y5 y6 y7 y8 y9
 go_wp2_with fail
 go_ret
 exact ⟨rfl, HB3.out⟩
theorem xleft_spec (C l : List Int) (ca la : OA) (cc lc : Nat) (sh : Nat) (hsh : sh <= 31) (hCl : C.length <= l.length) (w : World) (hC : IntsAt w ca C) (hl : IntsAt w la l) :
  Calls Tryz.prog 126 #[.slice ca C.length cc, .int .i64 (sh : Int), .slice la l.length lc] w fun e w' => ∃ v, e = .returned v /\ Out w v (leftN C sh l (l.length - C.length)) w' := by
 obtain ⟨i3, h3a, h3b, h3c, h3d⟩ := int_info
 have h1 := hl.len
 have KF : Hid (∀ (a : Nat) wx, C.length <= a -> a <= l.length -> Lo w wx -> Calls Tryz.prog 167 #[.slice ca C.length cc, .int .i64 (sh : Int), .slice la l.length lc, .int .i64 (a : Int)] wx fun e w' => e = .returned (.int .i64 (foreN C sh l a)) /\ ∃ n, w' = wx.drewN n) := fun a wx g1 g2 hb => xfore_spec C l ca la cc lc sh a hsh g1 g2 wx (hC.below hb) (hl.below hb)
 have HL := kQ hl
 clear hC hl
 go_enter Tryz.func126, Tryz.ntmps126
 go_wp2_with fail
 go_loopw [7, 8] (fun s t wr => ∃ (i : Nat) (v : Value), C.length <= i /\ i <= l.length /\ t = .int .i64 (i : Int) /\ s = v /\ Out w v (leftN C sh l (i - C.length)) wr) (fun _ t _ => l.length - (intOf t).toNat)
 case atStart => exact ⟨C.length, _, Nat.le_refl _, hCl, rfl, rfl, by rw [Nat.sub_self]; exact Out.nil w⟩
 case round =>
  obtain ⟨i, v, hCi, hi, rfl, rfl, hout⟩ := hrel;obtain ⟨oa, oc, rfl⟩ := hout.shape;by_cases hlt : i < l.length
  ·obtain ⟨b1, o1, rfl, q1⟩ := HL.out.at i hlt
   have HN : Hid (leftN C sh l (i + 1 - C.length) = leftN C sh l (i - C.length) ++ [wrap64 (l.getD i 0 - foreN C sh l i)]) := by
    show _ = _;rw [show i + 1 - C.length = (i - C.length) + 1 by omega]
    show leftN C sh l (i - C.length) ++ [wrap64 (l.getD (C.length + (i - C.length)) 0 - foreN C sh l (C.length + (i - C.length)))] = _;rw [show C.length + (i - C.length) = i by omega]
   have hxl := leftN_len C sh l (i - C.length);have hx5 : (leftN C sh l (i - C.length)).length <= 17592186044415 := by omega
   clear hxl;generalize leftN C sh l (i - C.length) = xs at *;generalize l.getD i 0 = x at *;have HO := kQ hout;clear hout
   go_wp2_with fail
   refine wp_region_held_drew (S := fun wx => Lo w wx) (by kernel_rfl) (HO.out.drew.below) (fun hS => ?_)
   refine vQ 0 (.slice oa xs.length oc) hS ?_;simp only [SL];refine vQ 1 (.slice (some ⟨b1, o1, none⟩) l.length lc) hS ?_;simp only [SL];refine vQ 2 (.int .i64 (i : Int)) hS ?_;simp only [SL];refine vQ 3 (.pointer (some ⟨b1, o1 + i, none⟩)) hS ?_;simp only [SL];refine uQ 4 (.int .i64 x) rfl hS (Or.inl ⟨by rfl, fun w hSw => by have r1 := q1 w hSw; go_simp⟩) ?_
   simp only [SL];refine vQ 5 (.slice ca C.length cc) hS ?_;simp only [SL];refine vQ 6 (.int .i64 (sh : Int)) hS ?_;simp only [SL];refine vQ 7 (.slice (some ⟨b1, o1, none⟩) l.length lc) hS ?_;simp only [SL];refine vQ 8 (.int .i64 (i : Int)) hS ?_;simp only [SL];refine wpAnyH_ready (rs := [9]) (by kernel_rfl) (by simp) ?_
   refine AllReadyH.cons rfl (fun K hK => ?_) AllReadyH.nil;go_simp;refine (KF.out i _ hCi (by omega) hS).mono ?_
   rintro e w5 ⟨rfl, n5, rfl⟩;have HO5 : Hid (Out w (.slice oa xs.length oc) xs (wr.drew.drewN n5)) := HO.out.drew.low (below_drewN _ _);generalize wr.drew.drewN n5 = w5 at *;generalize foreN C sh l i = fo at *;refine hK.out _ _ (HO5.out.below) (fun hS9 => ?_);clear hK K;refine uQ 10 (.int .i64 (wrap64 (x - fo))) rfl hS9 (Or.inl ⟨by rfl, fun w hSw => by go_simp; exact wrap_is _⟩) ?_
   simp only [SL];refine wpAnyH_ready (rs := [11]) (by kernel_rfl) (by simp) ?_
   refine AllReadyH.cons rfl (fun K hK => ?_) AllReadyH.nil;go_simp;refine hK.out _ _ ((HO5.out.alloc _).below) (fun hSbA => ?_);clear hK K
   try simp only [SL]
   refine wpAnyH_ready (rs := [12]) (by kernel_rfl) (by simp) ?_
   refine AllReadyH.cons rfl (fun K hK => ?_) AllReadyH.nil;refine step_append_lies _ (by rfl) _ _ _ (by rfl) w.heap.size 3 i3 (.int .i64 0) 1 8 undI3 h3a h3b h3c h3d rfl (by decide) (.slice oa xs.length oc) xs.length (intsC xs) (by rfl) (HO5.out.alloc _).own ⟨w5.heap.size, 0, none⟩ 1 1 [.int .i64 (wrap64 (x - fo))] (by rfl) (by rfl) (World.news_of_block (cs := #[.int .i64 (wrap64 (x - fo))]) (t := 3) (fr := (0, 0)) (tmp_new w5 _)) (one_int _ _) (by decide) (by unfold maxLen; omega) (by omega) (HO5.out.alloc _).below.size _ rfl ?_
   intro gA cA wA ownA groA hatA hltA;have HPA : Hid (Out w (.slice (some ⟨gA, 0, none⟩) (xs.length + 1) cA) (xs ++ [(wrap64 (x - fo))]) wA) := (HO5.out.alloc _).push ownA groA;clear ownA groA hatA hltA;refine hK.out _ _ (HPA.out.below) (fun hSaA => ?_);clear hK K
   try simp only [SL]
   refine vQ 13 (.slice (some ⟨gA, 0, none⟩) (xs.length + 1) cA) hSaA ?_;simp only [SL];refine wpAnyH_done (by kernel_rfl) ?_ _
   go_wp2_with fail
   go_roundw
   case rel => exact ⟨i + 1, _, by omega, by omega, by go_num, rfl, by rw [HN.out]; exact HPA.out⟩
   case measure => simp [intOf]; omega
  ·have hie : i = l.length := by omega
   subst hie;have HO := kQ hout;clear hout
   go_wp2_with fail
   go_ret;exact ⟨_, rfl, HO.out⟩
theorem xweights_spec (o : Nat) (ho : o <= 4) (w : World) : Calls Tryz.prog 127 #[.int .i64 (o : Int)] w fun e w' => ∃ ca cc, e = .returned (.slice ca (wF o).length cc) /\ IntsAt w' ca (wF o) /\ Lo w w' := by
 rcases (show o = 0 ∨ o = 1 ∨ o = 2 ∨ o = 3 ∨ o = 4 by omega) with rfl | rfl | rfl | rfl | rfl
 ·go_enter Tryz.func127, Tryz.ntmps127
  go_wp2_with fail
  go_ret;exact ⟨none, 0, rfl, IntsAt.nil w, Below.refl _ _⟩
 focus
  have HI : Hid (IntsAt (w.alloc (.cells #[.int .i64 1] 3)) (some ⟨w.heap.size, 0, none⟩) (wF 1)) := ints_new w (wF 1) (by decide) (by decide)
  have HB : Hid (Lo w (w.alloc (.cells #[.int .i64 1] 3))) := aQ
 rotate_left
 focus
  have HI : Hid (IntsAt (w.alloc (.cells #[.int .i64 2, .int .i64 (-1)] 3)) (some ⟨w.heap.size, 0, none⟩) (wF 2)) := ints_new w (wF 2) (by decide) (by decide)
  have HB : Hid (Lo w (w.alloc (.cells #[.int .i64 2, .int .i64 (-1)] 3))) := aQ
 rotate_left
 focus
  have HI : Hid (IntsAt (w.alloc (.cells #[.int .i64 3, .int .i64 (-3), .int .i64 1] 3)) (some ⟨w.heap.size, 0, none⟩) (wF 3)) := ints_new w (wF 3) (by decide) (by decide)
  have HB : Hid (Lo w (w.alloc (.cells #[.int .i64 3, .int .i64 (-3), .int .i64 1] 3))) := aQ
 rotate_left
 focus
  have HI : Hid (IntsAt (w.alloc (.cells #[.int .i64 4, .int .i64 (-6), .int .i64 4, .int .i64 (-1)] 3)) (some ⟨w.heap.size, 0, none⟩) (wF 4)) := ints_new w (wF 4) (by decide) (by decide)
  have HB : Hid (Lo w (w.alloc (.cells #[.int .i64 4, .int .i64 (-6), .int .i64 4, .int .i64 (-1)] 3))) := aQ
 rotate_left
 all_goals
  go_enter Tryz.func127, Tryz.ntmps127
  go_wp2_with fail
  go_ret;exact ⟨_, _, rfl, HI.out, HB.out⟩
def fixR (o : Int) (l : List Int) : Option (List Int) := if 0 <= o /\ o <= 4 /\ o <= (l.length : Int) then some (leftN (wF o.toNat) 0 l (l.length - o.toNat)) else none
def mayB (C : List Int) (sh : Int) : Bool := decide (1 <= C.length) && decide (C.length <= 32) && decide (0 <= sh) && decide (sh <= 31)
def lpcR (C : List Int) (sh : Int) (l : List Int) : Option (List Int) := if mayB C sh = true /\ C.length <= l.length then some (leftN C sh.toNat l (l.length - C.length)) else none
theorem ret_none {R : Option (List Int)} (h : R = none) {w w' : World} {e : Ending} (he : e = .returned (.tuple #[.slice none 0 0, .int .i64 1])) (hb : Lo w w') : Ret2 R w e w' := by
 subst h; exact ⟨none, 0, he, IntsAt.nil w', hb⟩
theorem ret_some {R : Option (List Int)} {L : List Int} (h : R = some L) {w w' : World} {e : Ending} {la : OA} {lc : Nat} (he : e = .returned (.tuple #[.slice la L.length lc, .int .i64 0])) (hi : IntsAt w' la L) (hb : Lo w w') : Ret2 R w e w' := by
 subst h; exact ⟨la, lc, he, hi, hb⟩
theorem mayB_iff (C : List Int) (sh : Int) : mayB C sh = true ↔ 1 <= C.length /\ C.length <= 32 /\ 0 <= sh /\ sh <= 31 := by unfold mayB; simp [and_assoc]
theorem xfixed_spec (o : Int) (l : List Int) (la : OA) (lc : Nat) (w : World) (hl : IntsAt w la l) : Calls Tryz.prog 75 #[.int .i64 o, .slice la l.length lc] w (Ret2 (fixR o l) w) := by
 have h1 := hl.len
 by_cases h1 : o < 0
 rotate_left
 focus
  skip
  by_cases h2 : 4 < o;rotate_left
  focus
   skip
   by_cases h3 : (l.length : Int) < o;rotate_left
   ·skip
    obtain ⟨o', rfl⟩ : ∃ o' : Nat, o = (o' : Int) := ⟨o.toNat, by omega⟩
    have ho4 : o' <= 4 := by omega
    have hol : o' <= l.length := by omega
    have HR : Hid (fixR (o' : Int) l = some (leftN (wF o') 0 l (l.length - (wF o').length))) := by
     show _ = _;unfold fixR; rw [if_pos (by omega), wF_len o' ho4]; rfl
    have kw := xweights_spec o' ho4 w;have hwl := wF_len o' ho4;have HL := kQ hl;clear hl;go_enter Tryz.func75, Tryz.ntmps75
    go_wp2_with fail
    refine kw.mono ?_;rintro e w2 ⟨ca, cc, rfl, hc, hb2⟩;have kl := xleft_spec (wF o') l ca la cc lc 0 (by omega) (by omega) w2 hc (HL.out.below hb2)
    have HB2 := kQ hb2;have HLN : Hid ((leftN (wF o') 0 l (l.length - (wF o').length)).length <= 17592186044415 /\ ∀ n ∈ leftN (wF o') 0 l (l.length - (wF o').length), -9223372036854775808 <= n /\ n <= 9223372036854775807) := ⟨by rw [leftN_len]; omega, leftN_rng _ _ _ _⟩
    clear kw hb2 hc hwl;generalize leftN (wF o') 0 l (l.length - (wF o').length) = R at *
    go_wp2_with fail
    refine kl.mono ?_;rintro e w3 ⟨v, rfl, hout⟩;obtain ⟨ao, ac, rfl⟩ := hout.shape;have HI : Hid (IntsAt w3 ao R /\ Lo w w3) := ⟨hout.ints HLN.out.1 HLN.out.2, HB2.out.trans (hout.below.mono HB2.out.size)⟩;clear hout kl
    go_wp2_with fail
    go_ret2
    exact ret_some HR.out rfl HI.out.1 HI.out.2
  rotate_left
 rotate_left 2
 all_goals
  have HR : Hid (fixR o l = none) := by show _ = _; unfold fixR; rw [if_neg (by omega)]
  go_enter Tryz.func75, Tryz.ntmps75
  go_wp2_with fail
  go_ret2
  exact ret_none HR.out rfl (Below.refl _ _)
theorem xmay_spec (C : List Int) (sh : Int) (ca : OA) (cc : Nat) (w : World) (hC : IntsAt w ca C) : Calls Tryz.prog 128 #[.slice ca C.length cc, .int .i64 sh] w fun e w' => e = .returned (.bool (mayB C sh)) /\ w' = w := by
 have h1 := hC.len
 have HM : Hid (mayB C sh = (decide (1 <= C.length) && decide (C.length <= 32) && decide (0 <= sh) && decide (sh <= 31))) := rfl
 clear hC
 by_cases g1 : ¬ 1 <= C.length
 rotate_left
 focus
  skip
  by_cases g2 : ¬ C.length <= 32;rotate_left
  focus
   skip
   by_cases g3 : ¬ 0 <= sh;rotate_left
   focus
    skip
    by_cases g4 : ¬ sh <= 31;rotate_left
    ·skip
     have hF : mayB C sh = true := by rw [mayB_iff]; omega
     rw [hF];clear HM hF;go_enter Tryz.func128, Tryz.ntmps128
     go_wp2_with fail
     go_ret;exact ⟨rfl, rfl⟩
   rotate_left
  rotate_left 2
 rotate_left 3
 all_goals
  have hF : mayB C sh = false := by
   cases h : mayB C sh with
   | false => rfl
   | true => rw [mayB_iff] at h; omega
  rw [hF];clear HM hF;go_enter Tryz.func128, Tryz.ntmps128
  go_wp2_with fail
  go_ret;exact ⟨rfl, rfl⟩
theorem xlpc_spec (C l : List Int) (sh : Int) (ca la : OA) (cc lc : Nat) (w : World) (hC : IntsAt w ca C) (hl : IntsAt w la l) : Calls Tryz.prog 76 #[.slice ca C.length cc, .int .i64 sh, .slice la l.length lc] w (Ret2 (lpcR C sh l) w) := by
 have km := xmay_spec C sh ca cc w hC
 have h1 := hC.len
 have h2 := hl.len
 have HC := kQ hC
 have HL := kQ hl
 clear hC hl
 cases hm : mayB C sh with
 | false =>
  have HR : Hid (lpcR C sh l = none) := by show _ = _; unfold lpcR; rw [hm, if_neg (fun h => by cases h.1)]
  rw [hm] at km;clear hm;go_enter Tryz.func76, Tryz.ntmps76
  go_wp2_with fail
  refine km.mono ?_;rintro e w2 ⟨rfl, rfl⟩
  go_wp2_with fail
  go_ret2
  exact ret_none HR.out rfl (Below.refl _ _)
 | true =>
  obtain ⟨m1, m2, m3, m4⟩ := (mayB_iff C sh).1 hm;obtain ⟨s', rfl⟩ : ∃ s' : Nat, sh = (s' : Int) := ⟨sh.toNat, by omega⟩
  have hs31 : s' <= 31 := by omega
  by_cases hk : C.length <= l.length
  ·have hk2 : (C.length : Int) <= (l.length : Int) := by omega
   have HR : Hid (lpcR C (s' : Int) l = some (leftN C s' l (l.length - C.length))) := by show _ = _; unfold lpcR; rw [hm, if_pos ⟨rfl, hk⟩]; rfl
   rw [hm] at km;clear hm;go_enter Tryz.func76, Tryz.ntmps76
   go_wp2_with fail
   refine km.mono ?_;rintro e w2 ⟨rfl, rfl⟩;have kl := xleft_spec C l ca la cc lc s' hs31 hk w2 HC.out HL.out;have HLN : Hid ((leftN C s' l (l.length - C.length)).length <= 17592186044415 /\ ∀ n ∈ leftN C s' l (l.length - C.length), -9223372036854775808 <= n /\ n <= 9223372036854775807) := ⟨by rw [leftN_len]; omega, leftN_rng _ _ _ _⟩
   generalize leftN C s' l (l.length - C.length) = R at *;clear km
   go_wp2_with fail
   refine kl.mono ?_;rintro e w3 ⟨v, rfl, hout⟩;obtain ⟨ao, ac, rfl⟩ := hout.shape;have HI : Hid (IntsAt w3 ao R /\ Lo w2 w3) := ⟨hout.ints HLN.out.1 HLN.out.2, hout.below⟩;clear hout kl
   go_wp2_with fail
   go_ret2
   exact ret_some HR.out rfl HI.out.1 HI.out.2
  ·have HR : Hid (lpcR C (s' : Int) l = none) := by show _ = _; unfold lpcR; rw [if_neg (fun h => hk h.2)]
   have hk2 : (l.length : Int) < (C.length : Int) := by omega
   rw [hm] at km;clear hm;go_enter Tryz.func76, Tryz.ntmps76
   go_wp2_with fail
   refine km.mono ?_;rintro e w2 ⟨rfl, rfl⟩
   go_wp2_with fail
   go_ret2
   exact ret_none HR.out rfl (Below.refl _ _)
theorem make_ints (n : Nat) (hn : n <= 17592186044415) (w : World) : (Instr.makeSlice 56 (.int .i64 (n : Int)) (.int .i64 (n : Int))).run Tryz.prog w = .ok (.slice (some ⟨w.heap.size, 0, none⟩) n n) (w.alloc (.cells (madeCells #[.int .i64 0] n) 3)) := by
 obtain ⟨i, h1, h2, h3, h4⟩ := int_info
 have hh := run_make (P := Tryz.prog) w 56 3 i _ undI3 h1 h2 .i64 .i64 (n : Int) (n : Int) (by omega) (Int.le_refl _) (by rw [h4]; omega) (by omega)
 rw [h3] at hh
 simpa [Value.cells] using hh
structure Fill (w : World) (g : Nat) (L : List Int) (i : Nat) (wx : World) : Prop where
 row : ∃ cs : Array Value, wx.heap[g]? = some (.cells cs 3 (0, 0)) /\ ∀ j, j < L.length -> cs[j]? = some (.int .i64 (if j < i then L.getD j 0 else 0))
 below : Lo w wx
 le : w.heap.size <= g
section
variable {w wx w' : World} {g : Nat} {L : List Int} {i : Nat}
theorem Fill.made (w wx : World) (hb : Lo w wx) (L : List Int) : Fill w wx.heap.size L 0 (wx.alloc (.cells (madeCells #[.int .i64 0] L.length) 3)) := by
 refine ⟨⟨_, heap_alloc_new _ _, fun j hj => ?_⟩, hb.alloc hb.size _, hb.size⟩
 rw [if_neg (Nat.not_lt_zero _)]
 simp only [madeCells, Array.getElem?_map, Array.getElem?_range, hj, if_true, Option.map_some]
 have hs : (#[.int .i64 0] : Array Value).size = 1 := rfl
 rw [hs, Nat.mod_one]
 rfl
theorem Fill.low (h : Fill w g L i wx) (hb : Lo wx w') : Fill w g L i w' := by
 obtain ⟨cs, h1, h2⟩ := h.row
 exact ⟨⟨cs, by rw [hb.block _ (lt_of_block h1)]; exact h1, h2⟩, h.below.trans (hb.mono h.below.size), h.le⟩
theorem Fill.drew (h : Fill w g L i wx) : Fill w g L i wx.drew := h.low dQ
theorem Fill.cell (h : Fill w g L i wx) (j : Nat) (hj : j < L.length) : wx.cell? ⟨g, j, none⟩ = some (.int .i64 (if j < i then L.getD j 0 else 0)) := by
 obtain ⟨cs, h1, h2⟩ := h.row
 rw [cell_row h1]; exact h2 j hj
theorem Fill.frozen (h : Fill w g L i wx) (j : Nat) : wx.frozen? ⟨g, j, none⟩ = false := by
 obtain ⟨cs, h1, _⟩ := h.row
 simp [World.frozen?, h1]
theorem Fill.set (h : Fill w g L i wx) (hi : i < L.length) : Fill w g L (i + 1) (wx.setCell ⟨g, i, none⟩ (.int .i64 (L.getD i 0))) := by
 obtain ⟨cs, h1, h2⟩ := h.row
 refine ⟨⟨cs.setIfInBounds i (.int .i64 (L.getD i 0)), heap_setCell_same _ _ _ _ _ _ h1, fun j hj => ?_⟩, h.below.setCell h.le _, h.le⟩
 rw [Array.getElem?_setIfInBounds]
 by_cases e : i = j
 ·subst e
  have hlt : i < cs.size := by
   rcases Nat.lt_or_ge i cs.size with h3 | h3
   ·exact h3
   ·have := h2 i hi; rw [Array.getElem?_eq_none h3] at this; cases this
  rw [if_pos rfl, if_pos hlt, if_pos (by omega)]
 ·rw [if_neg e, h2 j hj]
  by_cases e2 : j < i
  ·rw [if_pos e2, if_pos (by omega)]
  ·rw [if_neg e2, if_neg (by omega)]
theorem Fill.other (h : Fill w g L i wx) (p : Addr) (u : Value) (hp : p.block ≠ g) (hl : w.heap.size <= p.block) : Fill w g L i (wx.setCell p u) := by
 obtain ⟨cs, h1, h2⟩ := h.row
 exact ⟨⟨cs, by rw [Below.heap_setCell wx p u g (fun e => hp e.symm)]; exact h1, h2⟩, h.below.setCell hl _, h.le⟩
theorem Fill.ints (h : Fill w g L L.length wx) (hl : L.length <= 17592186044415) (hn : Rng L) : IntsAt wx (some ⟨g, 0, none⟩) L :=
 ⟨hl, hn, fun _ => ⟨g, 0, rfl, fun j hj => by rw [Nat.zero_add, h.cell j hj, if_pos hj]⟩⟩
end
theorem getD_shr (l : List Int) (k j : Nat) : (shrL l k).getD j 0 = l.getD j 0 / 2 ^ k := by
 unfold shrL
 rw [List.getD_eq_getElem?_getD, List.getD_eq_getElem?_getD, List.getElem?_map]
 cases l[j]? with
 | none => simp
 | some x => rfl
theorem getD_shl (l : List Int) (k j : Nat) : (shlL l k).getD j 0 = wrap64 (l.getD j 0 * 2 ^ k) := by
 unfold shlL
 rw [List.getD_eq_getElem?_getD, List.getD_eq_getElem?_getD, List.getElem?_map]
 cases l[j]? with
 | none => simp [wrap64]
 | some x => rfl
theorem foreS_part (C l : List Int) (i n k : Nat) (hk : k <= n) : foreS C ((l.drop i).take n) n k = foreS C l (i + n) k := by
 induction k with
 | zero => rfl
 | succ k ih =>
  unfold foreS;rw [ih (by omega), getD_part l i n (n - 1 - k) (by omega), show i + (n - 1 - k) = i + n - 1 - k by omega]
theorem foreN_part (C : List Int) (sh : Nat) (l : List Int) (i : Nat) : foreN C sh ((l.drop i).take C.length) C.length = foreN C sh l (i + C.length) := by
 unfold foreN; rw [foreS_part C l i C.length C.length (Nat.le_refl _)]
def shB (k : Int) : Bool := decide (0 <= k) && decide (k <= 31)
theorem shB_iff (k : Int) : shB k = true ↔ 0 <= k /\ k <= 31 := by unfold shB; simp
theorem mayB_sh (C : List Int) (sh : Int) (h1 : 1 <= C.length) (h2 : C.length <= 32) : mayB C sh = shB sh := by
 unfold mayB shB; simp [h1, h2]
theorem qsh_spec (k : Int) (w : World) : Calls Tryz.prog 228 #[.int .i64 k] w fun e w' => e = .returned (.bool (shB k)) /\ w' = w := by
 by_cases g1 : ¬ 0 <= k
 rotate_left
 focus
  skip
  by_cases g2 : ¬ k <= 31;rotate_left
  ·skip
   have hF : shB k = true := by rw [shB_iff]; omega
   rw [hF];clear hF;go_enter Tryz.func228, Tryz.ntmps228
   go_wp2_with fail
   go_ret;exact ⟨rfl, rfl⟩
 rotate_left
 all_goals
  have hF : shB k = false := by
   cases h : shB k with
   | false => rfl
   | true => rw [shB_iff] at h; omega
  rw [hF];clear hF;go_enter Tryz.func228, Tryz.ntmps228
  go_wp2_with fail
  go_ret;exact ⟨rfl, rfl⟩
theorem qmay_spec (C : List Int) (sh : Int) (ca : OA) (cc : Nat) (w : World) (hC : IntsAt w ca C) : Calls Tryz.prog 207 #[.slice ca C.length cc, .int .i64 sh] w fun e w' => e = .returned (.bool (mayB C sh)) /\ w' = w := by
 have h1 := hC.len
 clear hC
 by_cases g1 : ¬ 1 <= C.length
 rotate_left
 focus
  skip
  by_cases g2 : ¬ C.length <= 32;rotate_left
  ·skip
   rw [mayB_sh C sh (by omega) (by omega)]
   have ks := qsh_spec sh w;generalize shB sh = bb at *;go_enter Tryz.func207, Tryz.ntmps207
   go_wp2_with fail
   refine ks.mono ?_;rintro e w2 ⟨rfl, hw2⟩;subst hw2;clear ks
   go_wp2_with fail
   go_ret;exact ⟨rfl, rfl⟩
 rotate_left
 all_goals
  have hF : mayB C sh = false := by
   cases h : mayB C sh with
   | false => rfl
   | true => rw [mayB_iff] at h; omega
  rw [hF];clear hF;go_enter Tryz.func207, Tryz.ntmps207
  go_wp2_with fail
  go_ret;exact ⟨rfl, rfl⟩
theorem qcoefs_spec (o : Nat) (ho : o <= 4) (w : World) : Calls Tryz.prog 206 #[.int .i64 (o : Int)] w fun e w' => ∃ ca cc, e = .returned (.slice ca (wF o).length cc) /\ IntsAt w' ca (wF o) /\ Lo w w' := by
 rcases (show o = 0 ∨ o = 1 ∨ o = 2 ∨ o = 3 ∨ o = 4 by omega) with rfl | rfl | rfl | rfl | rfl
 ·go_enter Tryz.func206, Tryz.ntmps206
  go_wp2_with fail
  go_ret;exact ⟨none, 0, rfl, IntsAt.nil w, Below.refl _ _⟩
 focus
  have HI : Hid (IntsAt (w.alloc (.cells #[.int .i64 1] 3)) (some ⟨w.heap.size, 0, none⟩) (wF 1)) := ints_new w (wF 1) (by decide) (by decide)
  have HB : Hid (Lo w (w.alloc (.cells #[.int .i64 1] 3))) := aQ
 rotate_left
 focus
  have HI : Hid (IntsAt (w.alloc (.cells #[.int .i64 2, .int .i64 (-1)] 3)) (some ⟨w.heap.size, 0, none⟩) (wF 2)) := ints_new w (wF 2) (by decide) (by decide)
  have HB : Hid (Lo w (w.alloc (.cells #[.int .i64 2, .int .i64 (-1)] 3))) := aQ
 rotate_left
 focus
  have HI : Hid (IntsAt (w.alloc (.cells #[.int .i64 3, .int .i64 (-3), .int .i64 1] 3)) (some ⟨w.heap.size, 0, none⟩) (wF 3)) := ints_new w (wF 3) (by decide) (by decide)
  have HB : Hid (Lo w (w.alloc (.cells #[.int .i64 3, .int .i64 (-3), .int .i64 1] 3))) := aQ
 rotate_left
 focus
  have HI : Hid (IntsAt (w.alloc (.cells #[.int .i64 4, .int .i64 (-6), .int .i64 4, .int .i64 (-1)] 3)) (some ⟨w.heap.size, 0, none⟩) (wF 4)) := ints_new w (wF 4) (by decide) (by decide)
  have HB : Hid (Lo w (w.alloc (.cells #[.int .i64 4, .int .i64 (-6), .int .i64 4, .int .i64 (-1)] 3))) := aQ
 rotate_left
 all_goals
  go_enter Tryz.func206, Tryz.ntmps206
  go_wp2_with fail
  go_ret;exact ⟨_, _, rfl, HI.out, HB.out⟩
structure Lin (b : Nat) (C : List Int) (ca : OA) (cc sh : Nat) (w : World) : Prop where
 cf : w.cell? ⟨b, 0, none⟩ = some (.slice ca C.length cc)
 sh : w.cell? ⟨b + 1, 0, none⟩ = some (.int .i64 (sh : Int))
 ints : IntsAt w ca C
theorem Lin.below {b : Nat} {C : List Int} {ca : OA} {cc sh : Nat} {w w' : World} (h : Lin b C ca cc sh w) (hb : Lo w w') : Lin b C ca cc sh w' :=
 ⟨by rw [World.cell?_of_block (w := w) (hb.block b (lt_cell h.cf))]; exact h.cf, by rw [World.cell?_of_block (w := w) (hb.block (b + 1) (lt_cell h.sh))]; exact h.sh, h.ints.below hb⟩
abbrev linV (b : Nat) : Value := .func (.func 227) #[] #[.pointer (some ⟨b, 0, none⟩), .pointer (some ⟨b + 1, 0, none⟩)]
theorem qlinear_spec (C : List Int) (ca : OA) (cc sh : Nat) (w : World) (hC : IntsAt w ca C) : Calls Tryz.prog 205 #[.slice ca C.length cc, .int .i64 (sh : Int)] w fun e w' => ∃ b, e = .returned (linV b) /\ Lin b C ca cc sh w' /\ Lo w w' := by
 have HB : Hid (Lo w ((w.alloc (.cells #[.slice ca C.length cc] 56)).alloc (.cells #[.int .i64 (sh : Int)] 3))) := aQ.alloc (by simp) _
 have HL : Hid (Lin w.heap.size C ca cc sh ((w.alloc (.cells #[.slice ca C.length cc] 56)).alloc (.cells #[.int .i64 (sh : Int)] 3))) := by
  refine ⟨?_, ?_, hC.below HB.out⟩
  ·rw [cell_row (heap_two _ _ _)]; rfl
  ·have hh := heap_alloc_new (w.alloc (.cells #[.slice ca C.length cc] 56)) (.cells #[.int .i64 (sh : Int)] 3)
   rw [show (w.alloc (.cells #[.slice ca C.length cc] 56)).heap.size = w.heap.size + 1 from by simp] at hh
   rw [cell_row hh]; rfl
 clear hC
 go_enter Tryz.func205, Tryz.ntmps205
 go_wp2_with fail
 go_ret
 exact ⟨_, rfl, HL.out, HB.out⟩
theorem qclos_spec (C past : List Int) (ca pa : OA) (cc pc : Nat) (sh b : Nat) (hsh : sh <= 31) (hCp : C.length <= past.length) (w : World) (hL : Lin b C ca cc sh w) (hp : IntsAt w pa past) :
  Calls Tryz.prog 227 (#[.slice pa past.length pc] ++ #[.pointer (some ⟨b, 0, none⟩), .pointer (some ⟨b + 1, 0, none⟩)]) w fun e w' => e = .returned (.int .i64 (foreN C sh past past.length)) /\ w' = w := by
 have h1 := hp.len
 have h2 := hL.ints.len
 have c1 := hL.cf
 have c2 := hL.sh
 have HC := kQ hL.ints
 have HP := kQ hp
 have HF : Hid (foreN C sh past past.length = foreS C past past.length C.length / 2 ^ sh) := rfl
 clear hL hp
 go_enter Tryz.func227, Tryz.ntmps227
 go_wp2_with fail
 go_loopw [5, 6, 7, 10] (fun s s6 s7 t wr => ∃ k : Nat, k <= C.length /\ t = .int .i64 (k : Int) /\ s = .int .i64 (foreS C past past.length k) /\ wr = w) (fun _ _ _ t _ => C.length - (intOf t).toNat)
 case atStart => exact ⟨0, Nat.zero_le _, rfl, rfl, rfl⟩
 case round =>
  obtain ⟨k, hk, rfl, rfl, rfl⟩ := hrel;have hfr := foreS_rng C past past.length k;by_cases hlt : k < C.length
  ·obtain ⟨b1, o1, rfl, q1⟩ := HC.out.at k hlt
   obtain ⟨b2, o2, rfl, q2⟩ := HP.out.at (past.length - 1 - k) (by omega)
   have r1 := q1 wr (Below.refl _ _);have r2 := q2 wr (Below.refl _ _);have HN : Hid (foreS C past past.length (k + 1) = wrap64 (foreS C past past.length k + wrap64 (C.getD k 0 * past.getD (past.length - 1 - k) 0))) := rfl;have hix : (past.length : Int) - 1 - (k : Int) = ((past.length - 1 - k : Nat) : Int) := by omega
   have hil : past.length - 1 - k < past.length := by omega
   clear q1 q2;generalize C.getD k 0 = x at *;generalize past.getD (past.length - 1 - k) 0 = y at *;generalize past.length - 1 - k = ix at *;generalize foreS C past past.length k = su at *
   go_wp2_with fail
   go_roundw
   case rel => exact ⟨k + 1, by omega, by go_num, by rw [HN.out], trivial⟩
   case measure => simp [intOf]; omega
  ·have hke : k = C.length := by omega
   subst hke;generalize foreS C past past.length C.length = su at *;have hs2 : (sh : Int) <= 31 := by omega
   go_wp2_with fail
   go_ret;exact ⟨by rw [HF.out]; rfl, rfl⟩
structure Made (w : World) (ao : OA) (cap : Nat) (L : List Int) (wx : World) : Prop where
 at_ : ∃ g, ao = some ⟨g, 0, none⟩ /\ w.heap.size <= g /\ ∃ cs : Array Value, wx.heap[g]? = some (.cells cs 3 (0, 0)) /\ ∀ j, j < L.length -> cs[j]? = some (.int .i64 (L.getD j 0))
 cap_ : L.length <= cap
 len : L.length <= 17592186044415
 num : Rng L
 below : Lo w wx
section
variable {w wx w' w0 : World} {ao : OA} {cap : Nat} {L : List Int}
theorem Made.ints (h : Made w ao cap L wx) : IntsAt wx ao L := by
 obtain ⟨g, rfl, _, cs, h1, h2⟩ := h.at_
 exact ⟨h.len, h.num, fun _ => ⟨g, 0, rfl, fun j hj => by rw [cell_row h1, Nat.zero_add]; exact h2 j hj⟩⟩
theorem Made.up (h : Made w ao cap L wx) (hb : Lo w0 w) : Made w0 ao cap L wx := by
 obtain ⟨g, h0, h1, h2⟩ := h.at_
 exact ⟨⟨g, h0, Nat.le_trans hb.size h1, h2⟩, h.cap_, h.len, h.num, hb.trans (h.below.mono hb.size)⟩
theorem Made.none_ (h : Made w ao cap L wx) : ao = none -> cap = 0 := fun e => by
 obtain ⟨g, h0, _⟩ := h.at_
 rw [e] at h0; cases h0
theorem Made.of_fill {g : Nat} (h : Fill w g L L.length wx) (hc : L.length <= cap) (hl : L.length <= 17592186044415) (hn : Rng L) : Made w (some ⟨g, 0, none⟩) cap L wx := by
 obtain ⟨cs, h1, h2⟩ := h.row
 exact ⟨⟨g, rfl, h.le, cs, h1, fun j hj => by rw [h2 j hj, if_pos hj]⟩, hc, hl, hn, h.below⟩
end
def RetM (R : Option (List Int)) (w : World) (e : Ending) (w' : World) : Prop := match R with
 | none => e = .returned (.tuple #[.slice none 0 0, .int .i64 1]) /\ Lo w w'
 | some L => ∃ la lc, e = .returned (.tuple #[.slice la L.length lc, .int .i64 0]) /\ Made w la lc L w'
theorem retM_none {R : Option (List Int)} (h : R = none) {w w' : World} {e : Ending} (he : e = .returned (.tuple #[.slice none 0 0, .int .i64 1])) (hb : Lo w w') : RetM R w e w' := by
 subst h; exact ⟨he, hb⟩
theorem retM_some {R : Option (List Int)} {L : List Int} (h : R = some L) {w w' : World} {e : Ending} {la : OA} {lc : Nat} (he : e = .returned (.tuple #[.slice la L.length lc, .int .i64 0])) (hi : Made w la lc L w') : RetM R w e w' := by
 subst h; exact ⟨la, lc, he, hi⟩
end Go.Proofs.YtfpfabmbipmipaaGreatDoor
