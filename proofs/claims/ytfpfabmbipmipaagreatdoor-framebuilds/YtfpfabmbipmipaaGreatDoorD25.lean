/- Own text. -/
import Derived.Test.YtfpfabmbipmipaaGreatDoorD24
import Derived.Test.YtfpfabmbipmipaaGreatDoorD19
set_option linter.unusedSimpArgs false
set_option linter.unusedVariables false
set_option maxRecDepth 20000
set_option maxHeartbeats 12800000
namespace Go.Proofs.YtfpfabmbipmipaaGreatDoor
open Go.RowKit
theorem xchk_k3 (q : Sb) (ca : OA) (cc : Nat) (pa : OA) (pc : Nat) (ea : OA) (ec : Nat) (b v : Int) (hr : ((1 <= b /\ b <= 65535) /\ (1 <= v /\ v <= 33) /\ 0 <= q.w /\ q.w < v)) (hk : q.k = 3) (r : Int) (HYES : Hid ((1 <= q.o /\ q.o <= 32 /\ q.o <= b /\ 1 <= q.p /\ q.p <= 15 /\ 0 <= q.h /\ q.h <= 15 /\ (q.C.length : Int) = q.o /\ (∀ x ∈ q.C, sigE x q.p = 0) /\ chkOk q.R b q.o) -> r = 0)) (HNO : Hid (¬ (1 <= q.o /\ q.o <= 32 /\ q.o <= b /\ 1 <= q.p /\ q.p <= 15 /\ 0 <= q.h /\ q.h <= 15 /\ (q.C.length : Int) = q.o /\ (∀ x ∈ q.C, sigE x q.p = 0) /\ chkOk q.R b q.o) -> r = 60)) (b8 : Bool) (HB8 : Hid (b8 = true ↔ bareOk q)) (w : World) (hq : SbAt w q ca pa ea) : Calls Tryz.prog 40 #[subV q ca cc pa pc ea ec, .int .i64 b, .int .i64 v] w fun e w' => e = .returned (.int .i64 r) /\ Lo w w' := by
 have HQ := kQ hq
 have hCl := hq.C.len
 have HR : Hid (∀ wx, Lo w wx -> RcAt wx q.R pa ea) := fun wx h => hq.R.below h
 have KZ : Hid (∀ wx, Lo w wx -> ∀ bb : Bool, (bb = true ↔ q.R = R0) -> G1 92 #[riceV q.R pa pc ea ec] wx (.bool bb)) := fun wx _ bb hbb => xzero10 q.R hq.R.P.len hq.R.E.len pa pc ea ec bb hbb wx
 have KC : Hid (∀ wx, Lo w wx -> G1 93 #[riceV q.R pa pc ea ec, .int .i64 b, .int .i64 q.o] wx (.int .i64 (chkN q.R b q.o))) := fun wx h => xcheck_spec q.R b q.o pa pc ea ec wx (hq.R.below h)
 clear hq
 obtain ⟨⟨hb1, hb2⟩, ⟨hv1, hv2⟩, hw0, hw1⟩ := hr
 have hk0 : (q.k == 0) = false := eQf (by omega)
 have hk1 : (q.k == 1) = false := eQf (by omega)
 have hk2 : (q.k == 2) = false := eQf (by omega)
 have hk3 : (q.k == 3) = true := eQt (by omega)
 clear hk
 have HA : Hid (SX w q ca cc pa pc ea ec (w.alloc (.cells (subC q ca cc pa pc ea ec) 67))) := SX.new w q ca cc pa pc ea ec
 go_enter Tryz.func40, Tryz.ntmps40
 go_upto_region 1 with fail
 generalize World.alloc _ _ = wa at *
 obtain ⟨x0, x1, x2, x3, x4, x5, x6, x7, x8, x9⟩ := sub_cells HA.out.box
 go_upto_region 4 with fail
 go_cut [8] from 35 to 48 (fun s8 wx => s8 = .bool b8 /\ wx = wa)
 case first =>
  by_cases g0 : ¬ q.p = 0
  ·have HV : Hid (b8 = false) := bb_no HB8.out (fun h => g0 h.1)
   have hb0 : (q.p == 0) = false := eQf (by omega)
   go_wp2_with fail
   go_meet
   exact ⟨by rw [HV.out], rfl⟩
  ·skip
   by_cases g1 : ¬ q.h = 0
   ·have HV : Hid (b8 = false) := bb_no HB8.out (fun h => g1 h.2.1)
    have hb0 : (q.p == 0) = true := eQt (by omega)
    have hb1 : (q.h == 0) = false := eQf (by omega)
    go_wp2_with fail
    go_meet
    exact ⟨by rw [HV.out], rfl⟩
   ·skip
    by_cases g2 : ¬ q.C.length = 0
    ·have HV : Hid (b8 = false) := bb_no HB8.out (fun h => g2 (by rw [h.2.2]; rfl))
     have hb0 : (q.p == 0) = true := eQt (by omega)
     have hb1 : (q.h == 0) = true := eQt (by omega)
     have hb2 : ((q.C.length : Int) == 0) = false := eQf (by omega)
     go_wp2_with fail
     go_meet
     exact ⟨by rw [HV.out], rfl⟩
    ·skip
     have HV : Hid (b8 = true) := bb_yes HB8.out (⟨by omega, by omega, List.eq_nil_of_length_eq_zero (by omega)⟩)
     have hb0 : (q.p == 0) = true := eQt (by omega)
     have hb1 : (q.h == 0) = true := eQt (by omega)
     have hb2 : ((q.C.length : Int) == 0) = true := eQt (by omega)
     go_wp2_with fail
     go_meet
     exact ⟨by rw [HV.out], rfl⟩
 case rest =>
  obtain ⟨rfl, rfl⟩ := hcut;by_cases g0 : q.o < 1
  focus
   have HN := kQ g0
  rotate_left
  focus
   skip
   by_cases g1 : 32 < q.o
   focus
    have HN := kQ g1
   rotate_left
   focus
    skip
    by_cases g2 : b < q.o
    focus
     have HN := kQ g2
    rotate_left
    focus
     skip
     by_cases g3 : q.p < 1
     focus
      have HN := kQ g3
     rotate_left
     focus
      skip
      by_cases g4 : 15 < q.p
      focus
       have HN := kQ g4
      rotate_left
      focus
       skip
       by_cases g5 : q.h < 0
       focus
        have HN := kQ g5
       rotate_left
       focus
        skip
        by_cases g6 : 15 < q.h
        focus
         have HN := kQ g6
        rotate_left
        ·skip
         by_cases g7 : ¬ (q.C.length : Int) = q.o
         ·have hbl : ((q.C.length : Int) == q.o) = false := by rw [beq_eq_false_iff_ne]; exact g7
          have HN := kQ g7;clear g7
          go_wp2_with fail
          go_loopw [7, 9] (fun s7 s9 wr => s7 = .bool false /\ s9 = .int .i64 0 /\ SX w q ca cc pa pc ea ec wr) (fun _ _ _ => 0)
          case atStart => exact ⟨rfl, rfl, HA.out⟩
          case round =>
           clear HA x0 x1 x2 x3 x4 x5 x6 x7 x8 x9;obtain ⟨rfl, rfl, hsx⟩ := hrel;have HS := kQ hsx;obtain ⟨x0, x1, x2, x3, x4, x5, x6, x7, x8, x9⟩ := sub_cells hsx.box;clear hsx;by_cases hlt : 0 < q.C.length
           all_goals
            go_wp2_with fail
            go_ret;exact ⟨by rw [HNO.out (fun h => by have h2 := HN.out; obtain ⟨a1, a2, a3, a4, a5, a6, a7, a8, _, _⟩ := h; exact h2 a8)]; rfl, HS.out.below⟩
         ·skip
          by_cases g8 : ¬ chkOk q.R b q.o
          ·have hbl : ((q.C.length : Int) == q.o) = true := by rw [beq_iff_eq]; exact Classical.not_not.1 g7
           clear g7;have kc := KC.out _ HA.out.below;rw [chk_no g8] at kc;have HZ := kQ g8;clear g8
           go_wp2_with fail
           refine kc.mono ?_;rintro e w2 ⟨rfl, hb⟩;have HA2 := kQ (HA.out.next hb);clear hb x0 x1 x2 x3 x4 x5 x6 x7 x8 x9 HA;obtain ⟨x0, x1, x2, x3, x4, x5, x6, x7, x8, x9⟩ := sub_cells HA2.out.box
           go_wp2_with fail
           go_loopw [7, 9] (fun s7 s9 wr => s7 = .bool false /\ s9 = .int .i64 0 /\ SX w q ca cc pa pc ea ec wr) (fun _ _ _ => 0)
           case atStart => exact ⟨rfl, rfl, HA2.out⟩
           case round =>
            clear HA2 x0 x1 x2 x3 x4 x5 x6 x7 x8 x9;obtain ⟨rfl, rfl, hsx⟩ := hrel;have HS := kQ hsx;obtain ⟨x0, x1, x2, x3, x4, x5, x6, x7, x8, x9⟩ := sub_cells hsx.box;clear hsx;by_cases hlt : 0 < q.C.length
            all_goals
             go_wp2_with fail
             go_ret;exact ⟨by rw [HNO.out (fun h => by have h2 := HZ.out; obtain ⟨a1, a2, a3, a4, a5, a6, a7, a8, _, a10⟩ := h; exact h2 a10)]; rfl, HS.out.below⟩
          ·skip
           have hbl : ((q.C.length : Int) == q.o) = true := by rw [beq_iff_eq]; exact Classical.not_not.1 g7
           have HO : Hid (1 <= q.o /\ q.o <= 32 /\ q.o <= b /\ 1 <= q.p /\ q.p <= 15 /\ 0 <= q.h /\ q.h <= 15 /\ (q.C.length : Int) = q.o) := ⟨by omega, by omega, by omega, by omega, by omega, by omega, by omega, by omega⟩
           have g9 := Classical.not_not.1 g8;clear g7 g8;have kc := KC.out _ HA.out.below;rw [chk_yes g9] at kc;have HZ := kQ g9;clear g9
           go_wp2_with fail
           refine kc.mono ?_;rintro e w2 ⟨rfl, hb⟩;have HA2 := kQ (HA.out.next hb);clear hb x0 x1 x2 x3 x4 x5 x6 x7 x8 x9 HA;obtain ⟨x0, x1, x2, x3, x4, x5, x6, x7, x8, x9⟩ := sub_cells HA2.out.box
           have KF : Hid (∀ (j : Nat) wx, j < q.C.length -> G0 27 #[.int .i64 (q.C.getD j 0), .int .i64 q.p] wx (.bool (decide (sigE (q.C.getD j 0) q.p = 0)))) := fun j wx hj => by
            have hn := HQ.out.C.num _ (getD_mem q.C j hj);have h1 := HO.out.2.2.2.1;have h2 := HO.out.2.2.2.2.1;have e : ((q.p.toNat : Nat) : Int) = q.p := by omega
            have k := fits_in (q.C.getD j 0) hn.1 hn.2 q.p.toNat (by omega) (by omega) wx
            rw [e] at k;refine k.mono fun en w' hh => ⟨by rw [hh.1]; congr 2; exact decide_eq_decide.2 ⟨fun h => (sigE_iff _ _).2 ⟨h1, by omega, h.1, h.2⟩, fun h => ((sigE_iff _ _).1 h).2.2⟩, hh.2⟩
           go_wp2_with fail
           go_loopw [7, 9] (fun s7 s9 wr => ∃ (i : Nat) (ok : Bool), i <= q.C.length /\ s9 = .int .i64 (i : Int) /\ s7 = .bool ok /\ (ok = true ↔ ∀ j, j < i -> sigE (q.C.getD j 0) q.p = 0) /\ SX w q ca cc pa pc ea ec wr) (fun _ s9 _ => q.C.length - (intOf s9).toNat)
           case atStart => exact ⟨0, true, Nat.zero_le _, rfl, rfl, ⟨fun _ j hj => absurd hj (Nat.not_lt_zero _), fun _ => rfl⟩, HA2.out⟩
           case round =>
            clear HA2 x0 x1 x2 x3 x4 x5 x6 x7 x8 x9;obtain ⟨i, ok, hi, rfl, rfl, hok, hsx⟩ := hrel;have HS := kQ hsx;have HOK := kQ hok;obtain ⟨x0, x1, x2, x3, x4, x5, x6, x7, x8, x9⟩ := sub_cells hsx.box;clear hok hsx
            cases hbo : ok with
            | false =>
             have HN : Hid (¬ ∀ x ∈ q.C, sigE x q.p = 0) := fun h => by
              have := HOK.out.2 (fun j hj => h _ (getD_mem q.C j (by omega)))
              rw [hbo] at this; cases this
             clear hbo;by_cases hlt : i < q.C.length
             ·skip
              go_wp2_with fail
              go_ret;exact ⟨by rw [HNO.out (fun h => by have h2 := HN.out; obtain ⟨a1, a2, a3, a4, a5, a6, a7, a8, a9, _⟩ := h; exact h2 a9)]; rfl, HS.out.below⟩
             ·skip
              go_wp2_with fail
              go_ret;exact ⟨by rw [HNO.out (fun h => by have h2 := HN.out; obtain ⟨a1, a2, a3, a4, a5, a6, a7, a8, a9, _⟩ := h; exact h2 a9)]; rfl, HS.out.below⟩
            | true =>
             have HT := kQ (HOK.out.1 hbo);clear hbo HOK;by_cases hlt : i < q.C.length
             ·obtain ⟨bc, oc, e1⟩ := HQ.out.C.addr (by omega)
              subst e1
              have HCL : Hid (∀ wx, Hid (SX w q (some ⟨bc, oc, none⟩) cc pa pc ea ec wx) -> wx.cell? ⟨w.heap.size, 5, none⟩ = some (.slice (some ⟨bc, oc, none⟩) q.C.length cc) /\ wx.cell? ⟨w.heap.size, 3, none⟩ = some (.int .i64 q.p) /\ wx.cell? ⟨bc, oc + i, none⟩ = some (.int .i64 (q.C.getD i 0))) := fun wx hx => by
               obtain ⟨x0, x1, x2, x3, x4, x5, x6, x7, x8, x9⟩ := sub_cells hx.out.box;exact ⟨x5, x3, (HQ.out.C.below hx.out.below).get i hlt⟩
              have HD : Hid (SX w q (some ⟨bc, oc, none⟩) cc pa pc ea ec wr.drew) := HS.out.next dQ;have kf := fun wx => KF.out i wx hlt
              have HNX : Hid (decide (sigE (q.C.getD i 0) q.p = 0) = true ↔ ∀ j, j < i + 1 -> sigE (q.C.getD j 0) q.p = 0) := by
               rw [Hid, decide_eq_true_iff];refine ⟨fun h j hj => ?_, fun h => h i (by omega)⟩
               by_cases e : j = i
               ·rw [e]; exact h
               ·exact HT.out j (by omega)
              generalize decide (sigE (q.C.getD i 0) q.p = 0) = ok2 at *;generalize q.C.getD i 0 = cv at *
              go_wp2_with fail
              clear x0 x1 x2 x3 x4 x5 x6 x7 x8 x9 HS
              go_region_held3 (fun wx => wx.cell? ⟨w.heap.size, 5, none⟩ = some (.slice (some ⟨bc, oc, none⟩) q.C.length cc) /\ wx.cell? ⟨w.heap.size, 3, none⟩ = some (.int .i64 q.p) /\ wx.cell? ⟨bc, oc + i, none⟩ = some (.int .i64 cv)) (exact HCL.out _ (by assumption))
               ((go_at_call 27; refine (kf _).mono ?_; rintro e w8 ⟨rfl, hw8⟩; subst hw8))
              go_wp2_with fail
              go_roundw
              case rel => exact ⟨i + 1, ok2, by omega, by go_num, rfl, HNX.out, HD.out⟩
              case measure => simp [intOf]; omega
             ·have HAL : Hid (∀ x ∈ q.C, sigE x q.p = 0) := fun x hx => by
               obtain ⟨j, hj, e⟩ := List.getElem_of_mem hx;have h := HT.out j (by omega)
               rw [List.getD_eq_getElem?_getD, List.getElem?_eq_getElem hj] at h;rw [<- e]; exact h
              go_wp2_with fail
              go_ret;exact ⟨by rw [HYES.out (⟨HO.out.1, HO.out.2.1, HO.out.2.2.1, HO.out.2.2.2.1, HO.out.2.2.2.2.1, HO.out.2.2.2.2.2.1, HO.out.2.2.2.2.2.2.1, HO.out.2.2.2.2.2.2.2, HAL.out, HZ.out⟩)]; rfl, HS.out.below⟩
       rotate_left
      rotate_left 2
     rotate_left 3
    rotate_left 4
   rotate_left 5
  rotate_left 6
  all_goals
   go_wp2_with fail
   go_loopw [7, 9] (fun s7 s9 wr => s7 = .bool false /\ s9 = .int .i64 0 /\ SX w q ca cc pa pc ea ec wr) (fun _ _ _ => 0)
   case atStart => exact ⟨rfl, rfl, HA.out⟩
   case round =>
    clear HA x0 x1 x2 x3 x4 x5 x6 x7 x8 x9;obtain ⟨rfl, rfl, hsx⟩ := hrel;have HS := kQ hsx;obtain ⟨x0, x1, x2, x3, x4, x5, x6, x7, x8, x9⟩ := sub_cells hsx.box;clear hsx;by_cases hlt : 0 < q.C.length
    all_goals
     go_wp2_with fail
     go_ret;exact ⟨by rw [HNO.out (fun h => by have h2 := HN.out; obtain ⟨a1, a2, a3, a4, a5, a6, a7, _, _, _⟩ := h; omega)]; rfl, HS.out.below⟩
theorem xchk_k9 (q : Sb) (ca : OA) (cc : Nat) (pa : OA) (pc : Nat) (ea : OA) (ec : Nat) (b v : Int) (hr : ((1 <= b /\ b <= 65535) /\ (1 <= v /\ v <= 33) /\ 0 <= q.w /\ q.w < v)) (hk : ¬ q.k = 0 /\ ¬ q.k = 1 /\ ¬ q.k = 2 /\ ¬ q.k = 3) (b8 : Bool) (HB8 : Hid (b8 = true ↔ bareOk q)) (w : World) (hq : SbAt w q ca pa ea) : Calls Tryz.prog 40 #[subV q ca cc pa pc ea ec, .int .i64 b, .int .i64 v] w fun e w' => e = .returned (.int .i64 60) /\ Lo w w' := by
 clear hq
 obtain ⟨⟨hb1, hb2⟩, ⟨hv1, hv2⟩, hw0, hw1⟩ := hr
 obtain ⟨e0, e1, e2, e3⟩ := hk
 have hk0 : (q.k == 0) = false := eQf (by omega)
 have hk1 : (q.k == 1) = false := eQf (by omega)
 have hk2 : (q.k == 2) = false := eQf (by omega)
 have hk3 : (q.k == 3) = false := eQf (by omega)
 have HA : Hid (SX w q ca cc pa pc ea ec (w.alloc (.cells (subC q ca cc pa pc ea ec) 67))) := SX.new w q ca cc pa pc ea ec
 go_enter Tryz.func40, Tryz.ntmps40
 go_upto_region 1 with fail
 generalize World.alloc _ _ = wa at *
 obtain ⟨x0, x1, x2, x3, x4, x5, x6, x7, x8, x9⟩ := sub_cells HA.out.box
 go_upto_region 4 with fail
 go_cut [8] from 35 to 48 (fun s8 wx => s8 = .bool b8 /\ wx = wa)
 case first =>
  by_cases g0 : ¬ q.p = 0
  ·have HV : Hid (b8 = false) := bb_no HB8.out (fun h => g0 h.1)
   have hb0 : (q.p == 0) = false := eQf (by omega)
   go_wp2_with fail
   go_meet
   exact ⟨by rw [HV.out], rfl⟩
  ·skip
   by_cases g1 : ¬ q.h = 0
   ·have HV : Hid (b8 = false) := bb_no HB8.out (fun h => g1 h.2.1)
    have hb0 : (q.p == 0) = true := eQt (by omega)
    have hb1 : (q.h == 0) = false := eQf (by omega)
    go_wp2_with fail
    go_meet
    exact ⟨by rw [HV.out], rfl⟩
   ·skip
    by_cases g2 : ¬ q.C.length = 0
    ·have HV : Hid (b8 = false) := bb_no HB8.out (fun h => g2 (by rw [h.2.2]; rfl))
     have hb0 : (q.p == 0) = true := eQt (by omega)
     have hb1 : (q.h == 0) = true := eQt (by omega)
     have hb2 : ((q.C.length : Int) == 0) = false := eQf (by omega)
     go_wp2_with fail
     go_meet
     exact ⟨by rw [HV.out], rfl⟩
    ·skip
     have HV : Hid (b8 = true) := bb_yes HB8.out (⟨by omega, by omega, List.eq_nil_of_length_eq_zero (by omega)⟩)
     have hb0 : (q.p == 0) = true := eQt (by omega)
     have hb1 : (q.h == 0) = true := eQt (by omega)
     have hb2 : ((q.C.length : Int) == 0) = true := eQt (by omega)
     go_wp2_with fail
     go_meet
     exact ⟨by rw [HV.out], rfl⟩
 case rest =>
  obtain ⟨rfl, rfl⟩ := hcut
  go_wp2_with fail
  go_ret;exact ⟨rfl, HA.out.below⟩
theorem xchk10 (q : Sb) (ca : OA) (cc : Nat) (pa : OA) (pc : Nat) (ea : OA) (ec : Nat) (b v r : Int) (hyes : subOk q b v -> r = 0) (hno : ¬ subOk q b v -> r = 60) (w : World) (hq : SbAt w q ca pa ea) : Calls Tryz.prog 40 #[subV q ca cc pa pc ea ec, .int .i64 b, .int .i64 v] w fun e w' => e = .returned (.int .i64 r) /\ Lo w w' := by
 by_cases hr : ((1 <= b /\ b <= 65535) /\ (1 <= v /\ v <= 33) /\ 0 <= q.w /\ q.w < v)
 case neg =>
  rw [hno (fun h => hr ⟨h.1, h.2.1, h.2.2.1⟩)];exact xchk_rng q ca cc pa pc ea ec b v hr w hq
 obtain ⟨b8, hb8⟩ : ∃ b8 : Bool, b8 = true ↔ bareOk q := ⟨decide (bareOk q), decide_eq_true_iff⟩
 by_cases k0 : q.k = 0
 ·exact xchk_k0 q ca cc pa pc ea ec b v hr k0 r (fun h => hyes ⟨hr.1, hr.2.1, hr.2.2, .inl ⟨.inl k0, h.1, h.2⟩⟩) (fun h => hno (fun g => h (by
   rcases g.2.2.2 with g | g | g
   ·exact ⟨g.2.1, g.2.2⟩
   ·have := g.1; omega
   ·have := g.1; omega))) b8 hb8 w hq
 by_cases k1 : q.k = 1
 ·exact xchk_k1 q ca cc pa pc ea ec b v hr k1 r (fun h => hyes ⟨hr.1, hr.2.1, hr.2.2, .inl ⟨.inr k1, h.1, h.2⟩⟩) (fun h => hno (fun g => h (by
   rcases g.2.2.2 with g | g | g
   ·exact ⟨g.2.1, g.2.2⟩
   ·have := g.1; omega
   ·have := g.1; omega))) b8 hb8 w hq
 by_cases k2 : q.k = 2
 ·exact xchk_k2 q ca cc pa pc ea ec b v hr k2 r (fun h => hyes ⟨hr.1, hr.2.1, hr.2.2, .inr (.inl ⟨k2, h⟩)⟩) (fun h => hno (fun g => h (by
   rcases g.2.2.2 with g | g | g
   ·have := g.1; omega
   ·exact g.2
   ·have := g.1; omega))) b8 hb8 w hq
 by_cases k3 : q.k = 3
 ·exact xchk_k3 q ca cc pa pc ea ec b v hr k3 r (fun h => hyes ⟨hr.1, hr.2.1, hr.2.2, .inr (.inr ⟨k3, h⟩)⟩) (fun h => hno (fun g => h (by
   rcases g.2.2.2 with g | g | g
   ·have := g.1; omega
   ·have := g.1; omega
   ·exact g.2))) b8 hb8 w hq
 rw [hno (fun g => by
   rcases g.2.2.2 with g | g | g
   ·have := g.1; omega
   ·have := g.1; omega
   ·have := g.1; omega)]
 exact xchk_k9 q ca cc pa pc ea ec b v hr ⟨k0, k1, k2, k3⟩ b8 hb8 w hq
def shfR (l : List Int) (k : Int) : Option (List Int) := if (0 <= k /\ k <= 31) /\ dvB l k.toNat = true then some (shrL l k.toNat) else none
theorem map_next (f : Int -> Int) (l : List Int) (i : Nat) (h : i < l.length) : (l.take (i + 1)).map f = (l.take i).map f ++ [f (l.getD i 0)] := by
 rw [<- take_next l i h, List.map_append]; rfl
theorem shrL_rng (l : List Int) (k : Nat) (h : Rng l) : Rng (shrL l k) := by
 intro x hx
 obtain ⟨n, hn, rfl⟩ := List.mem_map.1 hx
 exact shr_rng n k (h n hn)
theorem xshift_spec (l : List Int) (k : Int) (la : OA) (lc : Nat) (w : World) (hl : IntsAt w la l) : Calls Tryz.prog 73 #[.slice la l.length lc, .int .i64 k] w (Ret2 (shfR l k) w) := by
 obtain ⟨i3, h3a, h3b, h3c, h3d⟩ := int_info
 have hln := hl.len
 by_cases h1 : k < 0
 rotate_left
 focus
  skip
  by_cases h2 : 31 < k;rotate_left
  ·skip
   obtain ⟨k', rfl⟩ : ∃ k' : Nat, k = (k' : Int) := ⟨k.toNat, by omega⟩
   have hk31 : k' <= 31 := by omega
   have kd := xdiv_spec l k' hk31 la lc w hl;have HL := kQ hl;clear hl
   cases hd : dvB l k' with
   | false =>
    have HR : Hid (shfR l (k' : Int) = none) := by show _ = _; unfold shfR; rw [if_neg (fun h => by have h2 := h.2; rw [Int.toNat_natCast, hd] at h2; cases h2)]
    rw [hd] at kd;clear hd;go_enter Tryz.func73, Tryz.ntmps73
    go_wp2_with fail
    refine kd.mono ?_;rintro e w2 ⟨rfl, rfl⟩
    go_wp2_with fail
    go_ret2
    exact ret_none HR.out rfl (Below.refl _ _)
   | true =>
    have HR : Hid (shfR l (k' : Int) = some (shrL l k')) := by show _ = _; unfold shfR; rw [if_pos ⟨by omega, by rw [Int.toNat_natCast]; exact hd⟩]; rfl
    rw [hd] at kd;clear hd;go_enter Tryz.func73, Tryz.ntmps73
    go_wp2_with fail
    refine kd.mono ?_;rintro e w2 ⟨rfl, hw2⟩;subst hw2;clear kd;obtain ⟨w, hww⟩ : ∃ w, w = w2 := ⟨_, rfl⟩;subst hww
    go_wp2_with fail
    go_loopw [6, 7] (fun s t wr => ∃ (i : Nat) (v : Value), i <= l.length /\ t = .int .i64 (i : Int) /\ s = v /\ Out w v ((l.take i).map (fun n => n / 2 ^ k')) wr) (fun _ t _ => l.length - (intOf t).toNat)
    case atStart => exact ⟨0, _, Nat.zero_le _, rfl, rfl, Out.nil w⟩
    case round =>
     obtain ⟨i, v, hi, rfl, rfl, hout⟩ := hrel;obtain ⟨oa, oc, rfl⟩ := hout.shape;by_cases hlt : i < l.length
     ·obtain ⟨b1, o1, rfl, q1⟩ := HL.out.at i hlt
      have r1 := q1 wr hout.below;clear q1;have HN : Hid ((l.take (i + 1)).map (fun n => n / 2 ^ k') = (l.take i).map (fun n => n / 2 ^ k') ++ [(fun n => n / 2 ^ k') (l.getD i 0)]) := map_next _ l i hlt;have hx5 : ((l.take i).map (fun n => n / 2 ^ k')).length <= 17592186044415 := by rw [List.length_map, List.length_take]; omega
      have hxr := HL.out.rng i;generalize (l.take i).map (fun n => n / 2 ^ k') = xs at *;generalize l.getD i 0 = x at *;have HO := kQ hout;clear hout
      go_wp2_with (at_builtin; refine wpList_append_lies _ rfl (.tmp 26) (.tmp 34) 56 rfl w.heap.size 3 i3 (.int .i64 0) 1 8 undI3 h3a h3b h3c h3d rfl (by decide) (.slice oa xs.length oc) xs.length (intsC xs) rfl (HO.out.alloc _).own ⟨wr.heap.size, 0, none⟩ 1 1 [.int .i64 (x / 2 ^ k')] rfl rfl (World.news_of_block (cs := #[.int .i64 (x / 2 ^ k')]) (t := 3) (fr := (0, 0)) (tmp_new wr _)) (one_int _ _) (by decide) (by unfold maxLen; omega) (by omega) (HO.out.alloc _).below.size _ rfl ?_; intro gA cA wA ownA groA hatA hltA)
      have HPA : Hid (Out w (.slice (some ⟨gA, 0, none⟩) (xs.length + 1) cA) (xs ++ [(x / 2 ^ k')]) wA) := (HO.out.alloc _).push ownA groA;clear ownA groA hatA hltA
      go_wp2_with fail
      go_roundw
      case rel => exact ⟨i + 1, _, by omega, by go_num, rfl, by rw [HN.out]; exact HPA.out⟩
      case measure => simp [intOf]; omega
     ·have hie : i = l.length := by omega
      subst hie;rw [List.take_of_length_le (Nat.le_refl _)] at hout;have e : (l.take l.length).map (fun n => n / 2 ^ k') = shrL l k' := by rw [List.take_of_length_le (Nat.le_refl _)]; rfl
      rw [e]
      have hout2 : Out w (.slice oa (shrL l k').length oc) (shrL l k') wr := by
       have e2 : (l.map (fun n => n / 2 ^ k')) = shrL l k' := rfl;rw [<- e2];exact hout
      have HI : Hid (IntsAt wr oa (shrL l k') /\ Lo w wr) := ⟨hout2.ints (by show (l.map _).length <= _; rw [List.length_map]; omega) (shrL_rng l k' HL.out.num), hout2.below⟩
      clear hout hout2 e;generalize shrL l k' = R at *
      go_wp2_with fail
      go_ret2
      exact ret_some HR.out rfl HI.out.1 HI.out.2
 rotate_left
 all_goals
  have HR : Hid (shfR l k = none) := by show _ = _; unfold shfR; rw [if_neg (fun h => by omega)]
  go_enter Tryz.func73, Tryz.ntmps73
  go_wp2_with fail
  go_ret2
  exact ret_none HR.out rfl (Below.refl _ _)
theorem xgoes (q : Sb) (ca : OA) (cc : Nat) (pa : OA) (pc : Nat) (ea : OA) (ec : Nat) (v : Int) (hv : 1 <= v /\ v <= 33) (hw : 0 <= q.w /\ q.w <= 31) (l : List Int) (lo : OA) (lc : Nat) (bb : Bool) (hbb : bb = true ↔ ((∀ x ∈ l, sigE x v = 0) /\ (q.k = 0 -> ∀ x ∈ l, x = l.getD 0 0) /\ dvB l q.w.toNat = true)) (w : World) (hl : IntsAt w lo l) : Calls Tryz.prog 70 #[subV q ca cc pa pc ea ec, .int .i64 v, .slice lo l.length lc] w fun e w' => e = .returned (.bool bb) /\ Lo w w' := by
 have HL := kQ hl
 have hln := hl.len
 have HBB := kQ hbb
 have HFI : Hid (∀ x ∈ l, ∀ wx, G0 27 #[.int .i64 x, .int .i64 v] wx (.bool (decide (sigE x v = 0)))) := fun x hx wx => by
  have hn := hl.num x hx;have e : ((v.toNat : Nat) : Int) = v := by omega
  have k := fits_in x hn.1 hn.2 v.toNat (by omega) (by omega) wx
  rw [e] at k;refine k.mono fun en w' hh => ⟨by rw [hh.1]; congr 2; exact decide_eq_decide.2 ⟨fun h => (sigE_iff _ _).2 ⟨hv.1, by omega, h.1, h.2⟩, fun h => ((sigE_iff _ _).1 h).2.2⟩, hh.2⟩
 have KS : Hid (∀ wx, Lo w wx -> Calls Tryz.prog 73 #[.slice lo l.length lc, .int .i64 q.w] wx (Ret2 (shfR l q.w) wx)) := fun wx hb => xshift_spec l q.w lo lc wx (hl.below hb)
 have HA : Hid (SX w q ca cc pa pc ea ec (w.alloc (.cells (subC q ca cc pa pc ea ec) 67))) := SX.new w q ca cc pa pc ea ec
 clear hl hbb
 go_enter Tryz.func70, Tryz.ntmps70
 go_upto_region 1 with fail
 generalize World.alloc _ _ = wa at *
 go_wp2_with fail
 go_loopw [7] (fun s7 wr => ∃ i : Nat, i <= l.length /\ s7 = .int .i64 (i : Int) /\ (∀ j, j < i -> sigE (l.getD j 0) v = 0 /\ (q.k = 0 -> l.getD j 0 = l.getD 0 0)) /\ SX w q ca cc pa pc ea ec wr) (fun s7 _ => l.length - (intOf s7).toNat)
 case atStart => exact ⟨0, Nat.zero_le _, rfl, fun j hj => absurd hj (Nat.not_lt_zero _), HA.out⟩
 case round =>
  clear HA;obtain ⟨i, hi, rfl, hall, hsx⟩ := hrel;have HI := kQ hall;have HS := kQ hsx;obtain ⟨x0, x1, x2, x3, x4, x5, x6, x7, x8, x9⟩ := sub_cells hsx.box;clear hall hsx;by_cases hlt : i < l.length
  focus
   obtain ⟨bl, ol, rfl⟩ := HL.out.addr (by omega)
   have HD : Hid (SX w q ca cc pa pc ea ec wr.drew) := HS.out.next dQ;have HX1 : Hid (∀ wx, SX w q ca cc pa pc ea ec wx -> wx.cell? ⟨bl, ol + i, none⟩ = some (.int .i64 (l.getD i 0))) := fun wx hx => (HL.out.below hx.below).get i hlt;have HX0 : Hid (∀ wx, SX w q ca cc pa pc ea ec wx -> wx.cell? ⟨bl, ol, none⟩ = some (.int .i64 (l.getD 0 0))) := fun wx hx => (HL.out.below hx.below).get 0 (by omega)
   have HME : Hid (l.getD i 0 ∈ l) := getD_mem l i hlt;have KFA : Hid (∀ wx, G0 27 #[.int .i64 (l.getD i 0), .int .i64 v] wx (.bool (decide (sigE (l.getD i 0) v = 0)))) := HFI.out _ HME.out;have hne : ¬ l = [] := fun e => by rw [e] at hlt; exact absurd hlt (Nat.not_lt_zero _)
   clear HS;by_cases gf : sigE (l.getD i 0) v = 0
   focus
    by_cases gk : q.k = 0
    focus
     by_cases gx : l.getD i 0 = l.getD 0 0
     focus
      have HNX : Hid (∀ j, j < i + 1 -> sigE (l.getD j 0) v = 0 /\ (q.k = 0 -> l.getD j 0 = l.getD 0 0)) := fun j hj => by
       by_cases e : j = i
       ·rw [e]; exact ⟨gf, fun _ => gx⟩
       ·exact HI.out j (by omega)
      have hfit := decide_eq_true gf;clear gf;generalize decide (sigE (l.getD i 0) v = 0) = fv at *;generalize l.getD i 0 = xv at *;generalize l.getD 0 0 = x0v at *;have HFV := kQ hfit;have KF : Hid (∀ wx, SX w q ca cc pa pc ea ec wx -> Calls Tryz.prog 27 #[.int .i64 xv, .int .i64 v] wx fun e w' => e = .returned (.bool true) /\ Hid (SX w q ca cc pa pc ea ec w')) := fun wx hx => (KFA.out wx).mono fun e w' hh => ⟨by rw [hh.1, HFV.out], by rw [hh.2]; exact hx⟩
      have hbk : (q.k == 0) = true := by rw [beq_iff_eq]; exact gk
      have hbn : (xv != x0v) = false := by rw [bne_eq_false_iff_eq]; exact gx
      clear gk gx
     rotate_left
     focus
      have HNN : Hid (¬ ((∀ x ∈ l, sigE x v = 0) /\ (q.k = 0 -> ∀ x ∈ l, x = l.getD 0 0) /\ dvB l q.w.toNat = true)) := fun h => gx (h.2.1 gk _ HME.out);have hfit := decide_eq_true gf;clear gf;generalize decide (sigE (l.getD i 0) v = 0) = fv at *;generalize l.getD i 0 = xv at *;generalize l.getD 0 0 = x0v at *;have HFV := kQ hfit;have KF : Hid (∀ wx, SX w q ca cc pa pc ea ec wx -> Calls Tryz.prog 27 #[.int .i64 xv, .int .i64 v] wx fun e w' => e = .returned (.bool true) /\ Hid (SX w q ca cc pa pc ea ec w')) := fun wx hx => (KFA.out wx).mono fun e w' hh => ⟨by rw [hh.1, HFV.out], by rw [hh.2]; exact hx⟩
      have hbk : (q.k == 0) = true := by rw [beq_iff_eq]; exact gk
      have hbn : (xv != x0v) = true := by rw [bne_iff_ne]; exact gx
      clear gk gx
     rotate_left
    rotate_left 2
    focus
     have HNX : Hid (∀ j, j < i + 1 -> sigE (l.getD j 0) v = 0 /\ (q.k = 0 -> l.getD j 0 = l.getD 0 0)) := fun j hj => by
      by_cases e : j = i
      ·rw [e]; exact ⟨gf, fun h => absurd h gk⟩
      ·exact HI.out j (by omega)
     have hfit := decide_eq_true gf;clear gf;generalize decide (sigE (l.getD i 0) v = 0) = fv at *;generalize l.getD i 0 = xv at *;have HFV := kQ hfit;have KF : Hid (∀ wx, SX w q ca cc pa pc ea ec wx -> Calls Tryz.prog 27 #[.int .i64 xv, .int .i64 v] wx fun e w' => e = .returned (.bool true) /\ Hid (SX w q ca cc pa pc ea ec w')) := fun wx hx => (KFA.out wx).mono fun e w' hh => ⟨by rw [hh.1, HFV.out], by rw [hh.2]; exact hx⟩
     have hbk : (q.k == 0) = false := by rw [beq_eq_false_iff_ne]; exact gk
     clear gk
    rotate_left
   rotate_left 3
   focus
    have HNN : Hid (¬ ((∀ x ∈ l, sigE x v = 0) /\ (q.k = 0 -> ∀ x ∈ l, x = l.getD 0 0) /\ dvB l q.w.toNat = true)) := fun h => gf (h.1 _ HME.out);have hfit := decide_eq_false gf;clear gf;generalize decide (sigE (l.getD i 0) v = 0) = fv at *;generalize l.getD i 0 = xv at *;have HFV := kQ hfit;have KF : Hid (∀ wx, SX w q ca cc pa pc ea ec wx -> Calls Tryz.prog 27 #[.int .i64 xv, .int .i64 v] wx fun e w' => e = .returned (.bool false) /\ Hid (SX w q ca cc pa pc ea ec w')) := fun wx hx => (KFA.out wx).mono fun e w' hh => ⟨by rw [hh.1, HFV.out], by rw [hh.2]; exact hx⟩
   rotate_left
  rotate_left 4
  ·have HAL : Hid ((∀ x ∈ l, sigE x v = 0) /\ (q.k = 0 -> ∀ x ∈ l, x = l.getD 0 0)) := by
    have key : ∀ x ∈ l, sigE x v = 0 /\ (q.k = 0 -> x = l.getD 0 0) := fun x hx => by
     obtain ⟨j, hj, e⟩ := List.getElem_of_mem hx;have h := HI.out j (by omega)
     have e2 : l.getD j 0 = x := by rw [List.getD_eq_getElem?_getD, List.getElem?_eq_getElem hj]; exact e
     rw [e2] at h; exact h
    exact ⟨fun x hx => (key x hx).1, fun h x hx => (key x hx).2 h⟩
   have ks := KS.out wr HS.out.below
   cases hd : dvB l q.w.toNat with
   | false =>
    have hR : shfR l q.w = none := by unfold shfR; rw [if_neg (fun h => by rw [hd] at h; cases h.2)]
    have HV : Hid (bb = false) := bb_no HBB.out (fun h => by have := h.2.2; rw [hd] at this; cases this)
    rw [hR] at ks;clear hd hR
    go_wp2_with fail
    refine ks.mono ?_;rintro e w2 ⟨la2, lc2, rfl, _, hb2⟩;have HS2 := kQ (HS.out.next hb2);clear hb2
    go_wp2_with fail
    go_ret;exact ⟨by rw [HV.out]; rfl, HS2.out.below⟩
   | true =>
    have hR : shfR l q.w = some (shrL l q.w.toNat) := by unfold shfR; rw [if_pos ⟨hw, hd⟩]
    have HV : Hid (bb = true) := bb_yes HBB.out ⟨HAL.out.1, HAL.out.2, hd⟩;rw [hR] at ks;clear hd hR
    go_wp2_with fail
    refine ks.mono ?_;rintro e w2 ⟨la2, lc2, rfl, _, hb2⟩;have HS2 := kQ (HS.out.next hb2);clear hb2
    go_wp2_with fail
    go_ret;exact ⟨by rw [HV.out]; rfl, HS2.out.below⟩
  all_goals
   go_wp2_with fail
   clear x0 x1 x2 x3 x4 x5 x6 x7 x8 x9;refine wp_region_held_drew (S := fun wx => SX w q ca cc pa pc ea ec wx) (by kernel_rfl) (HD.out) (fun hS => ?_)
   refine vQ 0 (.slice (some ⟨bl, ol, none⟩) l.length lc) hS ?_;simp only [SL];refine vQ 1 (.int .i64 (i : Int)) hS ?_;simp only [SL];refine vQ 2 (.pointer (some ⟨bl, ol + i, none⟩)) hS ?_;simp only [SL];refine uQ 3 (.int .i64 xv) rfl hS (Or.inl ⟨by rfl, fun w hSw => by have r1 := HX1.out _ hSw; go_simp⟩) ?_
   simp only [SL];refine vQ 4 (.int .i64 v) hS ?_;simp only [SL];refine wpAnyH_ready (rs := [5]) (by kernel_rfl) (by simp) ?_
   refine AllReadyH.cons rfl (fun K hK => ?_) AllReadyH.nil;go_simp;refine (KF.out _ hS).mono ?_;rintro en w5 ⟨rfl, HS5⟩;refine hK.out _ _ HS5.out (fun hSw5 => ?_);clear hK K
   try simp only [SL]
  rotate_left 2
  ·refine vQ 6 (.bool false) hSw5 ?_
   simp only [SL];refine vQ 7 (.bool false) hSw5 ?_;simp only [SL];refine vQ 8 (.pointer (some ⟨w.heap.size, 0, none⟩)) hSw5 ?_;simp only [SL];refine uQ 9 (.int .i64 q.k) rfl hSw5 (Or.inl ⟨by rfl, fun w hSw => by obtain ⟨x0, x1, x2, x3, x4, x5, x6, x7, x8, x9⟩ := sub_cells hSw.box; go_simp⟩) ?_
   simp only [SL];refine vQ 10 (.bool false) hSw5 ?_;simp only [SL];refine vQ 11 (.bool false) hSw5 ?_;simp only [SL];refine wQ 12 hSw5 ?_;simp only [SL];refine wQ 13 hSw5 ?_;simp only [SL];refine wQ 14 hSw5 ?_;simp only [SL];refine wQ 15 hSw5 ?_;simp only [SL];refine wQ 16 hSw5 ?_;simp only [SL];refine wQ 17 hSw5 ?_;simp only [SL];refine wQ 18 hSw5 ?_;simp only [SL];refine wQ 19 hSw5 ?_;simp only [SL];refine vQ 20 (.bool false) hSw5 ?_;simp only [SL];refine vQ 21 (.bool false) hSw5 ?_;simp only [SL];refine wpAnyH_done (by kernel_rfl) ?_ _
   go_wp2_with fail
   go_roundw
   case rel => exact ⟨i + 1, by omega, by go_num, HNX.out, HS5.out⟩
   case measure => simp [intOf]; omega
  ·refine vQ 6 (.bool true) hSw5 ?_
   simp only [SL];refine vQ 7 (.bool true) hSw5 ?_;simp only [SL];refine wQ 8 hSw5 ?_;simp only [SL];refine wQ 9 hSw5 ?_;simp only [SL];refine wQ 10 hSw5 ?_;simp only [SL];refine wQ 11 hSw5 ?_;simp only [SL];refine wQ 12 hSw5 ?_;simp only [SL];refine wQ 13 hSw5 ?_;simp only [SL];refine wQ 14 hSw5 ?_;simp only [SL];refine wQ 15 hSw5 ?_;simp only [SL];refine wQ 16 hSw5 ?_;simp only [SL];refine wQ 17 hSw5 ?_;simp only [SL];refine wQ 18 hSw5 ?_;simp only [SL];refine wQ 19 hSw5 ?_;simp only [SL];refine wQ 20 hSw5 ?_;simp only [SL];refine vQ 21 (.bool true) hSw5 ?_;simp only [SL];refine wpAnyH_done (by kernel_rfl) ?_ _
   have HV : Hid (bb = false) := bb_no HBB.out (fun h => HNN.out h)
   go_wp2_with fail
   go_ret;exact ⟨by rw [HV.out]; rfl, HS5.out.below⟩
  all_goals
   refine vQ 6 (.bool false) hSw5 ?_;simp only [SL];refine vQ 7 (.bool false) hSw5 ?_;simp only [SL];refine vQ 8 (.pointer (some ⟨w.heap.size, 0, none⟩)) hSw5 ?_;simp only [SL];refine uQ 9 (.int .i64 q.k) rfl hSw5 (Or.inl ⟨by rfl, fun w hSw => by obtain ⟨x0, x1, x2, x3, x4, x5, x6, x7, x8, x9⟩ := sub_cells hSw.box; go_simp⟩) ?_
   simp only [SL];refine vQ 10 (.bool true) hSw5 ?_;simp only [SL];refine vQ 11 (.bool true) hSw5 ?_;simp only [SL];refine vQ 12 (.slice (some ⟨bl, ol, none⟩) l.length lc) hSw5 ?_;simp only [SL];refine vQ 13 (.int .i64 (i : Int)) hSw5 ?_;simp only [SL];refine vQ 14 (.pointer (some ⟨bl, ol + i, none⟩)) hSw5 ?_;simp only [SL];refine uQ 15 (.int .i64 xv) rfl hSw5 (Or.inl ⟨by rfl, fun w hSw => by have r1 := HX1.out _ hSw; go_simp⟩) ?_
   simp only [SL];refine vQ 16 (.slice (some ⟨bl, ol, none⟩) l.length lc) hSw5 ?_;simp only [SL];refine vQ 17 (.pointer (some ⟨bl, ol, none⟩)) hSw5 ?_;simp only [SL];refine uQ 18 (.int .i64 x0v) rfl hSw5 (Or.inl ⟨by rfl, fun w hSw => by have r2 := HX0.out _ hSw; go_simp⟩) ?_
   simp only [SL]
  ·refine vQ 19 (.bool false) hSw5 ?_
   simp only [SL];refine vQ 20 (.bool false) hSw5 ?_;simp only [SL];refine vQ 21 (.bool false) hSw5 ?_;simp only [SL];refine wpAnyH_done (by kernel_rfl) ?_ _
   go_wp2_with fail
   go_roundw
   case rel => exact ⟨i + 1, by omega, by go_num, HNX.out, HS5.out⟩
   case measure => simp [intOf]; omega
  ·refine vQ 19 (.bool true) hSw5 ?_
   simp only [SL];refine vQ 20 (.bool true) hSw5 ?_;simp only [SL];refine vQ 21 (.bool true) hSw5 ?_;simp only [SL];refine wpAnyH_done (by kernel_rfl) ?_ _
   have HV : Hid (bb = false) := bb_no HBB.out (fun h => HNN.out h)
   go_wp2_with fail
   go_ret;exact ⟨by rw [HV.out]; rfl, HS5.out.below⟩
end Go.Proofs.YtfpfabmbipmipaaGreatDoor
