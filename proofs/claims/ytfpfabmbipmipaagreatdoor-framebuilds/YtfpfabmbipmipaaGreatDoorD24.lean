/- Own text. -/
import Derived.Test.YtfpfabmbipmipaaGreatDoorD15
set_option linter.unusedSimpArgs false
set_option linter.unusedVariables false
set_option maxRecDepth 20000
set_option maxHeartbeats 12800000
namespace Go.Proofs.YtfpfabmbipmipaaGreatDoor
open Go.RowKit
def shapeB (c : Rc) (b r : Int) : Bool := decide ((0 <= c.m /\ c.m <= 1) /\ cutOk b r c.o)
theorem xshape_spec (c : Rc) (b r : Int) (pa : OA) (pc : Nat) (ea : OA) (ec : Nat) (w : World) :
  Calls Tryz.prog 135 #[riceV c pa pc ea ec, .int .i64 b, .int .i64 r] w fun en w' => en = .returned (.bool (shapeB c b r)) /\ Lo w w' := by
 have HB1 : Hid (Lo w (w.alloc (.cells (riceC c pa pc ea ec) 65))) := aQ
 by_cases g0 : c.m < 0
 rotate_left
 focus
  skip
  by_cases g1 : 1 < c.m;rotate_left
  focus
   skip
   by_cases g2 : c.o < 0;rotate_left
   focus
    skip
    by_cases g3 : 15 < c.o;rotate_left
    focus
     skip
     by_cases g4 : b < 1;rotate_left
     focus
      skip
      by_cases g5 : 65535 < b;rotate_left
      focus
       skip
       by_cases g6 : r < 0;rotate_left
       focus
        skip
        by_cases g7 : 32 < r;rotate_left
        ·skip
         have HS : Hid (shapeB c b r = decide (b % 2 ^ c.o.toNat = 0 /\ r <= b / 2 ^ c.o.toNat)) := by
          show _ = _;unfold shapeB cutOk;by_cases h1 : b % 2 ^ c.o.toNat = 0 /\ r <= b / 2 ^ c.o.toNat
          ·rw [decide_eq_true h1, decide_eq_true]
           exact ⟨⟨by omega, by omega⟩, by omega, by omega, by omega, by omega, by omega, by omega, h1.1, h1.2⟩
          ·rw [decide_eq_false h1, decide_eq_false]
           exact fun h => h1 ⟨h.2.2.2.2.2.2.2.1, h.2.2.2.2.2.2.2.2⟩
         obtain ⟨o, ho⟩ : ∃ o' : Nat, c.o = o' := ⟨c.o.toNat, by omega⟩
         have ho2 : c.o.toNat = o := by omega
         have ho15 : o <= 15 := by omega
         rw [ho2] at HS;obtain ⟨hp1, hp2⟩ := pow15i o ho15;have hbm : b.tmod (2 ^ o) = b % 2 ^ o := Int.tmod_eq_emod_of_nonneg (by omega)
         have hbd : b.tdiv (2 ^ o) = b / 2 ^ o := Int.tdiv_eq_ediv_of_nonneg (by omega)
         have hdl : b / 2 ^ o <= b := Int.ediv_le_self _ (by omega)
         have hd0 : (0 : Int) <= b / 2 ^ o := Int.ediv_nonneg (by omega) (by omega)
         have hm0 : (0 : Int) <= b % 2 ^ o := Int.emod_nonneg _ (by omega)
         have hm1 : b % 2 ^ o < 2 ^ o := Int.emod_lt_of_pos _ (by omega)
         generalize b / 2 ^ o = d at *;generalize b % 2 ^ o = m at *;generalize hH : (2 : Int) ^ o = p at *;clear ho2;obtain ⟨cm, co, cP, cE⟩ := c;dsimp only at *;subst ho;by_cases g8 : m = 0
         ·have hb1 : (m == 0) = true := by rw [g8]; rfl
          by_cases g9 : r <= d
          ·have hb2 : decide (r <= d) = true := decide_eq_true g9
           have hd : shapeB ⟨cm, o, cP, cE⟩ b r = true := by rw [HS.out, decide_eq_true ⟨g8, g9⟩]
           rw [hd];clear hd HS;go_enter Tryz.func135, Tryz.ntmps135
           go_wp2
           go_ret;exact ⟨rfl, HB1.out⟩
          ·have hb2 : decide (r <= d) = false := decide_eq_false g9
           have hd : shapeB ⟨cm, o, cP, cE⟩ b r = false := by rw [HS.out, decide_eq_false (fun h => g9 h.2)]
           rw [hd];clear hd HS;go_enter Tryz.func135, Tryz.ntmps135
           go_wp2
           go_ret;exact ⟨rfl, HB1.out⟩
         ·have hb1 : (m == 0) = false := by rw [beq_eq_false_iff_ne]; exact g8
          have hd : shapeB ⟨cm, o, cP, cE⟩ b r = false := by rw [HS.out, decide_eq_false (fun h => g8 h.1)]
          rw [hd];clear hd HS;go_enter Tryz.func135, Tryz.ntmps135
          go_wp2
          go_ret;exact ⟨rfl, HB1.out⟩
       rotate_left
      rotate_left 2
     rotate_left 3
    rotate_left 4
   rotate_left 5
  rotate_left 6
 rotate_left 7
 all_goals
  have hd : shapeB c b r = false := decide_eq_false (fun h => by have := h.1; have := cut_head h.2; omega)
  rw [hd];clear hd;go_enter Tryz.func135, Tryz.ntmps135
  go_wp2
  go_ret;exact ⟨rfl, HB1.out⟩
theorem xpart_spec (c : Rc) (b o r i : Nat) (h : Cut b o r) (ho : c.o = o) (hi : i < 2 ^ o) (pa : OA) (pc : Nat) (ea : OA) (ec : Nat) (w : World) :
  Calls Tryz.prog 129 #[riceV c pa pc ea ec, .int .i64 (b : Int), .int .i64 (r : Int), .int .i64 (i : Int)] w fun en w' => en = .returned (.tuple #[.int .i64 (frN b o r i : Int), .int .i64 (frN b o r (i + 1) : Int)]) /\ Lo w w' := by
 have HB1 : Hid (Lo w (w.alloc (.cells (riceC c pa pc ea ec) 65))) := aQ
 have hbd : (b : Int) / 2 ^ o = ((b / 2 ^ o : Nat) : Int) := by push_cast; rfl
 have hfs := h.fr_succ i
 have hf : frN b o r i = i * (b / 2 ^ o) - r := rfl
 have hfb := frN_bound h (i + 1) hi
 have hmo := frN_mono b o r i
 have hi2 : i < 32768 := by have := (pow15 o h.o15).2; omega
 have hd : b / 2 ^ o <= 65535 := by have := Nat.div_le_self b (2 ^ o); have := h.b2; omega
 have hle := h.le
 have hmul : ((i : Int) + 1) * ((b / 2 ^ o : Nat) : Int) = ((frN b o r (i + 1) : Nat) : Int) + (r : Int) := by
  have e : (((i + 1) * (b / 2 ^ o) : Nat) : Int) = ((frN b o r (i + 1) + r : Nat) : Int) := by rw [hfs]
  push_cast at e
  push_cast
  exact e
 have hmul0 : (i : Int) * ((b / 2 ^ o : Nat) : Int) = ((i * (b / 2 ^ o) : Nat) : Int) := by push_cast; rfl
 have hr := h.r2
 have hb2 := h.b2
 have h15 := h.o15
 have hir : ¬ i = 0 -> r <= i * (b / 2 ^ o) := fun h0 => by have := Nat.mul_le_mul_right (b / 2 ^ o) (show 1 <= i by omega); omega
 have hml : i * (b / 2 ^ o) <= 70000 := by rw [Nat.add_mul] at hfs; omega
 obtain ⟨cm, co, cP, cE⟩ := c
 dsimp only at ho
 subst ho
 generalize i * (b / 2 ^ o) = mm at *
 generalize frN b o r (i + 1) = t at *
 generalize frN b o r i = f at *
 generalize b / 2 ^ o = d at *
 obtain ⟨e, he⟩ : ∃ e : Int, e = (t : Int) + (r : Int) := ⟨_, rfl⟩
 rw [<- he] at hmul
 have hsub : e - (r : Int) = (t : Int) := by omega
 have he1 : 0 <= e := by omega
 have he2 : e <= 70000 := by omega
 clear he h hi hfs hle
 by_cases h0 : i = 0
 ·subst h0
  have hff : f = 0 := by
   have e0 : ((0 : Nat) : Int) * (d : Int) = 0 := by simp
   rw [e0] at hmul0;omega
  subst hff;have hdr : (d : Int) - (r : Int) = (t : Int) := by rw [show ((0 : Nat) : Int) + 1 = 1 from rfl, Int.one_mul] at hmul; omega
  clear hir hf hmul0 hmul hsub;go_enter Tryz.func129, Tryz.ntmps129
  go_wp2
  go_ret2
  exact ⟨rfl, HB1.out⟩
 ·have hir' := hir h0
  have hsub0 : ((mm : Nat) : Int) - (r : Int) = (f : Int) := by omega
  have hib : ((i : Int) == 0) = false := eQf (by omega)
  clear hir hf;go_enter Tryz.func129, Tryz.ntmps129
  go_wp2
  go_ret2
  exact ⟨rfl, HB1.out⟩
theorem xcheck_spec (c : Rc) (b r : Int) (pa : OA) (pc : Nat) (ea : OA) (ec : Nat) (w : World) (hr : RcAt w c pa ea) :
  Calls Tryz.prog 93 #[riceV c pa pc ea ec, .int .i64 b, .int .i64 r] w fun en w' => en = .returned (.int .i64 (chkN c b r)) /\ Lo w w' := by
 have HB0 : Hid (RB w c pa pc ea ec (w.alloc (.cells (riceC c pa pc ea ec) 65))) := RB.new w c pa pc ea ec
 have HR := kQ hr
 clear hr
 have KS : Hid (∀ wx, G1 135 #[riceV c pa pc ea ec, .int .i64 b, .int .i64 r] wx (.bool (shapeB c b r))) := fun wx => xshape_spec c b r pa pc ea ec wx
 by_cases hcut : (0 <= c.m /\ c.m <= 1) /\ cutOk b r c.o
 case neg =>
  have HN : Hid (chkN c b r = 60) := chk_no (fun h => hcut ⟨h.1, h.2.1⟩);have hsh : shapeB c b r = false := decide_eq_false hcut;rw [hsh] at KS;clear hcut hsh;go_enter Tryz.func93, Tryz.ntmps93
  go_wp2_with fail
  generalize hwa : w.alloc _ = wa;have HA : Hid (RB w c pa pc ea ec wa) := by rw [<- hwa]; exact HB0.out
  clear hwa HB0;refine (KS.out wa).mono ?_;rintro en w2 ⟨rfl, hb2⟩;have HR2 := kQ (HA.out.next hb2);clear HA hb2;have x0 := HR2.out.c0;have x1 := HR2.out.c1;have x2 := HR2.out.c2;have x3 := HR2.out.c3
  go_wp2_with fail
  go_ret;exact ⟨by rw [HN.out]; rfl, HR2.out.below⟩
 case pos =>
  have hsh : shapeB c b r = true := decide_eq_true hcut;rw [hsh] at KS;clear hsh;obtain ⟨⟨m0, m1⟩, hcut⟩ := hcut;obtain ⟨b, r, o, rfl, rfl, ho, hC⟩ := Cut.of hcut;have HCUT := kQ hcut;have HO : Hid (2 ^ c.o.toNat = 2 ^ o) := by show _ = _; rw [show c.o.toNat = o by omega]
  have hp := pow15 o hC.o15;have h15 := hC.o15;have hpi : (2 : Int) ^ o = ((2 ^ o : Nat) : Int) := by simp
  clear hcut hC;obtain ⟨cm, co, cP, cE⟩ := c;dsimp only at ho;subst ho;generalize 2 ^ o = N at *;have hn32 := hp.2;have hE := HR.out.E.len;have hP := HR.out.P.len;dsimp only at m0 m1 hE hP;by_cases l1 : cP.length = N
  case neg =>
   have HN : Hid (chkN ⟨cm, o, cP, cE⟩ b r = 60) := chk_no (fun h => l1 (by have := h.2.2.1; rw [HO.out] at this; exact this))
   have hbn : ((cP.length : Int) != (N : Int)) = true := nQt (by omega)
   go_enter Tryz.func93, Tryz.ntmps93
   go_wp2_with fail
   generalize hwa : w.alloc _ = wa;have HA : Hid (RB w ⟨cm, o, cP, cE⟩ pa pc ea ec wa) := by rw [<- hwa]; exact HB0.out
   clear hwa HB0;refine (KS.out wa).mono ?_;rintro en w2 ⟨rfl, hb2⟩;have HR2 := kQ (HA.out.next hb2);clear HA hb2;have x0 := HR2.out.c0;have x1 := HR2.out.c1;have x2 := HR2.out.c2;have x3 := HR2.out.c3
   go_wp2_with fail
   go_ret;exact ⟨by rw [HN.out]; rfl, HR2.out.below⟩
  have hbp : ((cP.length : Int) != (N : Int)) = false := nQf (by omega)
  have HL1 := kQ l1;clear l1;by_cases l2 : cE.length = N
  case neg =>
   have HN : Hid (chkN ⟨cm, o, cP, cE⟩ b r = 60) := chk_no (fun h => l2 (by have := h.2.2.2.1; rw [HO.out] at this; exact this))
   have hbn : ((cE.length : Int) != (N : Int)) = true := nQt (by omega)
   go_enter Tryz.func93, Tryz.ntmps93
   go_wp2_with fail
   generalize hwa : w.alloc _ = wa;have HA : Hid (RB w ⟨cm, o, cP, cE⟩ pa pc ea ec wa) := by rw [<- hwa]; exact HB0.out
   clear hwa HB0;refine (KS.out wa).mono ?_;rintro en w2 ⟨rfl, hb2⟩;have HR2 := kQ (HA.out.next hb2);clear HA hb2;have x0 := HR2.out.c0;have x1 := HR2.out.c1;have x2 := HR2.out.c2;have x3 := HR2.out.c3
   go_wp2_with fail
   go_ret;exact ⟨by rw [HN.out]; rfl, HR2.out.below⟩
  have hbe : ((cE.length : Int) != (N : Int)) = false := nQf (by omega)
  have HNB : Hid (∀ j, j < N -> ¬ mayOk cm (cP.getD j 0) (cE.getD j 0) -> chkN ⟨cm, o, cP, cE⟩ b r = 60) := fun j hj h => chk_no (fun hh => h (hh.2.2.2.2 j (by rw [HO.out]; exact hj)))
  have HYS : Hid ((∀ j, j < N -> mayOk cm (cP.getD j 0) (cE.getD j 0)) -> chkN ⟨cm, o, cP, cE⟩ b r = 0) := fun h => chk_yes ⟨⟨by omega, by omega⟩, HCUT.out, by rw [HO.out]; exact HL1.out, by rw [HO.out]; exact l2, fun j hj => h j (by rw [HO.out] at hj; exact hj)⟩
  have HL2 := kQ l2;clear l2;go_enter Tryz.func93, Tryz.ntmps93
  go_wp2_with fail
  generalize hwa : w.alloc _ = wa;have HA : Hid (RB w ⟨cm, o, cP, cE⟩ pa pc ea ec wa) := by rw [<- hwa]; exact HB0.out
  clear hwa HB0;refine (KS.out wa).mono ?_;rintro en w2 ⟨rfl, hb2⟩;have HR2 := kQ (HA.out.next hb2);clear HA hb2;have x0 := HR2.out.c0;have x1 := HR2.out.c1;have x2 := HR2.out.c2;have x3 := HR2.out.c3
  go_wp2_with fail
  clear x0 x1 x2 x3
  go_loopw [9] (fun s9 wr => ∃ j : Nat, j <= N /\ s9 = .int .i64 (j : Int) /\ (∀ i, i < j -> mayOk cm (cP.getD i 0) (cE.getD i 0)) /\ RB w ⟨cm, o, cP, cE⟩ pa pc ea ec wr) (fun s9 _ => N - (intOf s9).toNat)
  case atStart => exact ⟨0, Nat.zero_le _, rfl, fun i hi => absurd hi (Nat.not_lt_zero _), HR2.out⟩
  case round =>
   obtain ⟨j, hj, rfl, hs, hcb⟩ := hrel;have HW := kQ hcb;clear hcb HR2;have HS := kQ hs;clear hs;by_cases hlt : j < N
   focus
    have hjP : j < cP.length := by rw [HL1.out]; exact hlt
    have hjE : j < cE.length := by rw [HL2.out]; exact hlt
    obtain ⟨b1, o1, e1, q1⟩ := HR.out.P.at j hjP;obtain ⟨b2, o2, e2, q2⟩ := HR.out.E.at j hjE;have r1 := q1 wr HW.out.below;have r2 := q2 wr HW.out.below;have x2 := HW.out.c2;have x3 := HW.out.c3;rw [e1] at x2;rw [e2] at x3;clear q1 q2 e1 e2;dsimp only at r1 r2 x2 x3;generalize hkk : cP.getD j 0 = kk at r1;generalize hee : cE.getD j 0 = ee at r2;by_cases g0 : ee < -1;rotate_left
    focus
     skip
     by_cases g1 : 31 < ee;rotate_left
     focus
      skip
      by_cases g2 : 0 <= ee /\ ¬ kk = 0
      focus
       obtain ⟨g2, g2k⟩ := g2;have hbk : (kk != 0) = true := by rw [bne_iff_ne]; exact g2k
      rotate_left
      focus
       skip
       by_cases g3 : kk < 0;rotate_left
       focus
        skip
        by_cases g4 : 14 + 16 * cm < kk;rotate_left
        ·skip
         have HX : Hid (∀ i, i = j -> mayOk cm (cP.getD i 0) (cE.getD i 0)) := fun i hi => by rw [hi, hkk, hee]; unfold mayOk; omega
         clear hkk hee
         go_wp2_with fail
         ·go_roundw
          case rel =>
           refine ⟨j + 1, by omega, by go_num, fun i hi => ?_, HW.out⟩
           by_cases e : i = j
           ·exact HX.out i e
           ·exact HS.out i (by omega)
          case measure => simp [intOf]; omega
         ·go_roundw
          case rel =>
           refine ⟨j + 1, by omega, by go_num, fun i hi => ?_, HW.out⟩
           by_cases e : i = j
           ·exact HX.out i e
           ·exact HS.out i (by omega)
          case measure => simp [intOf]; omega
       rotate_left
      rotate_left 2
     rotate_left 3
    rotate_left 4
   rotate_left 5
   ·have HN : Hid (chkN ⟨cm, o, cP, cE⟩ b r = 0) := HYS.out (fun i hi => HS.out i (by omega))
    go_wp2_with fail
    go_ret;exact ⟨by rw [HN.out]; rfl, HW.out.below⟩
   all_goals
    have HN : Hid (chkN ⟨cm, o, cP, cE⟩ b r = 60) := HNB.out j hlt (by rw [hkk, hee]; unfold mayOk; omega)
    clear hkk hee
    go_wp2_with fail
    go_ret;exact ⟨by rw [HN.out]; rfl, HW.out.below⟩
theorem rc_zero_iff (c : Rc) : c = R0 ↔ c.m = 0 /\ c.o = 0 /\ c.P.length = 0 /\ c.E.length = 0 := by
 refine ⟨fun h => by rw [h]; exact ⟨rfl, rfl, rfl, rfl⟩, fun h => ?_⟩
 obtain ⟨m, o, P, E⟩ := c
 obtain ⟨h1, h2, h3, h4⟩ := h
 rw [List.length_eq_zero_iff] at h3 h4
 simp only at h1 h2 h3 h4
 rw [h1, h2, h3, h4]
theorem xsame0 (c : Rc) (hP : c.P.length <= 17592186044415) (hE : c.E.length <= 17592186044415) (pa : OA) (pc : Nat) (ea : OA) (ec : Nat) (bb : Bool) (hbb : bb = true ↔ c = R0) (w : World) : Calls Tryz.prog 112 #[riceV c pa pc ea ec, .agg #[.int .i64 0, .int .i64 0, .slice none 0 0, .slice none 0 0]] w fun e w' => e = .returned (.bool bb) /\ Lo w w' := by
 rw [rc_zero_iff] at hbb
 by_cases g0 : ¬ c.m = 0
 focus
  rw [bb_no hbb (fun h => g0 h.1)];clear hbb;have n0 : (c.m != 0) = true := nQt (by omega)
 rotate_left
 focus
  skip
  by_cases g1 : ¬ c.o = 0
  focus
   rw [bb_no hbb (fun h => g1 h.2.1)];clear hbb;have n0 : (c.m != 0) = false := nQf (by omega)
   have n1 : (c.o != 0) = true := nQt (by omega)
  rotate_left
  focus
   skip
   by_cases g2 : ¬ c.P.length = 0
   focus
    rw [bb_no hbb (fun h => g2 h.2.2.1)];clear hbb;have n0 : (c.m != 0) = false := nQf (by omega)
    have n1 : (c.o != 0) = false := nQf (by omega)
    have n2 : ((c.P.length : Int) != 0) = true := nQt (by omega)
   rotate_left
   focus
    skip
    by_cases g3 : ¬ c.E.length = 0
    focus
     rw [bb_no hbb (fun h => g3 h.2.2.2)];clear hbb;have n0 : (c.m != 0) = false := nQf (by omega)
     have n1 : (c.o != 0) = false := nQf (by omega)
     have n2 : ((c.P.length : Int) != 0) = false := nQf (by omega)
     have n3 : ((c.E.length : Int) != 0) = true := nQt (by omega)
    rotate_left
    focus
     skip
     rw [bb_yes hbb ⟨Classical.not_not.1 g0, Classical.not_not.1 g1, Classical.not_not.1 g2, Classical.not_not.1 g3⟩];clear hbb;have n0 : (c.m != 0) = false := nQf (by omega)
     have n1 : (c.o != 0) = false := nQf (by omega)
     have n2 : ((c.P.length : Int) != 0) = false := nQf (by omega)
     have n3 : ((c.E.length : Int) != 0) = false := nQf (by omega)
     have hP0 : c.P.length = 0 := by omega
     have hE0 : c.E.length = 0 := by omega
    rotate_left
   rotate_left 2
  rotate_left 3
 rotate_left 4
 all_goals
  have HA : Hid (Lo w ((w.alloc (.cells (riceC c pa pc ea ec) 65)).alloc (.cells #[.int .i64 0, .int .i64 0, .slice none 0 0, .slice none 0 0] 65))) := aQ.alloc (by simp) _
  go_enter Tryz.func112, Tryz.ntmps112
  go_wp2_with fail
 ·go_ret
  exact ⟨rfl, HA.out⟩
 ·go_ret
  exact ⟨rfl, HA.out⟩
 ·go_ret
  exact ⟨rfl, HA.out⟩
 ·go_ret
  exact ⟨rfl, HA.out⟩
 ·go_loopw [5] (fun s5 wr => s5 = .int .i64 0 /\ wr = (w.alloc (.cells (riceC c pa pc ea ec) 65)).alloc (.cells #[.int .i64 0, .int .i64 0, .slice none 0 0, .slice none 0 0] 65)) (fun _ _ => 0)
  case atStart => exact ⟨rfl, rfl⟩
  case round =>
   obtain ⟨rfl, rfl⟩ := hrel
   go_wp2_with fail
   go_loopw [6] (fun s6 wr => s6 = .int .i64 0 /\ wr = (w.alloc (.cells (riceC c pa pc ea ec) 65)).alloc (.cells #[.int .i64 0, .int .i64 0, .slice none 0 0, .slice none 0 0] 65)) (fun _ _ => 0)
   case atStart => exact ⟨rfl, rfl⟩
   case round =>
    obtain ⟨rfl, rfl⟩ := hrel
    go_wp2_with fail
    go_ret;exact ⟨rfl, HA.out⟩
theorem xzero10 (c : Rc) (hP : c.P.length <= 17592186044415) (hE : c.E.length <= 17592186044415) (pa : OA) (pc : Nat) (ea : OA) (ec : Nat) (bb : Bool) (hbb : bb = true ↔ c = R0) (w : World) : Calls Tryz.prog 92 #[riceV c pa pc ea ec] w fun e w' => e = .returned (.bool bb) /\ Lo w w' := by
 have k := fun wx => xsame0 c hP hE pa pc ea ec bb hbb wx
 have HA : Hid (Lo w (w.alloc (.cells (riceC c pa pc ea ec) 65))) := aQ
 clear hbb hP hE
 go_enter Tryz.func92, Tryz.ntmps92
 go_wp2_with fail
 generalize World.alloc _ _ = wa at *
 refine (k wa).mono ?_
 rintro e w2 ⟨rfl, hb2⟩
 have HL := kQ (HA.out.trans (hb2.mono HA.out.size))
 clear hb2
 go_wp2_with fail
 go_ret
 exact ⟨rfl, HL.out⟩
theorem xchk_rng (q : Sb) (ca : OA) (cc : Nat) (pa : OA) (pc : Nat) (ea : OA) (ec : Nat) (b v : Int) (hno : ¬ ((1 <= b /\ b <= 65535) /\ (1 <= v /\ v <= 33) /\ 0 <= q.w /\ q.w < v)) (w : World) (hq : SbAt w q ca pa ea) : Calls Tryz.prog 40 #[subV q ca cc pa pc ea ec, .int .i64 b, .int .i64 v] w fun e w' => e = .returned (.int .i64 60) /\ Lo w w' := by
 clear hq
 by_cases g0 : b < 1
 rotate_left
 focus
  skip
  by_cases g1 : 65535 < b;rotate_left
  focus
   skip
   by_cases g2 : v < 1;rotate_left
   focus
    skip
    by_cases g3 : 33 < v;rotate_left
    focus
     skip
     by_cases g4 : q.w < 0;rotate_left
     focus
      skip
      have g5 : v <= q.w := by omega
     rotate_left
    rotate_left 2
   rotate_left 3
  rotate_left 4
 rotate_left 5
 all_goals
  clear hno;have HA : Hid (SX w q ca cc pa pc ea ec (w.alloc (.cells (subC q ca cc pa pc ea ec) 67))) := SX.new w q ca cc pa pc ea ec;go_enter Tryz.func40, Tryz.ntmps40
  go_upto_region 1 with fail
  generalize World.alloc _ _ = wa at *;obtain ⟨x0, x1, x2, x3, x4, x5, x6, x7, x8, x9⟩ := sub_cells HA.out.box
  go_wp2_with fail
  go_ret;exact ⟨rfl, HA.out.below⟩
theorem xchk_k0 (q : Sb) (ca : OA) (cc : Nat) (pa : OA) (pc : Nat) (ea : OA) (ec : Nat) (b v : Int) (hr : ((1 <= b /\ b <= 65535) /\ (1 <= v /\ v <= 33) /\ 0 <= q.w /\ q.w < v)) (hk : q.k = 0) (r : Int) (HYES : Hid ((bareOk q /\ q.o = 0 /\ q.R = R0) -> r = 0)) (HNO : Hid (¬ (bareOk q /\ q.o = 0 /\ q.R = R0) -> r = 60)) (b8 : Bool) (HB8 : Hid (b8 = true ↔ bareOk q)) (w : World) (hq : SbAt w q ca pa ea) : Calls Tryz.prog 40 #[subV q ca cc pa pc ea ec, .int .i64 b, .int .i64 v] w fun e w' => e = .returned (.int .i64 r) /\ Lo w w' := by
 have HQ := kQ hq
 have hCl := hq.C.len
 have HR : Hid (∀ wx, Lo w wx -> RcAt wx q.R pa ea) := fun wx h => hq.R.below h
 have KZ : Hid (∀ wx, Lo w wx -> ∀ bb : Bool, (bb = true ↔ q.R = R0) -> G1 92 #[riceV q.R pa pc ea ec] wx (.bool bb)) := fun wx _ bb hbb => xzero10 q.R hq.R.P.len hq.R.E.len pa pc ea ec bb hbb wx
 have KC : Hid (∀ wx, Lo w wx -> G1 93 #[riceV q.R pa pc ea ec, .int .i64 b, .int .i64 q.o] wx (.int .i64 (chkN q.R b q.o))) := fun wx h => xcheck_spec q.R b q.o pa pc ea ec wx (hq.R.below h)
 clear hq
 obtain ⟨⟨hb1, hb2⟩, ⟨hv1, hv2⟩, hw0, hw1⟩ := hr
 have hk0 : (q.k == 0) = true := eQt (by omega)
 have hk1 : (q.k == 1) = false := eQf (by omega)
 have hk2 : (q.k == 2) = false := eQf (by omega)
 have hk3 : (q.k == 3) = false := eQf (by omega)
 clear hk
 have HA : Hid (SX w q ca cc pa pc ea ec (w.alloc (.cells (subC q ca cc pa pc ea ec) 67))) := SX.new w q ca cc pa pc ea ec
 go_enter Tryz.func40, Tryz.ntmps40
 go_upto_region 1 with fail
 generalize World.alloc _ _ = wa at *
 obtain ⟨x0, x1, x2, x3, x4, x5, x6, x7, x8, x9⟩ := sub_cells HA.out.box
 go_upto_region 4 with fail
 go_cut [8] from 35 to 48 (fun s8 wx => s8 = .bool b8 /\ wx = wa)
 case first =>
  by_cases g0 : ¬ q.p = 0
  ·have HV : Hid (b8 = false) := bb_no HB8.out (fun h => g0 h.1)
   have hb0 : (q.p == 0) = false := eQf (by omega)
   go_wp2_with fail
   go_meet
   exact ⟨by rw [HV.out], rfl⟩
  ·skip
   by_cases g1 : ¬ q.h = 0
   ·have HV : Hid (b8 = false) := bb_no HB8.out (fun h => g1 h.2.1)
    have hb0 : (q.p == 0) = true := eQt (by omega)
    have hb1 : (q.h == 0) = false := eQf (by omega)
    go_wp2_with fail
    go_meet
    exact ⟨by rw [HV.out], rfl⟩
   ·skip
    by_cases g2 : ¬ q.C.length = 0
    ·have HV : Hid (b8 = false) := bb_no HB8.out (fun h => g2 (by rw [h.2.2]; rfl))
     have hb0 : (q.p == 0) = true := eQt (by omega)
     have hb1 : (q.h == 0) = true := eQt (by omega)
     have hb2 : ((q.C.length : Int) == 0) = false := eQf (by omega)
     go_wp2_with fail
     go_meet
     exact ⟨by rw [HV.out], rfl⟩
    ·skip
     have HV : Hid (b8 = true) := bb_yes HB8.out (⟨by omega, by omega, List.eq_nil_of_length_eq_zero (by omega)⟩)
     have hb0 : (q.p == 0) = true := eQt (by omega)
     have hb1 : (q.h == 0) = true := eQt (by omega)
     have hb2 : ((q.C.length : Int) == 0) = true := eQt (by omega)
     go_wp2_with fail
     go_meet
     exact ⟨by rw [HV.out], rfl⟩
 case rest =>
  obtain ⟨rfl, rfl⟩ := hcut
  cases hb : b8 with
  | false =>
   have HN : Hid (¬ bareOk q) := fun h => by have := HB8.out.2 h; rw [hb] at this; cases this
   clear hb
   go_wp2_with fail
   go_ret;exact ⟨by rw [HNO.out (fun h => HN.out h.1)]; rfl, HA.out.below⟩
  | true =>
   have HY := kQ (HB8.out.1 hb);clear hb;by_cases ho : q.o = 0
   ·have hbo : (q.o == 0) = true := by rw [ho]; rfl
    have HO := kQ ho;clear ho;by_cases hz : q.R = R0
    ·have kz := KZ.out _ HA.out.below true (tt_iff hz)
     have HZ := kQ hz;clear hz
     go_wp2_with fail
     refine kz.mono ?_;rintro e w2 ⟨rfl, hb⟩;have HA2 := kQ (HA.out.next hb);clear hb
     go_wp2_with fail
     go_ret;exact ⟨by rw [HYES.out (⟨HY.out, HO.out, HZ.out⟩)]; rfl, HA2.out.below⟩
    ·have kz := KZ.out _ HA.out.below false (ff_iff hz)
     have HZ := kQ hz;clear hz
     go_wp2_with fail
     refine kz.mono ?_;rintro e w2 ⟨rfl, hb⟩;have HA2 := kQ (HA.out.next hb);clear hb
     go_wp2_with fail
     go_ret;exact ⟨by rw [HNO.out (fun h => HZ.out h.2.2)]; rfl, HA2.out.below⟩
   ·have hbo : (q.o == 0) = false := by rw [beq_eq_false_iff_ne]; exact ho
    have HO := kQ ho;clear ho
    go_wp2_with fail
    go_ret;exact ⟨by rw [HNO.out (fun h => HO.out h.2.1)]; rfl, HA.out.below⟩
theorem xchk_k1 (q : Sb) (ca : OA) (cc : Nat) (pa : OA) (pc : Nat) (ea : OA) (ec : Nat) (b v : Int) (hr : ((1 <= b /\ b <= 65535) /\ (1 <= v /\ v <= 33) /\ 0 <= q.w /\ q.w < v)) (hk : q.k = 1) (r : Int) (HYES : Hid ((bareOk q /\ q.o = 0 /\ q.R = R0) -> r = 0)) (HNO : Hid (¬ (bareOk q /\ q.o = 0 /\ q.R = R0) -> r = 60)) (b8 : Bool) (HB8 : Hid (b8 = true ↔ bareOk q)) (w : World) (hq : SbAt w q ca pa ea) : Calls Tryz.prog 40 #[subV q ca cc pa pc ea ec, .int .i64 b, .int .i64 v] w fun e w' => e = .returned (.int .i64 r) /\ Lo w w' := by
 have HQ := kQ hq
 have hCl := hq.C.len
 have HR : Hid (∀ wx, Lo w wx -> RcAt wx q.R pa ea) := fun wx h => hq.R.below h
 have KZ : Hid (∀ wx, Lo w wx -> ∀ bb : Bool, (bb = true ↔ q.R = R0) -> G1 92 #[riceV q.R pa pc ea ec] wx (.bool bb)) := fun wx _ bb hbb => xzero10 q.R hq.R.P.len hq.R.E.len pa pc ea ec bb hbb wx
 have KC : Hid (∀ wx, Lo w wx -> G1 93 #[riceV q.R pa pc ea ec, .int .i64 b, .int .i64 q.o] wx (.int .i64 (chkN q.R b q.o))) := fun wx h => xcheck_spec q.R b q.o pa pc ea ec wx (hq.R.below h)
 clear hq
 obtain ⟨⟨hb1, hb2⟩, ⟨hv1, hv2⟩, hw0, hw1⟩ := hr
 have hk0 : (q.k == 0) = false := eQf (by omega)
 have hk1 : (q.k == 1) = true := eQt (by omega)
 have hk2 : (q.k == 2) = false := eQf (by omega)
 have hk3 : (q.k == 3) = false := eQf (by omega)
 clear hk
 have HA : Hid (SX w q ca cc pa pc ea ec (w.alloc (.cells (subC q ca cc pa pc ea ec) 67))) := SX.new w q ca cc pa pc ea ec
 go_enter Tryz.func40, Tryz.ntmps40
 go_upto_region 1 with fail
 generalize World.alloc _ _ = wa at *
 obtain ⟨x0, x1, x2, x3, x4, x5, x6, x7, x8, x9⟩ := sub_cells HA.out.box
 go_upto_region 4 with fail
 go_cut [8] from 35 to 48 (fun s8 wx => s8 = .bool b8 /\ wx = wa)
 case first =>
  by_cases g0 : ¬ q.p = 0
  ·have HV : Hid (b8 = false) := bb_no HB8.out (fun h => g0 h.1)
   have hb0 : (q.p == 0) = false := eQf (by omega)
   go_wp2_with fail
   go_meet
   exact ⟨by rw [HV.out], rfl⟩
  ·skip
   by_cases g1 : ¬ q.h = 0
   ·have HV : Hid (b8 = false) := bb_no HB8.out (fun h => g1 h.2.1)
    have hb0 : (q.p == 0) = true := eQt (by omega)
    have hb1 : (q.h == 0) = false := eQf (by omega)
    go_wp2_with fail
    go_meet
    exact ⟨by rw [HV.out], rfl⟩
   ·skip
    by_cases g2 : ¬ q.C.length = 0
    ·have HV : Hid (b8 = false) := bb_no HB8.out (fun h => g2 (by rw [h.2.2]; rfl))
     have hb0 : (q.p == 0) = true := eQt (by omega)
     have hb1 : (q.h == 0) = true := eQt (by omega)
     have hb2 : ((q.C.length : Int) == 0) = false := eQf (by omega)
     go_wp2_with fail
     go_meet
     exact ⟨by rw [HV.out], rfl⟩
    ·skip
     have HV : Hid (b8 = true) := bb_yes HB8.out (⟨by omega, by omega, List.eq_nil_of_length_eq_zero (by omega)⟩)
     have hb0 : (q.p == 0) = true := eQt (by omega)
     have hb1 : (q.h == 0) = true := eQt (by omega)
     have hb2 : ((q.C.length : Int) == 0) = true := eQt (by omega)
     go_wp2_with fail
     go_meet
     exact ⟨by rw [HV.out], rfl⟩
 case rest =>
  obtain ⟨rfl, rfl⟩ := hcut
  cases hb : b8 with
  | false =>
   have HN : Hid (¬ bareOk q) := fun h => by have := HB8.out.2 h; rw [hb] at this; cases this
   clear hb
   go_wp2_with fail
   go_ret;exact ⟨by rw [HNO.out (fun h => HN.out h.1)]; rfl, HA.out.below⟩
  | true =>
   have HY := kQ (HB8.out.1 hb);clear hb;by_cases ho : q.o = 0
   ·have hbo : (q.o == 0) = true := by rw [ho]; rfl
    have HO := kQ ho;clear ho;by_cases hz : q.R = R0
    ·have kz := KZ.out _ HA.out.below true (tt_iff hz)
     have HZ := kQ hz;clear hz
     go_wp2_with fail
     refine kz.mono ?_;rintro e w2 ⟨rfl, hb⟩;have HA2 := kQ (HA.out.next hb);clear hb
     go_wp2_with fail
     go_ret;exact ⟨by rw [HYES.out (⟨HY.out, HO.out, HZ.out⟩)]; rfl, HA2.out.below⟩
    ·have kz := KZ.out _ HA.out.below false (ff_iff hz)
     have HZ := kQ hz;clear hz
     go_wp2_with fail
     refine kz.mono ?_;rintro e w2 ⟨rfl, hb⟩;have HA2 := kQ (HA.out.next hb);clear hb
     go_wp2_with fail
     go_ret;exact ⟨by rw [HNO.out (fun h => HZ.out h.2.2)]; rfl, HA2.out.below⟩
   ·have hbo : (q.o == 0) = false := by rw [beq_eq_false_iff_ne]; exact ho
    have HO := kQ ho;clear ho
    go_wp2_with fail
    go_ret;exact ⟨by rw [HNO.out (fun h => HO.out h.2.1)]; rfl, HA.out.below⟩
theorem xchk_k2 (q : Sb) (ca : OA) (cc : Nat) (pa : OA) (pc : Nat) (ea : OA) (ec : Nat) (b v : Int) (hr : ((1 <= b /\ b <= 65535) /\ (1 <= v /\ v <= 33) /\ 0 <= q.w /\ q.w < v)) (hk : q.k = 2) (r : Int) (HYES : Hid ((bareOk q /\ 0 <= q.o /\ q.o <= 4 /\ q.o <= b /\ chkOk q.R b q.o) -> r = 0)) (HNO : Hid (¬ (bareOk q /\ 0 <= q.o /\ q.o <= 4 /\ q.o <= b /\ chkOk q.R b q.o) -> r = 60)) (b8 : Bool) (HB8 : Hid (b8 = true ↔ bareOk q)) (w : World) (hq : SbAt w q ca pa ea) : Calls Tryz.prog 40 #[subV q ca cc pa pc ea ec, .int .i64 b, .int .i64 v] w fun e w' => e = .returned (.int .i64 r) /\ Lo w w' := by
 have HQ := kQ hq
 have hCl := hq.C.len
 have HR : Hid (∀ wx, Lo w wx -> RcAt wx q.R pa ea) := fun wx h => hq.R.below h
 have KZ : Hid (∀ wx, Lo w wx -> ∀ bb : Bool, (bb = true ↔ q.R = R0) -> G1 92 #[riceV q.R pa pc ea ec] wx (.bool bb)) := fun wx _ bb hbb => xzero10 q.R hq.R.P.len hq.R.E.len pa pc ea ec bb hbb wx
 have KC : Hid (∀ wx, Lo w wx -> G1 93 #[riceV q.R pa pc ea ec, .int .i64 b, .int .i64 q.o] wx (.int .i64 (chkN q.R b q.o))) := fun wx h => xcheck_spec q.R b q.o pa pc ea ec wx (hq.R.below h)
 clear hq
 obtain ⟨⟨hb1, hb2⟩, ⟨hv1, hv2⟩, hw0, hw1⟩ := hr
 have hk0 : (q.k == 0) = false := eQf (by omega)
 have hk1 : (q.k == 1) = false := eQf (by omega)
 have hk2 : (q.k == 2) = true := eQt (by omega)
 have hk3 : (q.k == 3) = false := eQf (by omega)
 clear hk
 have HA : Hid (SX w q ca cc pa pc ea ec (w.alloc (.cells (subC q ca cc pa pc ea ec) 67))) := SX.new w q ca cc pa pc ea ec
 go_enter Tryz.func40, Tryz.ntmps40
 go_upto_region 1 with fail
 generalize World.alloc _ _ = wa at *
 obtain ⟨x0, x1, x2, x3, x4, x5, x6, x7, x8, x9⟩ := sub_cells HA.out.box
 go_upto_region 4 with fail
 go_cut [8] from 35 to 48 (fun s8 wx => s8 = .bool b8 /\ wx = wa)
 case first =>
  by_cases g0 : ¬ q.p = 0
  ·have HV : Hid (b8 = false) := bb_no HB8.out (fun h => g0 h.1)
   have hb0 : (q.p == 0) = false := eQf (by omega)
   go_wp2_with fail
   go_meet
   exact ⟨by rw [HV.out], rfl⟩
  ·skip
   by_cases g1 : ¬ q.h = 0
   ·have HV : Hid (b8 = false) := bb_no HB8.out (fun h => g1 h.2.1)
    have hb0 : (q.p == 0) = true := eQt (by omega)
    have hb1 : (q.h == 0) = false := eQf (by omega)
    go_wp2_with fail
    go_meet
    exact ⟨by rw [HV.out], rfl⟩
   ·skip
    by_cases g2 : ¬ q.C.length = 0
    ·have HV : Hid (b8 = false) := bb_no HB8.out (fun h => g2 (by rw [h.2.2]; rfl))
     have hb0 : (q.p == 0) = true := eQt (by omega)
     have hb1 : (q.h == 0) = true := eQt (by omega)
     have hb2 : ((q.C.length : Int) == 0) = false := eQf (by omega)
     go_wp2_with fail
     go_meet
     exact ⟨by rw [HV.out], rfl⟩
    ·skip
     have HV : Hid (b8 = true) := bb_yes HB8.out (⟨by omega, by omega, List.eq_nil_of_length_eq_zero (by omega)⟩)
     have hb0 : (q.p == 0) = true := eQt (by omega)
     have hb1 : (q.h == 0) = true := eQt (by omega)
     have hb2 : ((q.C.length : Int) == 0) = true := eQt (by omega)
     go_wp2_with fail
     go_meet
     exact ⟨by rw [HV.out], rfl⟩
 case rest =>
  obtain ⟨rfl, rfl⟩ := hcut
  cases hb : b8 with
  | false =>
   have HN : Hid (¬ bareOk q) := fun h => by have := HB8.out.2 h; rw [hb] at this; cases this
   clear hb
   go_wp2_with fail
   go_ret;exact ⟨by rw [HNO.out (fun h => HN.out h.1)]; rfl, HA.out.below⟩
  | true =>
   have HY := kQ (HB8.out.1 hb);clear hb;by_cases g0 : q.o < 0
   ·have HN := kQ g0
    go_wp2_with fail
    go_ret;exact ⟨by rw [HNO.out (fun h => by have h2 := HN.out; obtain ⟨_, h3, h4, h5, _⟩ := h; omega)]; rfl, HA.out.below⟩
   ·skip
    by_cases g1 : 4 < q.o
    ·have HN := kQ g1
     go_wp2_with fail
     go_ret;exact ⟨by rw [HNO.out (fun h => by have h2 := HN.out; obtain ⟨_, h3, h4, h5, _⟩ := h; omega)]; rfl, HA.out.below⟩
    ·skip
     by_cases g2 : b < q.o
     ·have HN := kQ g2
      go_wp2_with fail
      go_ret;exact ⟨by rw [HNO.out (fun h => by have h2 := HN.out; obtain ⟨_, h3, h4, h5, _⟩ := h; omega)]; rfl, HA.out.below⟩
     ·skip
      by_cases g3 : ¬ chkOk q.R b q.o
      ·have kc := KC.out _ HA.out.below
       rw [chk_no g3] at kc;have HZ := kQ g3;clear g3
       go_wp2_with fail
       refine kc.mono ?_;rintro e w2 ⟨rfl, hb⟩;have HA2 := kQ (HA.out.next hb);clear hb x0 x1 x2 x3 x4 x5 x6 x7 x8 x9 HA;obtain ⟨x0, x1, x2, x3, x4, x5, x6, x7, x8, x9⟩ := sub_cells HA2.out.box
       go_wp2_with fail
       go_ret;exact ⟨by rw [HNO.out (fun h => HZ.out h.2.2.2.2)]; rfl, HA2.out.below⟩
      ·skip
       have HO : Hid (0 <= q.o /\ q.o <= 4 /\ q.o <= b) := ⟨by omega, by omega, by omega⟩
       have g4 := Classical.not_not.1 g3;clear g3;have kc := KC.out _ HA.out.below;rw [chk_yes g4] at kc;have HZ := kQ g4;clear g4
       go_wp2_with fail
       refine kc.mono ?_;rintro e w2 ⟨rfl, hb⟩;have HA2 := kQ (HA.out.next hb);clear hb x0 x1 x2 x3 x4 x5 x6 x7 x8 x9 HA;obtain ⟨x0, x1, x2, x3, x4, x5, x6, x7, x8, x9⟩ := sub_cells HA2.out.box
       go_wp2_with fail
       go_ret;exact ⟨by rw [HYES.out (⟨HY.out, HO.out.1, HO.out.2.1, HO.out.2.2, HZ.out⟩)]; rfl, HA2.out.below⟩
end Go.Proofs.YtfpfabmbipmipaaGreatDoor
