/- Own text. -/
import Derived.Test.YthgpleelpeacjaaGreatDoorH11
set_option linter.unusedSimpArgs false
set_option linter.unusedVariables false
set_option maxRecDepth 20000
set_option maxHeartbeats 12800000
namespace Go.Proofs.YthgpleelpeacjaaGreatDoor
open Go.RowKit
def shapeB (c : Rc) (b r : Int) : Bool := decide ((0 ≤ c.m ∧ c.m ≤ 1) ∧ cutOk b r c.o)
theorem xshape_spec (c : Rc) (b r : Int) (pa : Option Addr) (pc : Nat) (ea : Option Addr) (ec : Nat) (w : World) :
  Calls Tryz.prog 81 #[riceV c pa pc ea ec, .int .i64 b, .int .i64 r] w fun en w' => en = .returned (.bool (shapeB c b r)) ∧ Below w.heap.size w w' := by
 have HB1 : Hid (Below w.heap.size w (w.alloc (.cells (riceC c pa pc ea ec) 25))) := (Below.refl _ _).alloc (Nat.le_refl _) _
 by_cases g0 : c.m < 0
 ·have hd : shapeB c b r = false := decide_eq_false (fun h => by have := h.1; have := cut_head h.2; omega)
  rw [hd]
  clear hd
  go_enter Tryz.func81, Tryz.ntmps81
  go_wp2
  go_ret
  exact ⟨rfl, HB1.out⟩
 ·skip
  by_cases g1 : 1 < c.m
  ·have hd : shapeB c b r = false := decide_eq_false (fun h => by have := h.1; have := cut_head h.2; omega)
   rw [hd]
   clear hd
   go_enter Tryz.func81, Tryz.ntmps81
   go_wp2
   go_ret
   exact ⟨rfl, HB1.out⟩
  ·skip
   by_cases g2 : c.o < 0
   ·have hd : shapeB c b r = false := decide_eq_false (fun h => by have := h.1; have := cut_head h.2; omega)
    rw [hd]
    clear hd
    go_enter Tryz.func81, Tryz.ntmps81
    go_wp2
    go_ret
    exact ⟨rfl, HB1.out⟩
   ·skip
    by_cases g3 : 15 < c.o
    ·have hd : shapeB c b r = false := decide_eq_false (fun h => by have := h.1; have := cut_head h.2; omega)
     rw [hd]
     clear hd
     go_enter Tryz.func81, Tryz.ntmps81
     go_wp2
     go_ret
     exact ⟨rfl, HB1.out⟩
    ·skip
     by_cases g4 : b < 1
     ·have hd : shapeB c b r = false := decide_eq_false (fun h => by have := h.1; have := cut_head h.2; omega)
      rw [hd]
      clear hd
      go_enter Tryz.func81, Tryz.ntmps81
      go_wp2
      go_ret
      exact ⟨rfl, HB1.out⟩
     ·skip
      by_cases g5 : 65535 < b
      ·have hd : shapeB c b r = false := decide_eq_false (fun h => by have := h.1; have := cut_head h.2; omega)
       rw [hd]
       clear hd
       go_enter Tryz.func81, Tryz.ntmps81
       go_wp2
       go_ret
       exact ⟨rfl, HB1.out⟩
      ·skip
       by_cases g6 : r < 0
       ·have hd : shapeB c b r = false := decide_eq_false (fun h => by have := h.1; have := cut_head h.2; omega)
        rw [hd]
        clear hd
        go_enter Tryz.func81, Tryz.ntmps81
        go_wp2
        go_ret
        exact ⟨rfl, HB1.out⟩
       ·skip
        by_cases g7 : 32 < r
        ·have hd : shapeB c b r = false := decide_eq_false (fun h => by have := h.1; have := cut_head h.2; omega)
         rw [hd]
         clear hd
         go_enter Tryz.func81, Tryz.ntmps81
         go_wp2
         go_ret
         exact ⟨rfl, HB1.out⟩
        ·skip
         have HS : Hid (shapeB c b r = decide (b % 2 ^ c.o.toNat = 0 ∧ r ≤ b / 2 ^ c.o.toNat)) := by
          show _ = _
          unfold shapeB cutOk
          by_cases h1 : b % 2 ^ c.o.toNat = 0 ∧ r ≤ b / 2 ^ c.o.toNat
          ·rw [decide_eq_true h1, decide_eq_true]
           exact ⟨⟨by omega, by omega⟩, by omega, by omega, by omega, by omega, by omega, by omega, h1.1, h1.2⟩
          ·rw [decide_eq_false h1, decide_eq_false]
           exact fun h => h1 ⟨h.2.2.2.2.2.2.2.1, h.2.2.2.2.2.2.2.2⟩
         obtain ⟨o, ho⟩ : ∃ o' : Nat, c.o = o' := ⟨c.o.toNat, by omega⟩
         have ho2 : c.o.toNat = o := by omega
         have ho15 : o ≤ 15 := by omega
         rw [ho2] at HS
         obtain ⟨hp1, hp2⟩ := pow15i o ho15
         have hbm : b.tmod (2 ^ o) = b % 2 ^ o := Int.tmod_eq_emod_of_nonneg (by omega)
         have hbd : b.tdiv (2 ^ o) = b / 2 ^ o := Int.tdiv_eq_ediv_of_nonneg (by omega)
         have hdl : b / 2 ^ o ≤ b := Int.ediv_le_self _ (by omega)
         have hd0 : (0 : Int) ≤ b / 2 ^ o := Int.ediv_nonneg (by omega) (by omega)
         have hm0 : (0 : Int) ≤ b % 2 ^ o := Int.emod_nonneg _ (by omega)
         have hm1 : b % 2 ^ o < 2 ^ o := Int.emod_lt_of_pos _ (by omega)
         generalize b / 2 ^ o = d at *
         generalize b % 2 ^ o = m at *
         generalize hH : (2 : Int) ^ o = p at *
         clear ho2
         obtain ⟨cm, co, cP, cE⟩ := c
         dsimp only at *
         subst ho
         by_cases g8 : m = 0
         ·have hb1 : (m == 0) = true := by rw [g8]; rfl
          by_cases g9 : r ≤ d
          ·have hb2 : decide (r ≤ d) = true := decide_eq_true g9
           have hd : shapeB ⟨cm, o, cP, cE⟩ b r = true := by rw [HS.out, decide_eq_true ⟨g8, g9⟩]
           rw [hd]
           clear hd HS
           go_enter Tryz.func81, Tryz.ntmps81
           go_wp2
           go_ret
           exact ⟨rfl, HB1.out⟩
          ·have hb2 : decide (r ≤ d) = false := decide_eq_false g9
           have hd : shapeB ⟨cm, o, cP, cE⟩ b r = false := by rw [HS.out, decide_eq_false (fun h => g9 h.2)]
           rw [hd]
           clear hd HS
           go_enter Tryz.func81, Tryz.ntmps81
           go_wp2
           go_ret
           exact ⟨rfl, HB1.out⟩
         ·have hb1 : (m == 0) = false := by rw [beq_eq_false_iff_ne]; exact g8
          have hd : shapeB ⟨cm, o, cP, cE⟩ b r = false := by rw [HS.out, decide_eq_false (fun h => g8 h.1)]
          rw [hd]
          clear hd HS
          go_enter Tryz.func81, Tryz.ntmps81
          go_wp2
          go_ret
          exact ⟨rfl, HB1.out⟩
theorem xpart_spec (c : Rc) (b o r i : Nat) (h : Cut b o r) (ho : c.o = o) (hi : i < 2 ^ o) (pa : Option Addr) (pc : Nat) (ea : Option Addr) (ec : Nat) (w : World) :
  Calls Tryz.prog 82 #[riceV c pa pc ea ec, .int .i64 (b : Int), .int .i64 (r : Int), .int .i64 (i : Int)] w fun en w' => en = .returned (.tuple #[.int .i64 (frN b o r i : Int), .int .i64 (frN b o r (i + 1) : Int)]) ∧ Below w.heap.size w w' := by
 have HB1 : Hid (Below w.heap.size w (w.alloc (.cells (riceC c pa pc ea ec) 25))) := (Below.refl _ _).alloc (Nat.le_refl _) _
 have hbd : (b : Int) / 2 ^ o = ((b / 2 ^ o : Nat) : Int) := by push_cast; rfl
 have hfs := h.fr_succ i
 have hf : frN b o r i = i * (b / 2 ^ o) - r := rfl
 have hfb := frN_bound h (i + 1) hi
 have hmo := frN_mono b o r i
 have hi2 : i < 32768 := by have := (pow15 o h.o15).2; omega
 have hd : b / 2 ^ o ≤ 65535 := by have := Nat.div_le_self b (2 ^ o); have := h.b2; omega
 have hle := h.le
 have hmul : ((i : Int) + 1) * ((b / 2 ^ o : Nat) : Int) = ((frN b o r (i + 1) : Nat) : Int) + (r : Int) := by
  have e : (((i + 1) * (b / 2 ^ o) : Nat) : Int) = ((frN b o r (i + 1) + r : Nat) : Int) := by rw [hfs]
  push_cast at e
  push_cast
  exact e
 have hmul0 : (i : Int) * ((b / 2 ^ o : Nat) : Int) = ((i * (b / 2 ^ o) : Nat) : Int) := by push_cast; rfl
 have hr := h.r2
 have hb2 := h.b2
 have h15 := h.o15
 have hir : ¬ i = 0 → r ≤ i * (b / 2 ^ o) := fun h0 => by have := Nat.mul_le_mul_right (b / 2 ^ o) (show 1 ≤ i by omega); omega
 have hml : i * (b / 2 ^ o) ≤ 70000 := by rw [Nat.add_mul] at hfs; omega
 obtain ⟨cm, co, cP, cE⟩ := c
 dsimp only at ho
 subst ho
 generalize i * (b / 2 ^ o) = mm at *
 generalize frN b o r (i + 1) = t at *
 generalize frN b o r i = f at *
 generalize b / 2 ^ o = d at *
 obtain ⟨e, he⟩ : ∃ e : Int, e = (t : Int) + (r : Int) := ⟨_, rfl⟩
 rw [← he] at hmul
 have hsub : e - (r : Int) = (t : Int) := by omega
 have he1 : 0 ≤ e := by omega
 have he2 : e ≤ 70000 := by omega
 clear he h hi hfs hle
 by_cases h0 : i = 0
 ·subst h0
  have hff : f = 0 := by
   have e0 : ((0 : Nat) : Int) * (d : Int) = 0 := by simp
   rw [e0] at hmul0
   omega
  subst hff
  have hdr : (d : Int) - (r : Int) = (t : Int) := by rw [show ((0 : Nat) : Int) + 1 = 1 from rfl, Int.one_mul] at hmul; omega
  clear hir hf hmul0 hmul hsub
  go_enter Tryz.func82, Tryz.ntmps82
  go_wp2
  go_ret2
  exact ⟨rfl, HB1.out⟩
 ·have hir' := hir h0
  have hsub0 : ((mm : Nat) : Int) - (r : Int) = (f : Int) := by omega
  have hib : ((i : Int) == 0) = false := by rw [beq_eq_false_iff_ne]; omega
  clear hir hf
  go_enter Tryz.func82, Tryz.ntmps82
  go_wp2
  go_ret2
  exact ⟨rfl, HB1.out⟩
theorem xcheck_spec (c : Rc) (b r : Int) (pa : Option Addr) (pc : Nat) (ea : Option Addr) (ec : Nat) (w : World) (hr : RcAt w c pa ea) :
  Calls Tryz.prog 196 #[riceV c pa pc ea ec, .int .i64 b, .int .i64 r] w fun en w' => en = .returned (.int .i64 (chkN c b r)) ∧ Below w.heap.size w w' := by
 have HB0 : Hid (RB w c pa pc ea ec (w.alloc (.cells (riceC c pa pc ea ec) 25))) := RB.new w c pa pc ea ec
 have HR : Hid (RcAt w c pa ea) := hr
 clear hr
 have KS : Hid (∀ wx, Calls Tryz.prog 81 #[riceV c pa pc ea ec, .int .i64 b, .int .i64 r] wx fun en w' => en = .returned (.bool (shapeB c b r)) ∧ Below wx.heap.size wx w') := fun wx => xshape_spec c b r pa pc ea ec wx
 by_cases hcut : (0 ≤ c.m ∧ c.m ≤ 1) ∧ cutOk b r c.o
 case neg =>
  have HN : Hid (chkN c b r = 60) := chk_no (fun h => hcut ⟨h.1, h.2.1⟩)
  have hsh : shapeB c b r = false := decide_eq_false hcut
  rw [hsh] at KS
  clear hcut hsh
  go_enter Tryz.func196, Tryz.ntmps196
  go_wp2_with fail
  generalize hwa : w.alloc _ = wa
  have HA : Hid (RB w c pa pc ea ec wa) := by rw [← hwa]; exact HB0.out
  clear hwa HB0
  refine (KS.out wa).mono ?_
  rintro en w2 ⟨rfl, hb2⟩
  have HR2 : Hid (RB w c pa pc ea ec w2) := HA.out.next hb2
  clear HA hb2
  have x0 := HR2.out.c0
  have x1 := HR2.out.c1
  have x2 := HR2.out.c2
  have x3 := HR2.out.c3
  go_wp2_with fail
  go_ret
  exact ⟨by rw [HN.out]; rfl, HR2.out.below⟩
 case pos =>
  have hsh : shapeB c b r = true := decide_eq_true hcut
  rw [hsh] at KS
  clear hsh
  obtain ⟨⟨m0, m1⟩, hcut⟩ := hcut
  obtain ⟨b, r, o, rfl, rfl, ho, hC⟩ := Cut.of hcut
  have HCUT : Hid (cutOk b r c.o) := hcut
  have HO : Hid (2 ^ c.o.toNat = 2 ^ o) := by show _ = _; rw [show c.o.toNat = o by omega]
  have hp := pow15 o hC.o15
  have h15 := hC.o15
  have hpi : (2 : Int) ^ o = ((2 ^ o : Nat) : Int) := by simp
  clear hcut hC
  obtain ⟨cm, co, cP, cE⟩ := c
  dsimp only at ho
  subst ho
  generalize hpn : 2 ^ o = N at *
  clear hpn
  have hn32 := hp.2
  have hE := HR.out.E.len
  have hP := HR.out.P.len
  dsimp only at m0 m1 hE hP
  by_cases l1 : cP.length = N
  case neg =>
   have HN : Hid (chkN ⟨cm, o, cP, cE⟩ b r = 60) := chk_no (fun h => l1 (by have := h.2.2.1; rw [HO.out] at this; exact this))
   have hbn : ((cP.length : Int) != (N : Int)) = true := by rw [bne_iff_ne]; omega
   go_enter Tryz.func196, Tryz.ntmps196
   go_wp2_with fail
   generalize hwa : w.alloc _ = wa
   have HA : Hid (RB w ⟨cm, o, cP, cE⟩ pa pc ea ec wa) := by rw [← hwa]; exact HB0.out
   clear hwa HB0
   refine (KS.out wa).mono ?_
   rintro en w2 ⟨rfl, hb2⟩
   have HR2 : Hid (RB w ⟨cm, o, cP, cE⟩ pa pc ea ec w2) := HA.out.next hb2
   clear HA hb2
   have x0 := HR2.out.c0
   have x1 := HR2.out.c1
   have x2 := HR2.out.c2
   have x3 := HR2.out.c3
   go_wp2_with fail
   go_ret
   exact ⟨by rw [HN.out]; rfl, HR2.out.below⟩
  have hbp : ((cP.length : Int) != (N : Int)) = false := by rw [bne_eq_false_iff_eq]; omega
  have HL1 : Hid (cP.length = N) := l1
  clear l1
  by_cases l2 : cE.length = N
  case neg =>
   have HN : Hid (chkN ⟨cm, o, cP, cE⟩ b r = 60) := chk_no (fun h => l2 (by have := h.2.2.2.1; rw [HO.out] at this; exact this))
   have hbn : ((cE.length : Int) != (N : Int)) = true := by rw [bne_iff_ne]; omega
   go_enter Tryz.func196, Tryz.ntmps196
   go_wp2_with fail
   generalize hwa : w.alloc _ = wa
   have HA : Hid (RB w ⟨cm, o, cP, cE⟩ pa pc ea ec wa) := by rw [← hwa]; exact HB0.out
   clear hwa HB0
   refine (KS.out wa).mono ?_
   rintro en w2 ⟨rfl, hb2⟩
   have HR2 : Hid (RB w ⟨cm, o, cP, cE⟩ pa pc ea ec w2) := HA.out.next hb2
   clear HA hb2
   have x0 := HR2.out.c0
   have x1 := HR2.out.c1
   have x2 := HR2.out.c2
   have x3 := HR2.out.c3
   go_wp2_with fail
   go_ret
   exact ⟨by rw [HN.out]; rfl, HR2.out.below⟩
  have hbe : ((cE.length : Int) != (N : Int)) = false := by rw [bne_eq_false_iff_eq]; omega
  have HNB : Hid (∀ j, j < N → ¬ mayOk cm (cP.getD j 0) (cE.getD j 0) → chkN ⟨cm, o, cP, cE⟩ b r = 60) := fun j hj h => chk_no (fun hh => h (hh.2.2.2.2 j (by rw [HO.out]; exact hj)))
  have HYS : Hid ((∀ j, j < N → mayOk cm (cP.getD j 0) (cE.getD j 0)) → chkN ⟨cm, o, cP, cE⟩ b r = 0) := fun h => chk_yes ⟨⟨by omega, by omega⟩, HCUT.out, by rw [HO.out]; exact HL1.out, by rw [HO.out]; exact l2, fun j hj => h j (by rw [HO.out] at hj; exact hj)⟩
  have HL2 : Hid (cE.length = N) := l2
  clear l2
  go_enter Tryz.func196, Tryz.ntmps196
  go_wp2_with fail
  generalize hwa : w.alloc _ = wa
  have HA : Hid (RB w ⟨cm, o, cP, cE⟩ pa pc ea ec wa) := by rw [← hwa]; exact HB0.out
  clear hwa HB0
  refine (KS.out wa).mono ?_
  rintro en w2 ⟨rfl, hb2⟩
  have HR2 : Hid (RB w ⟨cm, o, cP, cE⟩ pa pc ea ec w2) := HA.out.next hb2
  clear HA hb2
  have x0 := HR2.out.c0
  have x1 := HR2.out.c1
  have x2 := HR2.out.c2
  have x3 := HR2.out.c3
  go_wp2_with fail
  clear x0 x1 x2 x3
  go_loopw [9] (fun s9 wr => ∃ j : Nat, j ≤ N ∧ s9 = .int .i64 (j : Int) ∧ (∀ i, i < j → mayOk cm (cP.getD i 0) (cE.getD i 0)) ∧ RB w ⟨cm, o, cP, cE⟩ pa pc ea ec wr) (fun s9 _ => N - (intOf s9).toNat)
  case atStart => exact ⟨0, Nat.zero_le _, rfl, fun i hi => absurd hi (Nat.not_lt_zero _), HR2.out⟩
  case round =>
   obtain ⟨j, hj, rfl, hs, hcb⟩ := hrel
   have HW : Hid (RB w ⟨cm, o, cP, cE⟩ pa pc ea ec wr) := hcb
   clear hcb HR2
   have HS : Hid (∀ i, i < j → mayOk cm (cP.getD i 0) (cE.getD i 0)) := hs
   clear hs
   by_cases hlt : j < N
   ·have hjP : j < cP.length := by rw [HL1.out]; exact hlt
    have hjE : j < cE.length := by rw [HL2.out]; exact hlt
    obtain ⟨b1, o1, e1, q1⟩ := HR.out.P.at j hjP
    obtain ⟨b2, o2, e2, q2⟩ := HR.out.E.at j hjE
    have r1 := q1 wr HW.out.below
    have r2 := q2 wr HW.out.below
    have x2 := HW.out.c2
    have x3 := HW.out.c3
    rw [e1] at x2
    rw [e2] at x3
    clear q1 q2 e1 e2
    dsimp only at r1 r2 x2 x3
    generalize hkk : cP.getD j 0 = kk at r1
    generalize hee : cE.getD j 0 = ee at r2
    by_cases g0 : ee < -1
    ·have HN : Hid (chkN ⟨cm, o, cP, cE⟩ b r = 60) := HNB.out j hlt (by rw [hkk, hee]; unfold mayOk; omega)
     clear hkk hee
     go_wp2_with fail
     go_ret
     exact ⟨by rw [HN.out]; rfl, HW.out.below⟩
    ·skip
     by_cases g1 : 31 < ee
     ·have HN : Hid (chkN ⟨cm, o, cP, cE⟩ b r = 60) := HNB.out j hlt (by rw [hkk, hee]; unfold mayOk; omega)
      clear hkk hee
      go_wp2_with fail
      go_ret
      exact ⟨by rw [HN.out]; rfl, HW.out.below⟩
     ·skip
      by_cases g2 : 0 ≤ ee ∧ ¬ kk = 0
      ·obtain ⟨g2, g2k⟩ := g2
       have hbk : (kk != 0) = true := by rw [bne_iff_ne]; exact g2k
       have HN : Hid (chkN ⟨cm, o, cP, cE⟩ b r = 60) := HNB.out j hlt (by rw [hkk, hee]; unfold mayOk; omega)
       clear hkk hee
       go_wp2_with fail
       go_ret
       exact ⟨by rw [HN.out]; rfl, HW.out.below⟩
      ·skip
       by_cases g3 : kk < 0
       ·have HN : Hid (chkN ⟨cm, o, cP, cE⟩ b r = 60) := HNB.out j hlt (by rw [hkk, hee]; unfold mayOk; omega)
        clear hkk hee
        go_wp2_with fail
        go_ret
        exact ⟨by rw [HN.out]; rfl, HW.out.below⟩
       ·skip
        by_cases g4 : 14 + 16 * cm < kk
        ·have HN : Hid (chkN ⟨cm, o, cP, cE⟩ b r = 60) := HNB.out j hlt (by rw [hkk, hee]; unfold mayOk; omega)
         clear hkk hee
         go_wp2_with fail
         go_ret
         exact ⟨by rw [HN.out]; rfl, HW.out.below⟩
        ·skip
         have HX : Hid (∀ i, i = j → mayOk cm (cP.getD i 0) (cE.getD i 0)) := fun i hi => by rw [hi, hkk, hee]; unfold mayOk; omega
         clear hkk hee
         go_wp2_with fail
         ·go_roundw
          case rel =>
           refine ⟨j + 1, by omega, by go_num, fun i hi => ?_, HW.out⟩
           by_cases e : i = j
           ·exact HX.out i e
           ·exact HS.out i (by omega)
          case measure => simp [intOf]; omega
         ·go_roundw
          case rel =>
           refine ⟨j + 1, by omega, by go_num, fun i hi => ?_, HW.out⟩
           by_cases e : i = j
           ·exact HX.out i e
           ·exact HS.out i (by omega)
          case measure => simp [intOf]; omega
   ·have HN : Hid (chkN ⟨cm, o, cP, cE⟩ b r = 0) := HYS.out (fun i hi => HS.out i (by omega))
    go_wp2_with fail
    go_ret
    exact ⟨by rw [HN.out]; rfl, HW.out.below⟩
theorem rc_zero_iff (c : Rc) : c = R0 ↔ c.m = 0 ∧ c.o = 0 ∧ c.P.length = 0 ∧ c.E.length = 0 := by
 refine ⟨fun h => by rw [h]; exact ⟨rfl, rfl, rfl, rfl⟩, fun h => ?_⟩
 obtain ⟨m, o, P, E⟩ := c
 obtain ⟨h1, h2, h3, h4⟩ := h
 rw [List.length_eq_zero_iff] at h3 h4
 simp only at h1 h2 h3 h4
 rw [h1, h2, h3, h4]
theorem xsame0 (c : Rc) (hP : c.P.length ≤ 17592186044415) (hE : c.E.length ≤ 17592186044415) (pa : Option Addr) (pc : Nat) (ea : Option Addr) (ec : Nat) (bb : Bool) (hbb : bb = true ↔ c = R0) (w : World) : Calls Tryz.prog 38 #[riceV c pa pc ea ec, .agg #[.int .i64 0, .int .i64 0, .slice none 0 0, .slice none 0 0]] w fun e w' => e = .returned (.bool bb) ∧ Below w.heap.size w w' := by
 rw [rc_zero_iff] at hbb
 by_cases g0 : ¬ c.m = 0
 ·rw [bb_no hbb (fun h => g0 h.1)]
  clear hbb
  have n0 : (c.m != 0) = true := by rw [bne_iff_ne]; omega
  have HA : Hid (Below w.heap.size w ((w.alloc (.cells (riceC c pa pc ea ec) 25)).alloc (.cells #[.int .i64 0, .int .i64 0, .slice none 0 0, .slice none 0 0] 25))) := ((Below.refl _ _).alloc (Nat.le_refl _) _).alloc (by simp) _
  go_enter Tryz.func38, Tryz.ntmps38
  go_wp2_with fail
  go_ret
  exact ⟨rfl, HA.out⟩
 ·skip
  by_cases g1 : ¬ c.o = 0
  ·rw [bb_no hbb (fun h => g1 h.2.1)]
   clear hbb
   have n0 : (c.m != 0) = false := by rw [bne_eq_false_iff_eq]; omega
   have n1 : (c.o != 0) = true := by rw [bne_iff_ne]; omega
   have HA : Hid (Below w.heap.size w ((w.alloc (.cells (riceC c pa pc ea ec) 25)).alloc (.cells #[.int .i64 0, .int .i64 0, .slice none 0 0, .slice none 0 0] 25))) := ((Below.refl _ _).alloc (Nat.le_refl _) _).alloc (by simp) _
   go_enter Tryz.func38, Tryz.ntmps38
   go_wp2_with fail
   go_ret
   exact ⟨rfl, HA.out⟩
  ·skip
   by_cases g2 : ¬ c.P.length = 0
   ·rw [bb_no hbb (fun h => g2 h.2.2.1)]
    clear hbb
    have n0 : (c.m != 0) = false := by rw [bne_eq_false_iff_eq]; omega
    have n1 : (c.o != 0) = false := by rw [bne_eq_false_iff_eq]; omega
    have n2 : ((c.P.length : Int) != 0) = true := by rw [bne_iff_ne]; omega
    have HA : Hid (Below w.heap.size w ((w.alloc (.cells (riceC c pa pc ea ec) 25)).alloc (.cells #[.int .i64 0, .int .i64 0, .slice none 0 0, .slice none 0 0] 25))) := ((Below.refl _ _).alloc (Nat.le_refl _) _).alloc (by simp) _
    go_enter Tryz.func38, Tryz.ntmps38
    go_wp2_with fail
    go_ret
    exact ⟨rfl, HA.out⟩
   ·skip
    by_cases g3 : ¬ c.E.length = 0
    ·rw [bb_no hbb (fun h => g3 h.2.2.2)]
     clear hbb
     have n0 : (c.m != 0) = false := by rw [bne_eq_false_iff_eq]; omega
     have n1 : (c.o != 0) = false := by rw [bne_eq_false_iff_eq]; omega
     have n2 : ((c.P.length : Int) != 0) = false := by rw [bne_eq_false_iff_eq]; omega
     have n3 : ((c.E.length : Int) != 0) = true := by rw [bne_iff_ne]; omega
     have HA : Hid (Below w.heap.size w ((w.alloc (.cells (riceC c pa pc ea ec) 25)).alloc (.cells #[.int .i64 0, .int .i64 0, .slice none 0 0, .slice none 0 0] 25))) := ((Below.refl _ _).alloc (Nat.le_refl _) _).alloc (by simp) _
     go_enter Tryz.func38, Tryz.ntmps38
     go_wp2_with fail
     go_ret
     exact ⟨rfl, HA.out⟩
    ·skip
     rw [bb_yes hbb ⟨Classical.not_not.1 g0, Classical.not_not.1 g1, Classical.not_not.1 g2, Classical.not_not.1 g3⟩]
     clear hbb
     have n0 : (c.m != 0) = false := by rw [bne_eq_false_iff_eq]; omega
     have n1 : (c.o != 0) = false := by rw [bne_eq_false_iff_eq]; omega
     have n2 : ((c.P.length : Int) != 0) = false := by rw [bne_eq_false_iff_eq]; omega
     have n3 : ((c.E.length : Int) != 0) = false := by rw [bne_eq_false_iff_eq]; omega
     have hP0 : c.P.length = 0 := by omega
     have hE0 : c.E.length = 0 := by omega
     have HA : Hid (Below w.heap.size w ((w.alloc (.cells (riceC c pa pc ea ec) 25)).alloc (.cells #[.int .i64 0, .int .i64 0, .slice none 0 0, .slice none 0 0] 25))) := ((Below.refl _ _).alloc (Nat.le_refl _) _).alloc (by simp) _
     go_enter Tryz.func38, Tryz.ntmps38
     go_wp2_with fail
     go_loopw [5] (fun s5 wr => s5 = .int .i64 0 ∧ wr = (w.alloc (.cells (riceC c pa pc ea ec) 25)).alloc (.cells #[.int .i64 0, .int .i64 0, .slice none 0 0, .slice none 0 0] 25)) (fun _ _ => 0)
     case atStart => exact ⟨rfl, rfl⟩
     case round =>
      obtain ⟨rfl, rfl⟩ := hrel
      go_wp2_with fail
      go_loopw [6] (fun s6 wr => s6 = .int .i64 0 ∧ wr = (w.alloc (.cells (riceC c pa pc ea ec) 25)).alloc (.cells #[.int .i64 0, .int .i64 0, .slice none 0 0, .slice none 0 0] 25)) (fun _ _ => 0)
      case atStart => exact ⟨rfl, rfl⟩
      case round =>
       obtain ⟨rfl, rfl⟩ := hrel
       go_wp2_with fail
       go_ret
       exact ⟨rfl, HA.out⟩
end Go.Proofs.YthgpleelpeacjaaGreatDoor
