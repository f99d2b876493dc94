/- Own text: the walk of the document's Check. -/
import Derived.Test.YtdlakbgcflekkaaR8shape
namespace Go.Proofs.Ytdlakbgcflekkaa
open Go.RowKit
set_option linter.unusedSimpArgs false
set_option linter.unusedVariables false

set_option maxRecDepth 20000 in
set_option maxHeartbeats 3200000 in
theorem xcheck_spec (c : Rc) (b r : Int) (pa : Option Addr) (pc : Nat) (ea : Option Addr) (ec : Nat) (w : World) (hr : RcAt w c pa ea) :
    Calls Try.prog 19 #[riceV c pa pc ea ec, .int .i64 b, .int .i64 r] w fun en w' => en = .returned (.int .i64 (chkN c b r)) ∧ Below w.heap.size w w' := by
  have HB0 : Hid (RB w c pa pc ea ec (w.alloc (.cells (riceC c pa pc ea ec) 24))) := RB.new w c pa pc ea ec
  have HR : Hid (RcAt w c pa ea) := hr
  clear hr
  have KS : Hid (∀ wx, Calls Try.prog 40 #[riceV c pa pc ea ec, .int .i64 b, .int .i64 r] wx fun en w' => en = .returned (.bool (shapeB c b r)) ∧ Below wx.heap.size wx w') := fun wx => xshape_spec c b r pa pc ea ec wx
  by_cases hcut : (0 ≤ c.m ∧ c.m ≤ 1) ∧ cutOk b r c.o
  case neg =>
    have HN : Hid (chkN c b r = 60) := chk_no (fun h => hcut ⟨h.1, h.2.1⟩)
    have hsh : shapeB c b r = false := decide_eq_false hcut
    rw [hsh] at KS
    clear hcut hsh
    go_enter Try.func19, Try.ntmps19
    go_wp2_with fail
    generalize hwa : w.alloc _ = wa
    have HA : Hid (RB w c pa pc ea ec wa) := by rw [← hwa]; exact HB0.out
    clear hwa HB0
    refine (KS.out wa).mono ?_
    rintro en w2 ⟨rfl, hb2⟩
    have HR2 : Hid (RB w c pa pc ea ec w2) := HA.out.next hb2
    clear HA hb2
    have x0 := HR2.out.c0
    have x1 := HR2.out.c1
    have x2 := HR2.out.c2
    have x3 := HR2.out.c3
    go_wp2_with fail
    go_ret
    exact ⟨by rw [HN.out]; rfl, HR2.out.below⟩
  case pos =>
    have hsh : shapeB c b r = true := decide_eq_true hcut
    rw [hsh] at KS
    clear hsh
    obtain ⟨⟨m0, m1⟩, hcut⟩ := hcut
    obtain ⟨b, r, o, rfl, rfl, ho, hC⟩ := Cut.of hcut
    have HCUT : Hid (cutOk b r c.o) := hcut
    have HO : Hid (2 ^ c.o.toNat = 2 ^ o) := by show _ = _; rw [show c.o.toNat = o by omega]
    have hp := pow15 o hC.o15
    have h15 := hC.o15
    have hpi : (2 : Int) ^ o = ((2 ^ o : Nat) : Int) := by simp
    clear hcut hC
    obtain ⟨cm, co, cP, cE⟩ := c
    dsimp only at ho
    subst ho
    generalize hpn : 2 ^ o = N at *
    clear hpn
    have hn32 := hp.2
    have hE := HR.out.E.len
    have hP := HR.out.P.len
    dsimp only at m0 m1 hE hP
    by_cases l1 : cP.length = N
    case neg =>
      have HN : Hid (chkN ⟨cm, o, cP, cE⟩ b r = 60) := chk_no (fun h => l1 (by have := h.2.2.1; rw [HO.out] at this; exact this))
      have hbn : ((cP.length : Int) != (N : Int)) = true := by rw [bne_iff_ne]; omega
      go_enter Try.func19, Try.ntmps19
      go_wp2_with fail
      generalize hwa : w.alloc _ = wa
      have HA : Hid (RB w ⟨cm, o, cP, cE⟩ pa pc ea ec wa) := by rw [← hwa]; exact HB0.out
      clear hwa HB0
      refine (KS.out wa).mono ?_
      rintro en w2 ⟨rfl, hb2⟩
      have HR2 : Hid (RB w ⟨cm, o, cP, cE⟩ pa pc ea ec w2) := HA.out.next hb2
      clear HA hb2
      have x0 := HR2.out.c0
      have x1 := HR2.out.c1
      have x2 := HR2.out.c2
      have x3 := HR2.out.c3
      go_wp2_with fail
      go_ret
      exact ⟨by rw [HN.out]; rfl, HR2.out.below⟩
    have hbp : ((cP.length : Int) != (N : Int)) = false := by rw [bne_eq_false_iff_eq]; omega
    have HL1 : Hid (cP.length = N) := l1
    clear l1
    by_cases l2 : cE.length = N
    case neg =>
      have HN : Hid (chkN ⟨cm, o, cP, cE⟩ b r = 60) := chk_no (fun h => l2 (by have := h.2.2.2.1; rw [HO.out] at this; exact this))
      have hbn : ((cE.length : Int) != (N : Int)) = true := by rw [bne_iff_ne]; omega
      go_enter Try.func19, Try.ntmps19
      go_wp2_with fail
      generalize hwa : w.alloc _ = wa
      have HA : Hid (RB w ⟨cm, o, cP, cE⟩ pa pc ea ec wa) := by rw [← hwa]; exact HB0.out
      clear hwa HB0
      refine (KS.out wa).mono ?_
      rintro en w2 ⟨rfl, hb2⟩
      have HR2 : Hid (RB w ⟨cm, o, cP, cE⟩ pa pc ea ec w2) := HA.out.next hb2
      clear HA hb2
      have x0 := HR2.out.c0
      have x1 := HR2.out.c1
      have x2 := HR2.out.c2
      have x3 := HR2.out.c3
      go_wp2_with fail
      go_ret
      exact ⟨by rw [HN.out]; rfl, HR2.out.below⟩
    have hbe : ((cE.length : Int) != (N : Int)) = false := by rw [bne_eq_false_iff_eq]; omega
    have HNB : Hid (∀ j, j < N → ¬ mayOk cm (cP.getD j 0) (cE.getD j 0) → chkN ⟨cm, o, cP, cE⟩ b r = 60) := fun j hj h => chk_no (fun hh => h (hh.2.2.2.2 j (by rw [HO.out]; exact hj)))
    have HYS : Hid ((∀ j, j < N → mayOk cm (cP.getD j 0) (cE.getD j 0)) → chkN ⟨cm, o, cP, cE⟩ b r = 0) := fun h => chk_yes ⟨⟨by omega, by omega⟩, HCUT.out, by rw [HO.out]; exact HL1.out, by rw [HO.out]; exact l2, fun j hj => h j (by rw [HO.out] at hj; exact hj)⟩
    have HL2 : Hid (cE.length = N) := l2
    clear l2
    go_enter Try.func19, Try.ntmps19
    go_wp2_with fail
    generalize hwa : w.alloc _ = wa
    have HA : Hid (RB w ⟨cm, o, cP, cE⟩ pa pc ea ec wa) := by rw [← hwa]; exact HB0.out
    clear hwa HB0
    refine (KS.out wa).mono ?_
    rintro en w2 ⟨rfl, hb2⟩
    have HR2 : Hid (RB w ⟨cm, o, cP, cE⟩ pa pc ea ec w2) := HA.out.next hb2
    clear HA hb2
    have x0 := HR2.out.c0
    have x1 := HR2.out.c1
    have x2 := HR2.out.c2
    have x3 := HR2.out.c3

    go_wp2_with fail
    clear x0 x1 x2 x3
    go_loopw [9] (fun s9 wr => ∃ j : Nat, j ≤ N ∧ s9 = .int .i64 (j : Int) ∧ (∀ i, i < j → mayOk cm (cP.getD i 0) (cE.getD i 0)) ∧ RB w ⟨cm, o, cP, cE⟩ pa pc ea ec wr) (fun s9 _ => N - (intOf s9).toNat)
    case atStart => exact ⟨0, Nat.zero_le _, rfl, fun i hi => absurd hi (Nat.not_lt_zero _), HR2.out⟩
    case round =>
      obtain ⟨j, hj, rfl, hs, hcb⟩ := hrel
      have HW : Hid (RB w ⟨cm, o, cP, cE⟩ pa pc ea ec wr) := hcb
      clear hcb HR2
      have HS : Hid (∀ i, i < j → mayOk cm (cP.getD i 0) (cE.getD i 0)) := hs
      clear hs
      by_cases hlt : j < N
      · have hjP : j < cP.length := by rw [HL1.out]; exact hlt
        have hjE : j < cE.length := by rw [HL2.out]; exact hlt
        obtain ⟨b1, o1, e1, q1⟩ := HR.out.P.at j hjP
        obtain ⟨b2, o2, e2, q2⟩ := HR.out.E.at j hjE
        have r1 := q1 wr HW.out.below
        have r2 := q2 wr HW.out.below
        have x2 := HW.out.c2
        have x3 := HW.out.c3
        rw [e1] at x2
        rw [e2] at x3
        clear q1 q2 e1 e2
        dsimp only at r1 r2 x2 x3
        generalize hkk : cP.getD j 0 = kk at r1
        generalize hee : cE.getD j 0 = ee at r2
        by_cases g0 : ee < -1
        · have HN : Hid (chkN ⟨cm, o, cP, cE⟩ b r = 60) := HNB.out j hlt (by rw [hkk, hee]; unfold mayOk; omega)
          clear hkk hee
          go_wp2_with fail
          go_ret
          exact ⟨by rw [HN.out]; rfl, HW.out.below⟩
        · skip
          by_cases g1 : 31 < ee
          · have HN : Hid (chkN ⟨cm, o, cP, cE⟩ b r = 60) := HNB.out j hlt (by rw [hkk, hee]; unfold mayOk; omega)
            clear hkk hee
            go_wp2_with fail
            go_ret
            exact ⟨by rw [HN.out]; rfl, HW.out.below⟩
          · skip
            by_cases g2 : 0 ≤ ee ∧ ¬ kk = 0
            · obtain ⟨g2, g2k⟩ := g2
              have hbk : (kk != 0) = true := by rw [bne_iff_ne]; exact g2k
              have HN : Hid (chkN ⟨cm, o, cP, cE⟩ b r = 60) := HNB.out j hlt (by rw [hkk, hee]; unfold mayOk; omega)
              clear hkk hee
              go_wp2_with fail
              go_ret
              exact ⟨by rw [HN.out]; rfl, HW.out.below⟩
            · skip
              by_cases g3 : kk < 0
              · have HN : Hid (chkN ⟨cm, o, cP, cE⟩ b r = 60) := HNB.out j hlt (by rw [hkk, hee]; unfold mayOk; omega)
                clear hkk hee
                go_wp2_with fail
                go_ret
                exact ⟨by rw [HN.out]; rfl, HW.out.below⟩
              · skip
                by_cases g4 : 14 + 16 * cm < kk
                · have HN : Hid (chkN ⟨cm, o, cP, cE⟩ b r = 60) := HNB.out j hlt (by rw [hkk, hee]; unfold mayOk; omega)
                  clear hkk hee
                  go_wp2_with fail
                  go_ret
                  exact ⟨by rw [HN.out]; rfl, HW.out.below⟩
                · skip
                  have HX : Hid (∀ i, i = j → mayOk cm (cP.getD i 0) (cE.getD i 0)) := fun i hi => by rw [hi, hkk, hee]; unfold mayOk; omega
                  clear hkk hee
                  go_wp2_with fail
                  · go_roundw
                    case rel =>
                      refine ⟨j + 1, by omega, by go_num, fun i hi => ?_, HW.out⟩
                      by_cases e : i = j
                      · exact HX.out i e
                      · exact HS.out i (by omega)
                    case measure => simp [intOf]; omega
                  · go_roundw
                    case rel =>
                      refine ⟨j + 1, by omega, by go_num, fun i hi => ?_, HW.out⟩
                      by_cases e : i = j
                      · exact HX.out i e
                      · exact HS.out i (by omega)
                    case measure => simp [intOf]; omega
      · have HN : Hid (chkN ⟨cm, o, cP, cE⟩ b r = 0) := HYS.out (fun i hi => HS.out i (by omega))
        go_wp2_with fail
        go_ret
        exact ⟨by rw [HN.out]; rfl, HW.out.below⟩

end Go.Proofs.Ytdlakbgcflekkaa
