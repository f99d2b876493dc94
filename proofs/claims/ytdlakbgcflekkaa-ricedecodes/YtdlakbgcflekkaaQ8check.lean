/- Own text: the walk of the program's Check. -/
import Derived.Test.YtdlakbgcflekkaaQ8cost
namespace Go.Proofs.Ytdlakbgcflekkaa
open Go.RowKit
set_option linter.unusedSimpArgs false
set_option linter.unusedVariables false

def chkN (c : Rc) (b r : Int) : Int := if chkOk c b r then 0 else 60
theorem chk_no {c : Rc} {b r : Int} (h : ¬ chkOk c b r) : chkN c b r = 60 := by unfold chkN; rw [if_neg h]
theorem chk_yes {c : Rc} {b r : Int} (h : chkOk c b r) : chkN c b r = 0 := by unfold chkN; rw [if_pos h]

/-- A recipe's box and a cut's behind it. -/
structure CB (w : World) (c : Rc) (pa : Option Addr) (pc : Nat) (ea : Option Addr) (ec : Nat) (q : Nat) (p s f : Int) (wx : World) : Prop where
  rb : RB w c pa pc ea ec wx
  box : wx.heap[q]? = some (.cells #[.int .i64 p, .int .i64 s, .int .i64 f] 66 (0, 0))
  lt : w.heap.size < q
section
variable {w wx w' : World} {c : Rc} {pa : Option Addr} {pc : Nat} {ea : Option Addr} {ec : Nat} {q : Nat} {p s f : Int}
theorem CB.new (h : RB w c pa pc ea ec wx) (p s f : Int) : CB w c pa pc ea ec wx.heap.size p s f (wx.alloc (.cells #[.int .i64 p, .int .i64 s, .int .i64 f] 66)) :=
  ⟨h.next ((Below.refl _ _).alloc (Nat.le_refl _) _), heap_alloc_new _ _, lt_of_block h.box⟩
theorem CB.next (h : CB w c pa pc ea ec q p s f wx) (hb : Below wx.heap.size wx w') : CB w c pa pc ea ec q p s f w' :=
  ⟨h.rb.next hb, by rw [hb.block _ (lt_of_block h.box)]; exact h.box, h.lt⟩
theorem CB.past (h : CB w c pa pc ea ec q p s f wx) (hb : Below (q + 1) wx w') : CB w c pa pc ea ec q p s f w' :=
  ⟨h.rb.past (hb.mono (by have := h.lt; omega)), by rw [hb.block _ (by omega)]; exact h.box, h.lt⟩
theorem CB.drewN (h : CB w c pa pc ea ec q p s f wx) (n : Nat) : CB w c pa pc ea ec q p s f (wx.drewN n) := h.next (below_drewN _ _)
theorem CB.q0 (h : CB w c pa pc ea ec q p s f wx) : wx.cell? ⟨q, 0, none⟩ = some (.int .i64 p) := by rw [cell_of_row _ _ _ _ _ _ h.box]; rfl
theorem CB.q1 (h : CB w c pa pc ea ec q p s f wx) : wx.cell? ⟨q, 1, none⟩ = some (.int .i64 s) := by rw [cell_of_row _ _ _ _ _ _ h.box]; rfl
theorem CB.q2 (h : CB w c pa pc ea ec q p s f wx) : wx.cell? ⟨q, 2, none⟩ = some (.int .i64 f) := by rw [cell_of_row _ _ _ _ _ _ h.box]; rfl
end
set_option maxRecDepth 20000 in
set_option maxHeartbeats 3200000 in
theorem check_spec (c : Rc) (b r : Int) (pa : Option Addr) (pc : Nat) (ea : Option Addr) (ec : Nat) (w : World) (hr : RcAt w c pa ea) :
    Calls Try.prog 18 #[riceV c pa pc ea ec, .int .i64 b, .int .i64 r] w fun en w' => en = .returned (.int .i64 (chkN c b r)) ∧ Below w.heap.size w w' := by
  have HB0 : Hid (RB w c pa pc ea ec (w.alloc (.cells (riceC c pa pc ea ec) 24))) := RB.new w c pa pc ea ec
  have HR : Hid (RcAt w c pa ea) := hr
  clear hr
  by_cases hcut : cutOk b r c.o
  case neg =>
    have HN : Hid (chkN c b r = 60) := chk_no (fun h => hcut h.2.1)
    have KC : Hid (∀ wx, Calls Try.prog 31 #[.int .i64 b, .int .i64 r, .int .i64 c.o] wx fun e w' => ∃ p s f, e = .returned (.tuple #[cutV p s f, .bool false]) ∧ Below wx.heap.size wx w') := fun wx => cutOf_no b c.o r hcut wx
    clear hcut
    go_enter Try.func18, Try.ntmps18
    go_wp2_with fail
    generalize hwa : w.alloc _ = wa
    have HA : Hid (RB w c pa pc ea ec wa) := by rw [← hwa]; exact HB0.out
    clear hwa HB0
    refine (KC.out wa).mono ?_
    rintro en w2 ⟨p, s, f, rfl, hb2⟩
    have HR2 : Hid (RB w c pa pc ea ec w2) := HA.out.next hb2
    clear HA hb2
    have HC2 : Hid (CB w c pa pc ea ec w2.heap.size p s f (w2.alloc (.cells #[.int .i64 p, .int .i64 s, .int .i64 f] 66))) := CB.new HR2.out _ _ _
    clear HR2
    have x0 := HC2.out.rb.c0
    have x2 := HC2.out.rb.c2
    have x3 := HC2.out.rb.c3
    have y0 := HC2.out.q0
    have HBL : Hid (Below w.heap.size w (w2.alloc (.cells #[.int .i64 p, .int .i64 s, .int .i64 f] 66))) := HC2.out.rb.below
    go_wp2_with fail
    go_ret
    exact ⟨by rw [HN.out]; rfl, HBL.out⟩
  case pos =>
    obtain ⟨b, r, o, rfl, rfl, ho, hC⟩ := Cut.of hcut
    have KC : Hid (∀ wx, Calls Try.prog 31 #[.int .i64 (b : Int), .int .i64 (r : Int), .int .i64 c.o] wx fun e w' => e = .returned (.tuple #[cutV ((2 ^ o : Nat) : Int) ((b / 2 ^ o : Nat) : Int) (r : Int), .bool true]) ∧ Below wx.heap.size wx w') := fun wx => by rw [ho]; exact cutOf_yes b o r hC wx
    have HCUT : Hid (cutOk b r c.o) := hcut
    have HO : Hid (2 ^ c.o.toNat = 2 ^ o) := by show _ = _; rw [show c.o.toNat = o by omega]
    have hp := pow15 o hC.o15
    clear hcut ho
    generalize hpn : 2 ^ o = N at *
    generalize b / N = d at *
    clear hpn
    have hn32 := hp.2
    have hE := HR.out.E.len
    have hP := HR.out.P.len
    by_cases m0 : c.m < 0
    · have hno : ¬ chkOk c b r := fun h => by have := h.1; omega
      have HN : Hid (chkN c b r = 60) := chk_no hno
      clear hno
      go_enter Try.func18, Try.ntmps18
      go_wp2_with fail
      generalize hwa : w.alloc _ = wa
      have HA : Hid (RB w c pa pc ea ec wa) := by rw [← hwa]; exact HB0.out
      clear hwa HB0
      refine (KC.out wa).mono ?_
      rintro en w2 ⟨rfl, hb2⟩
      have HR2 : Hid (RB w c pa pc ea ec w2) := HA.out.next hb2
      clear HA hb2
      have HC2 : Hid (CB w c pa pc ea ec w2.heap.size (N : Int) (d : Int) (r : Int) (w2.alloc (.cells #[.int .i64 (N : Int), .int .i64 (d : Int), .int .i64 (r : Int)] 66))) := CB.new HR2.out _ _ _
      clear HR2
      have x0 := HC2.out.rb.c0
      have x2 := HC2.out.rb.c2
      have x3 := HC2.out.rb.c3
      have y0 := HC2.out.q0
      have HBL : Hid (Below w.heap.size w (w2.alloc (.cells #[.int .i64 (N : Int), .int .i64 (d : Int), .int .i64 (r : Int)] 66))) := HC2.out.rb.below
      go_wp2_with fail
      go_ret
      exact ⟨by rw [HN.out]; rfl, HBL.out⟩
    by_cases m1 : 1 < c.m
    · have hno : ¬ chkOk c b r := fun h => by have := h.1; omega
      have HN : Hid (chkN c b r = 60) := chk_no hno
      clear hno
      go_enter Try.func18, Try.ntmps18
      go_wp2_with fail
      generalize hwa : w.alloc _ = wa
      have HA : Hid (RB w c pa pc ea ec wa) := by rw [← hwa]; exact HB0.out
      clear hwa HB0
      refine (KC.out wa).mono ?_
      rintro en w2 ⟨rfl, hb2⟩
      have HR2 : Hid (RB w c pa pc ea ec w2) := HA.out.next hb2
      clear HA hb2
      have HC2 : Hid (CB w c pa pc ea ec w2.heap.size (N : Int) (d : Int) (r : Int) (w2.alloc (.cells #[.int .i64 (N : Int), .int .i64 (d : Int), .int .i64 (r : Int)] 66))) := CB.new HR2.out _ _ _
      clear HR2
      have x0 := HC2.out.rb.c0
      have x2 := HC2.out.rb.c2
      have x3 := HC2.out.rb.c3
      have y0 := HC2.out.q0
      have HBL : Hid (Below w.heap.size w (w2.alloc (.cells #[.int .i64 (N : Int), .int .i64 (d : Int), .int .i64 (r : Int)] 66))) := HC2.out.rb.below
      go_wp2_with fail
      go_ret
      exact ⟨by rw [HN.out]; rfl, HBL.out⟩
    by_cases l1 : c.P.length = N
    case neg =>
      have hno : ¬ chkOk c b r := fun h => l1 (by have := h.2.2.1; rwa [HO.out] at this)
      have hbn : ((c.P.length : Int) != (N : Int)) = true := by rw [bne_iff_ne]; omega
      have HN : Hid (chkN c b r = 60) := chk_no hno
      clear hno
      go_enter Try.func18, Try.ntmps18
      go_wp2_with fail
      generalize hwa : w.alloc _ = wa
      have HA : Hid (RB w c pa pc ea ec wa) := by rw [← hwa]; exact HB0.out
      clear hwa HB0
      refine (KC.out wa).mono ?_
      rintro en w2 ⟨rfl, hb2⟩
      have HR2 : Hid (RB w c pa pc ea ec w2) := HA.out.next hb2
      clear HA hb2
      have HC2 : Hid (CB w c pa pc ea ec w2.heap.size (N : Int) (d : Int) (r : Int) (w2.alloc (.cells #[.int .i64 (N : Int), .int .i64 (d : Int), .int .i64 (r : Int)] 66))) := CB.new HR2.out _ _ _
      clear HR2
      have x0 := HC2.out.rb.c0
      have x2 := HC2.out.rb.c2
      have x3 := HC2.out.rb.c3
      have y0 := HC2.out.q0
      have HBL : Hid (Below w.heap.size w (w2.alloc (.cells #[.int .i64 (N : Int), .int .i64 (d : Int), .int .i64 (r : Int)] 66))) := HC2.out.rb.below
      go_wp2_with fail
      go_ret
      exact ⟨by rw [HN.out]; rfl, HBL.out⟩
    have hbp : ((c.P.length : Int) != (N : Int)) = false := by rw [bne_eq_false_iff_eq]; omega
    by_cases l2 : c.E.length = N
    case neg =>
      have hno : ¬ chkOk c b r := fun h => l2 (by have := h.2.2.2.1; rwa [HO.out] at this)
      have hbn : ((c.E.length : Int) != (N : Int)) = true := by rw [bne_iff_ne]; omega
      have HN : Hid (chkN c b r = 60) := chk_no hno
      clear hno
      go_enter Try.func18, Try.ntmps18
      go_wp2_with fail
      generalize hwa : w.alloc _ = wa
      have HA : Hid (RB w c pa pc ea ec wa) := by rw [← hwa]; exact HB0.out
      clear hwa HB0
      refine (KC.out wa).mono ?_
      rintro en w2 ⟨rfl, hb2⟩
      have HR2 : Hid (RB w c pa pc ea ec w2) := HA.out.next hb2
      clear HA hb2
      have HC2 : Hid (CB w c pa pc ea ec w2.heap.size (N : Int) (d : Int) (r : Int) (w2.alloc (.cells #[.int .i64 (N : Int), .int .i64 (d : Int), .int .i64 (r : Int)] 66))) := CB.new HR2.out _ _ _
      clear HR2
      have x0 := HC2.out.rb.c0
      have x2 := HC2.out.rb.c2
      have x3 := HC2.out.rb.c3
      have y0 := HC2.out.q0
      have HBL : Hid (Below w.heap.size w (w2.alloc (.cells #[.int .i64 (N : Int), .int .i64 (d : Int), .int .i64 (r : Int)] 66))) := HC2.out.rb.below
      go_wp2_with fail
      go_ret
      exact ⟨by rw [HN.out]; rfl, HBL.out⟩
    have hbe : ((c.E.length : Int) != (N : Int)) = false := by rw [bne_eq_false_iff_eq]; omega
    have KM : Hid (∀ k e wx, Calls Try.prog 39 #[.int .i64 c.m, .int .i64 k, .int .i64 e] wx fun en w' => en = .returned (.bool (decide (mayOk c.m k e))) ∧ w' = wx) := fun k e wx => mayBe_spec c.m k e (by omega) (by omega) wx
    have HNB : Hid (∀ j, j < N → ¬ mayOk c.m (c.P.getD j 0) (c.E.getD j 0) → chkN c b r = 60) := fun j hj h => chk_no (fun hh => h (hh.2.2.2.2 j (by rw [HO.out]; exact hj)))
    have HYS : Hid ((∀ j, j < N → mayOk c.m (c.P.getD j 0) (c.E.getD j 0)) → chkN c b r = 0) := fun h => chk_yes ⟨⟨by omega, by omega⟩, HCUT.out, by rw [HO.out]; exact l1, by rw [HO.out]; exact l2, fun j hj => h j (by rw [HO.out] at hj; exact hj)⟩
    have HL1 : Hid (c.P.length = N) := l1
    have HL2 : Hid (c.E.length = N) := l2
    clear l1 l2
    go_enter Try.func18, Try.ntmps18
    go_wp2_with fail
    generalize hwa : w.alloc _ = wa
    have HA : Hid (RB w c pa pc ea ec wa) := by rw [← hwa]; exact HB0.out
    clear hwa HB0
    refine (KC.out wa).mono ?_
    rintro en w2 ⟨rfl, hb2⟩
    have HR2 : Hid (RB w c pa pc ea ec w2) := HA.out.next hb2
    clear HA hb2
    have HC2 : Hid (CB w c pa pc ea ec w2.heap.size (N : Int) (d : Int) (r : Int) (w2.alloc (.cells #[.int .i64 (N : Int), .int .i64 (d : Int), .int .i64 (r : Int)] 66))) := CB.new HR2.out _ _ _
    clear HR2
    have x0 := HC2.out.rb.c0
    have x2 := HC2.out.rb.c2
    have x3 := HC2.out.rb.c3
    have y0 := HC2.out.q0
    have HBL : Hid (Below w.heap.size w (w2.alloc (.cells #[.int .i64 (N : Int), .int .i64 (d : Int), .int .i64 (r : Int)] 66))) := HC2.out.rb.below

    go_wp2_with fail
    clear x0 x2 x3 y0
    generalize hwc : w2.alloc _ = wc at *
    generalize w2.heap.size = q at *
    clear hwc HBL
    go_loopw [9, 46] (fun s9 s46 wr => ∃ j : Nat, j ≤ N ∧ s46 = .int .i64 (j : Int) ∧ (∀ i, i < j → mayOk c.m (c.P.getD i 0) (c.E.getD i 0)) ∧ CB w c pa pc ea ec q (N : Int) (d : Int) (r : Int) wr) (fun _ s46 _ => N - (intOf s46).toNat)
    case atStart => exact ⟨0, Nat.zero_le _, rfl, fun i hi => absurd hi (Nat.not_lt_zero _), HC2.out⟩
    case round =>
      obtain ⟨j, hj, rfl, hs, hcb⟩ := hrel
      have HW : Hid (CB w c pa pc ea ec q (N : Int) (d : Int) (r : Int) wr) := hcb
      clear hcb HC2
      have HS : Hid (∀ i, i < j → mayOk c.m (c.P.getD i 0) (c.E.getD i 0)) := hs
      clear hs
      by_cases hlt : j < N
      · have hjP : j < c.P.length := by rw [HL1.out]; exact hlt
        have hjE : j < c.E.length := by rw [HL2.out]; exact hlt
        obtain ⟨b1, o1, e1, q1⟩ := HR.out.P.at j hjP
        obtain ⟨b2, o2, e2, q2⟩ := HR.out.E.at j hjE
        have r1 := q1 wr HW.out.rb.below
        have r2 := q2 wr HW.out.rb.below
        have x0 := HW.out.rb.c0
        have x2 := HW.out.rb.c2
        have x3 := HW.out.rb.c3
        rw [e1] at x2
        rw [e2] at x3
        clear q1 q2 e1 e2
        by_cases hx : mayOk c.m (c.P.getD j 0) (c.E.getD j 0)
        · have HX : Hid (∀ i, i = j → mayOk c.m (c.P.getD i 0) (c.E.getD i 0)) := fun i hi => by rw [hi]; exact hx
          have km := KM.out (c.P.getD j 0) (c.E.getD j 0)
          rw [decide_eq_true hx] at km
          clear hx
          generalize c.P.getD j 0 = kk at *
          generalize c.E.getD j 0 = ee at *
          go_wp2_with fail
          go_quiet ((go_at_call 39; exact Calls.quiet_of_same (km _)))
          go_wp2_with fail
          go_roundw
          case rel =>
            refine ⟨j + 1, by omega, by go_num, fun i hi => ?_, HW.out.drewN _⟩
            by_cases e : i = j
            · exact HX.out i e
            · exact HS.out i (by omega)
          case measure => simp [intOf]; omega
        · have HN : Hid (chkN c b r = 60) := HNB.out j hlt hx
          have km := KM.out (c.P.getD j 0) (c.E.getD j 0)
          rw [decide_eq_false hx] at km
          clear hx
          generalize c.P.getD j 0 = kk at *
          generalize c.E.getD j 0 = ee at *
          go_wp2_with fail
          go_quiet ((go_at_call 39; exact Calls.quiet_of_same (km _)))
          go_wp2_with fail
          go_ret
          exact ⟨by rw [HN.out]; rfl, (HW.out.drewN _).rb.below⟩
      · have HN : Hid (chkN c b r = 0) := HYS.out (fun i hi => HS.out i (by omega))
        go_wp2_with fail
        go_ret
        exact ⟨by rw [HN.out]; rfl, HW.out.rb.below⟩

end Go.Proofs.Ytdlakbgcflekkaa
