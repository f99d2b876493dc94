/- Own text: the walk of the program's Check. the walk of the program's fit. -/
import Derived.Test.YtkhdkmdiblomhaaG7x
namespace Go.Proofs.Ytkhdkmdiblomhaa
open Go.RowKit
set_option linter.unusedSimpArgs false
set_option linter.unusedVariables false

def chkN (c : Rc) (b r : Int) : Int := if chkOk c b r then 0 else 60
theorem chk_no {c : Rc} {b r : Int} (h : ¬ chkOk c b r) : chkN c b r = 60 := by unfold chkN; rw [if_neg h]
theorem chk_yes {c : Rc} {b r : Int} (h : chkOk c b r) : chkN c b r = 0 := by unfold chkN; rw [if_pos h]

/-- A recipe's box and a cut's behind it. -/
structure CB (w : World) (c : Rc) (pa : Option Addr) (pc : Nat) (ea : Option Addr) (ec : Nat) (q : Nat) (p s f : Int) (wx : World) : Prop where
  rb : RB w c pa pc ea ec wx
  box : wx.heap[q]? = some (.cells #[.int .i64 p, .int .i64 s, .int .i64 f] 94 (0, 0))
  lt : w.heap.size < q
section
variable {w wx w' : World} {c : Rc} {pa : Option Addr} {pc : Nat} {ea : Option Addr} {ec : Nat} {q : Nat} {p s f : Int}
theorem CB.new (h : RB w c pa pc ea ec wx) (p s f : Int) : CB w c pa pc ea ec wx.heap.size p s f (wx.alloc (.cells #[.int .i64 p, .int .i64 s, .int .i64 f] 94)) :=
  ⟨h.next ((Below.refl _ _).alloc (Nat.le_refl _) _), heap_alloc_new _ _, lt_of_block h.box⟩
theorem CB.next (h : CB w c pa pc ea ec q p s f wx) (hb : Below wx.heap.size wx w') : CB w c pa pc ea ec q p s f w' :=
  ⟨h.rb.next hb, by rw [hb.block _ (lt_of_block h.box)]; exact h.box, h.lt⟩
theorem CB.past (h : CB w c pa pc ea ec q p s f wx) (hb : Below (q + 1) wx w') : CB w c pa pc ea ec q p s f w' :=
  ⟨h.rb.past (hb.mono (by have := h.lt; omega)), by rw [hb.block _ (by omega)]; exact h.box, h.lt⟩
theorem CB.drewN (h : CB w c pa pc ea ec q p s f wx) (n : Nat) : CB w c pa pc ea ec q p s f (wx.drewN n) := h.next (below_drewN _ _)
theorem CB.q0 (h : CB w c pa pc ea ec q p s f wx) : wx.cell? ⟨q, 0, none⟩ = some (.int .i64 p) := by rw [cell_of_row _ _ _ _ _ _ h.box]; rfl
theorem CB.q1 (h : CB w c pa pc ea ec q p s f wx) : wx.cell? ⟨q, 1, none⟩ = some (.int .i64 s) := by rw [cell_of_row _ _ _ _ _ _ h.box]; rfl
theorem CB.q2 (h : CB w c pa pc ea ec q p s f wx) : wx.cell? ⟨q, 2, none⟩ = some (.int .i64 f) := by rw [cell_of_row _ _ _ _ _ _ h.box]; rfl
end
set_option maxRecDepth 20000 in
set_option maxHeartbeats 3200000 in
theorem check_spec (c : Rc) (b r : Int) (pa : Option Addr) (pc : Nat) (ea : Option Addr) (ec : Nat) (w : World) (hr : RcAt w c pa ea) :
    Calls Try.prog 59 #[riceV c pa pc ea ec, .int .i64 b, .int .i64 r] w fun en w' => en = .returned (.int .i64 (chkN c b r)) ∧ Below w.heap.size w w' := by
  have HB0 : Hid (RB w c pa pc ea ec (w.alloc (.cells (riceC c pa pc ea ec) 24))) := RB.new w c pa pc ea ec
  have HR : Hid (RcAt w c pa ea) := hr
  clear hr
  by_cases hcut : cutOk b r c.o
  case neg =>
    have HN : Hid (chkN c b r = 60) := chk_no (fun h => hcut h.2.1)
    have KC : Hid (∀ wx, Calls Try.prog 60 #[.int .i64 b, .int .i64 r, .int .i64 c.o] wx fun e w' => ∃ p s f, e = .returned (.tuple #[cutV p s f, .bool false]) ∧ Below wx.heap.size wx w') := fun wx => cutOf_no b c.o r hcut wx
    clear hcut
    go_enter Try.func59, Try.ntmps59
    go_wp2_with fail
    generalize hwa : w.alloc _ = wa
    have HA : Hid (RB w c pa pc ea ec wa) := by rw [← hwa]; exact HB0.out
    clear hwa HB0
    refine (KC.out wa).mono ?_
    rintro en w2 ⟨p, s, f, rfl, hb2⟩
    have HR2 : Hid (RB w c pa pc ea ec w2) := HA.out.next hb2
    clear HA hb2
    have HC2 : Hid (CB w c pa pc ea ec w2.heap.size p s f (w2.alloc (.cells #[.int .i64 p, .int .i64 s, .int .i64 f] 94))) := CB.new HR2.out _ _ _
    clear HR2
    have x0 := HC2.out.rb.c0
    have x2 := HC2.out.rb.c2
    have x3 := HC2.out.rb.c3
    have y0 := HC2.out.q0
    have HBL : Hid (Below w.heap.size w (w2.alloc (.cells #[.int .i64 p, .int .i64 s, .int .i64 f] 94))) := HC2.out.rb.below
    go_wp2_with fail
    go_ret
    exact ⟨by rw [HN.out]; rfl, HBL.out⟩
  case pos =>
    obtain ⟨b, r, o, rfl, rfl, ho, hC⟩ := Cut.of hcut
    have KC : Hid (∀ wx, Calls Try.prog 60 #[.int .i64 (b : Int), .int .i64 (r : Int), .int .i64 c.o] wx fun e w' => e = .returned (.tuple #[cutV ((2 ^ o : Nat) : Int) ((b / 2 ^ o : Nat) : Int) (r : Int), .bool true]) ∧ Below wx.heap.size wx w') := fun wx => by rw [ho]; exact cutOf_yes b o r hC wx
    have HCUT : Hid (cutOk b r c.o) := hcut
    have HO : Hid (2 ^ c.o.toNat = 2 ^ o) := by show _ = _; rw [show c.o.toNat = o by omega]
    have hp := pow15 o hC.o15
    clear hcut ho
    generalize hpn : 2 ^ o = N at *
    generalize b / N = d at *
    clear hpn
    have hn32 := hp.2
    have hE := HR.out.E.len
    have hP := HR.out.P.len
    by_cases m0 : c.m < 0
    · have hno : ¬ chkOk c b r := fun h => by have := h.1; omega
      have HN : Hid (chkN c b r = 60) := chk_no hno
      clear hno
      go_enter Try.func59, Try.ntmps59
      go_wp2_with fail
      generalize hwa : w.alloc _ = wa
      have HA : Hid (RB w c pa pc ea ec wa) := by rw [← hwa]; exact HB0.out
      clear hwa HB0
      refine (KC.out wa).mono ?_
      rintro en w2 ⟨rfl, hb2⟩
      have HR2 : Hid (RB w c pa pc ea ec w2) := HA.out.next hb2
      clear HA hb2
      have HC2 : Hid (CB w c pa pc ea ec w2.heap.size (N : Int) (d : Int) (r : Int) (w2.alloc (.cells #[.int .i64 (N : Int), .int .i64 (d : Int), .int .i64 (r : Int)] 94))) := CB.new HR2.out _ _ _
      clear HR2
      have x0 := HC2.out.rb.c0
      have x2 := HC2.out.rb.c2
      have x3 := HC2.out.rb.c3
      have y0 := HC2.out.q0
      have HBL : Hid (Below w.heap.size w (w2.alloc (.cells #[.int .i64 (N : Int), .int .i64 (d : Int), .int .i64 (r : Int)] 94))) := HC2.out.rb.below
      go_wp2_with fail
      go_ret
      exact ⟨by rw [HN.out]; rfl, HBL.out⟩
    by_cases m1 : 1 < c.m
    · have hno : ¬ chkOk c b r := fun h => by have := h.1; omega
      have HN : Hid (chkN c b r = 60) := chk_no hno
      clear hno
      go_enter Try.func59, Try.ntmps59
      go_wp2_with fail
      generalize hwa : w.alloc _ = wa
      have HA : Hid (RB w c pa pc ea ec wa) := by rw [← hwa]; exact HB0.out
      clear hwa HB0
      refine (KC.out wa).mono ?_
      rintro en w2 ⟨rfl, hb2⟩
      have HR2 : Hid (RB w c pa pc ea ec w2) := HA.out.next hb2
      clear HA hb2
      have HC2 : Hid (CB w c pa pc ea ec w2.heap.size (N : Int) (d : Int) (r : Int) (w2.alloc (.cells #[.int .i64 (N : Int), .int .i64 (d : Int), .int .i64 (r : Int)] 94))) := CB.new HR2.out _ _ _
      clear HR2
      have x0 := HC2.out.rb.c0
      have x2 := HC2.out.rb.c2
      have x3 := HC2.out.rb.c3
      have y0 := HC2.out.q0
      have HBL : Hid (Below w.heap.size w (w2.alloc (.cells #[.int .i64 (N : Int), .int .i64 (d : Int), .int .i64 (r : Int)] 94))) := HC2.out.rb.below
      go_wp2_with fail
      go_ret
      exact ⟨by rw [HN.out]; rfl, HBL.out⟩
    by_cases l1 : c.P.length = N
    case neg =>
      have hno : ¬ chkOk c b r := fun h => l1 (by have := h.2.2.1; rwa [HO.out] at this)
      have hbn : ((c.P.length : Int) != (N : Int)) = true := by rw [bne_iff_ne]; omega
      have HN : Hid (chkN c b r = 60) := chk_no hno
      clear hno
      go_enter Try.func59, Try.ntmps59
      go_wp2_with fail
      generalize hwa : w.alloc _ = wa
      have HA : Hid (RB w c pa pc ea ec wa) := by rw [← hwa]; exact HB0.out
      clear hwa HB0
      refine (KC.out wa).mono ?_
      rintro en w2 ⟨rfl, hb2⟩
      have HR2 : Hid (RB w c pa pc ea ec w2) := HA.out.next hb2
      clear HA hb2
      have HC2 : Hid (CB w c pa pc ea ec w2.heap.size (N : Int) (d : Int) (r : Int) (w2.alloc (.cells #[.int .i64 (N : Int), .int .i64 (d : Int), .int .i64 (r : Int)] 94))) := CB.new HR2.out _ _ _
      clear HR2
      have x0 := HC2.out.rb.c0
      have x2 := HC2.out.rb.c2
      have x3 := HC2.out.rb.c3
      have y0 := HC2.out.q0
      have HBL : Hid (Below w.heap.size w (w2.alloc (.cells #[.int .i64 (N : Int), .int .i64 (d : Int), .int .i64 (r : Int)] 94))) := HC2.out.rb.below
      go_wp2_with fail
      go_ret
      exact ⟨by rw [HN.out]; rfl, HBL.out⟩
    have hbp : ((c.P.length : Int) != (N : Int)) = false := by rw [bne_eq_false_iff_eq]; omega
    by_cases l2 : c.E.length = N
    case neg =>
      have hno : ¬ chkOk c b r := fun h => l2 (by have := h.2.2.2.1; rwa [HO.out] at this)
      have hbn : ((c.E.length : Int) != (N : Int)) = true := by rw [bne_iff_ne]; omega
      have HN : Hid (chkN c b r = 60) := chk_no hno
      clear hno
      go_enter Try.func59, Try.ntmps59
      go_wp2_with fail
      generalize hwa : w.alloc _ = wa
      have HA : Hid (RB w c pa pc ea ec wa) := by rw [← hwa]; exact HB0.out
      clear hwa HB0
      refine (KC.out wa).mono ?_
      rintro en w2 ⟨rfl, hb2⟩
      have HR2 : Hid (RB w c pa pc ea ec w2) := HA.out.next hb2
      clear HA hb2
      have HC2 : Hid (CB w c pa pc ea ec w2.heap.size (N : Int) (d : Int) (r : Int) (w2.alloc (.cells #[.int .i64 (N : Int), .int .i64 (d : Int), .int .i64 (r : Int)] 94))) := CB.new HR2.out _ _ _
      clear HR2
      have x0 := HC2.out.rb.c0
      have x2 := HC2.out.rb.c2
      have x3 := HC2.out.rb.c3
      have y0 := HC2.out.q0
      have HBL : Hid (Below w.heap.size w (w2.alloc (.cells #[.int .i64 (N : Int), .int .i64 (d : Int), .int .i64 (r : Int)] 94))) := HC2.out.rb.below
      go_wp2_with fail
      go_ret
      exact ⟨by rw [HN.out]; rfl, HBL.out⟩
    have hbe : ((c.E.length : Int) != (N : Int)) = false := by rw [bne_eq_false_iff_eq]; omega
    have KM : Hid (∀ k e wx, Calls Try.prog 74 #[.int .i64 c.m, .int .i64 k, .int .i64 e] wx fun en w' => en = .returned (.bool (decide (mayOk c.m k e))) ∧ w' = wx) := fun k e wx => mayBe_spec c.m k e (by omega) (by omega) wx
    have HNB : Hid (∀ j, j < N → ¬ mayOk c.m (c.P.getD j 0) (c.E.getD j 0) → chkN c b r = 60) := fun j hj h => chk_no (fun hh => h (hh.2.2.2.2 j (by rw [HO.out]; exact hj)))
    have HYS : Hid ((∀ j, j < N → mayOk c.m (c.P.getD j 0) (c.E.getD j 0)) → chkN c b r = 0) := fun h => chk_yes ⟨⟨by omega, by omega⟩, HCUT.out, by rw [HO.out]; exact l1, by rw [HO.out]; exact l2, fun j hj => h j (by rw [HO.out] at hj; exact hj)⟩
    have HL1 : Hid (c.P.length = N) := l1
    have HL2 : Hid (c.E.length = N) := l2
    clear l1 l2
    go_enter Try.func59, Try.ntmps59
    go_wp2_with fail
    generalize hwa : w.alloc _ = wa
    have HA : Hid (RB w c pa pc ea ec wa) := by rw [← hwa]; exact HB0.out
    clear hwa HB0
    refine (KC.out wa).mono ?_
    rintro en w2 ⟨rfl, hb2⟩
    have HR2 : Hid (RB w c pa pc ea ec w2) := HA.out.next hb2
    clear HA hb2
    have HC2 : Hid (CB w c pa pc ea ec w2.heap.size (N : Int) (d : Int) (r : Int) (w2.alloc (.cells #[.int .i64 (N : Int), .int .i64 (d : Int), .int .i64 (r : Int)] 94))) := CB.new HR2.out _ _ _
    clear HR2
    have x0 := HC2.out.rb.c0
    have x2 := HC2.out.rb.c2
    have x3 := HC2.out.rb.c3
    have y0 := HC2.out.q0
    have HBL : Hid (Below w.heap.size w (w2.alloc (.cells #[.int .i64 (N : Int), .int .i64 (d : Int), .int .i64 (r : Int)] 94))) := HC2.out.rb.below

    go_wp2_with fail
    clear x0 x2 x3 y0
    generalize hwc : w2.alloc _ = wc at *
    generalize w2.heap.size = q at *
    clear hwc HBL
    go_loopw [9, 46] (fun s9 s46 wr => ∃ j : Nat, j ≤ N ∧ s46 = .int .i64 (j : Int) ∧ (∀ i, i < j → mayOk c.m (c.P.getD i 0) (c.E.getD i 0)) ∧ CB w c pa pc ea ec q (N : Int) (d : Int) (r : Int) wr) (fun _ s46 _ => N - (intOf s46).toNat)
    case atStart => exact ⟨0, Nat.zero_le _, rfl, fun i hi => absurd hi (Nat.not_lt_zero _), HC2.out⟩
    case round =>
      obtain ⟨j, hj, rfl, hs, hcb⟩ := hrel
      have HW : Hid (CB w c pa pc ea ec q (N : Int) (d : Int) (r : Int) wr) := hcb
      clear hcb HC2
      have HS : Hid (∀ i, i < j → mayOk c.m (c.P.getD i 0) (c.E.getD i 0)) := hs
      clear hs
      by_cases hlt : j < N
      · have hjP : j < c.P.length := by rw [HL1.out]; exact hlt
        have hjE : j < c.E.length := by rw [HL2.out]; exact hlt
        obtain ⟨b1, o1, e1, q1⟩ := HR.out.P.at j hjP
        obtain ⟨b2, o2, e2, q2⟩ := HR.out.E.at j hjE
        have r1 := q1 wr HW.out.rb.below
        have r2 := q2 wr HW.out.rb.below
        have x0 := HW.out.rb.c0
        have x2 := HW.out.rb.c2
        have x3 := HW.out.rb.c3
        rw [e1] at x2
        rw [e2] at x3
        clear q1 q2 e1 e2
        by_cases hx : mayOk c.m (c.P.getD j 0) (c.E.getD j 0)
        · have HX : Hid (∀ i, i = j → mayOk c.m (c.P.getD i 0) (c.E.getD i 0)) := fun i hi => by rw [hi]; exact hx
          have km := KM.out (c.P.getD j 0) (c.E.getD j 0)
          rw [decide_eq_true hx] at km
          clear hx
          generalize c.P.getD j 0 = kk at *
          generalize c.E.getD j 0 = ee at *
          go_wp2_with fail
          go_quiet ((go_at_call 74; exact Calls.quiet_of_same (km _)))
          go_wp2_with fail
          go_roundw
          case rel =>
            refine ⟨j + 1, by omega, by go_num, fun i hi => ?_, HW.out.drewN _⟩
            by_cases e : i = j
            · exact HX.out i e
            · exact HS.out i (by omega)
          case measure => simp [intOf]; omega
        · have HN : Hid (chkN c b r = 60) := HNB.out j hlt hx
          have km := KM.out (c.P.getD j 0) (c.E.getD j 0)
          rw [decide_eq_false hx] at km
          clear hx
          generalize c.P.getD j 0 = kk at *
          generalize c.E.getD j 0 = ee at *
          go_wp2_with fail
          go_quiet ((go_at_call 74; exact Calls.quiet_of_same (km _)))
          go_wp2_with fail
          go_ret
          exact ⟨by rw [HN.out]; rfl, (HW.out.drewN _).rb.below⟩
      · have HN : Hid (chkN c b r = 0) := HYS.out (fun i hi => HS.out i (by omega))
        go_wp2_with fail
        go_ret
        exact ⟨by rw [HN.out]; rfl, HW.out.rb.below⟩

end Go.Proofs.Ytkhdkmdiblomhaa

namespace Go.Proofs.Ytkhdkmdiblomhaa
open Go.RowKit
set_option linter.unusedSimpArgs false
set_option linter.unusedVariables false

theorem partL_spec (l : List Int) (b o r i : Nat) (h : Cut b o r) (hi : i < 2 ^ o) (ao : Option Addr) (cap : Nat) (hn : l.length = b - r) (hc : l.length ≤ cap) (h0 : ao = none → cap = 0) (P : Int) (w : World) (hl : IntsAt w ao l) :
    Calls Try.prog 64 #[cutV P ((b / 2 ^ o : Nat) : Int) (r : Int), .slice ao l.length cap, .int .i64 (i : Int)] w fun e w' => ∃ xo, e = .returned (.slice xo (partN l b o r i).length (partN l b o r i).length) ∧ Below w.heap.size w w' ∧ IntsAt w' xo (partN l b o r i) ∧ (∀ bb, blockOf xo = some bb → blockOf ao = some bb) ∧ (∀ bb off, ao = some ⟨bb, off, none⟩ → 0 < (partN l b o r i).length → xo = some ⟨bb, off + frN b o r i, none⟩) := by
  have hlen := partN_length l h hn i hi
  refine (part_spec b o r i h hi ao l.length cap hn hc h0 P w).mono ?_
  rintro e w' ⟨xo, rfl, hb, h1, h2, h3⟩
  rw [hlen]
  refine ⟨xo, rfl, hb, ?_, h3, h2⟩
  refine (hl.below hb).part _ _ ?_ xo h2
  have := frN_bound h (i + 1) hi; have := frN_mono b o r i
  omega
theorem fit_coded (x : Int) (k : Int) (h0 : 0 ≤ k) (h1 : k ≤ 30) (h : foldN x / 2 ^ k.toNat ≤ 16777216) : fitE k (-1) x := by
  unfold fitE rcwE; rw [if_pos rfl, if_pos ⟨h0, h1, h⟩]
theorem coded_fit (x : Int) (k : Int) (h : fitE k (-1) x) : foldN x / 2 ^ k.toNat ≤ 16777216 := by
  unfold fitE rcwE at h
  rw [if_pos rfl] at h
  split at h
  · rename_i hc; exact hc.2.2
  · cases h
theorem fit_esc (k e x : Int) (h : ¬ e = -1) : fitE k e x ↔ fitE 0 e x := by
  unfold fitE; rw [if_neg h, if_neg h]
/-- what Check leaves, of natural numbers. -/
structure Rok (c : Rc) (b o r : Nat) : Prop where
  cut : Cut b o r
  ho : c.o = o
  m0 : 0 ≤ c.m
  m1 : c.m ≤ 1
  lP : c.P.length = 2 ^ o
  lE : c.E.length = 2 ^ o
  may : allMay c.m c.P c.E (2 ^ o)
theorem Rok.of {c : Rc} {b r : Int} (h : chkOk c b r) : ∃ b' r' o' : Nat, b = b' ∧ r = r' ∧ Rok c b' o' r' := by
  obtain ⟨b', r', o', e1, e2, e3, hc⟩ := Cut.of h.2.1
  have e4 : c.o.toNat = o' := by omega
  have h3 := h.2.2
  rw [e4] at h3
  exact ⟨b', r', o', e1, e2, hc, e3, h.1.1, h.1.2, h3.1, h3.2.1, h3.2.2⟩
theorem Rok.chk {c : Rc} {b o r : Nat} (h : Rok c b o r) : chkOk c b r := by
  have e4 : c.o.toNat = o := by have := h.ho; omega
  refine ⟨⟨h.m0, h.m1⟩, by rw [h.ho]; exact h.cut.ok, ?_⟩
  rw [e4]
  exact ⟨h.lP, h.lE, h.may⟩
theorem Rok.row {c : Rc} {b o r : Nat} (h : Rok c b o r) (j : Nat) (hj : j < 2 ^ o) : (c.E.getD j 0 = -1 ∧ 0 ≤ c.P.getD j 0 ∧ c.P.getD j 0 ≤ 30) ∨ (0 ≤ c.E.getD j 0 ∧ c.E.getD j 0 ≤ 31 ∧ c.P.getD j 0 = 0) := by
  have := h.may j hj; have := h.m1
  unfold mayOk at this
  rcases h.may j hj with h1 | h1
  · left; exact ⟨h1.1, h1.2.1, by omega⟩
  · right; exact h1
def fitB (c : Rc) (b o r : Nat) (l : List Int) : Bool := decide (l.length = b - r) && (List.range (2 ^ o)).all (fun i => allT (c.P.getD i 0) (c.E.getD i 0) (partN l b o r i))
theorem fitB_iff (c : Rc) (b o r : Nat) (l : List Int) : fitB c b o r l = true ↔ l.length = b - r ∧ allFit c b o r l (2 ^ o) := by
  unfold fitB allFit
  rw [Bool.and_eq_true_iff, List.all_eq_true, decide_eq_true_iff]
  exact ⟨fun h => ⟨h.1, fun i hi => (allT_iff _ _ _).1 (h.2 i (List.mem_range.2 hi))⟩, fun h => ⟨h.1, fun i hi => (allT_iff _ _ _).2 (h.2 i (List.mem_range.1 hi))⟩⟩
theorem fitB_yes {c : Rc} {b o r : Nat} {l : List Int} (h : l.length = b - r ∧ allFit c b o r l (2 ^ o)) : fitB c b o r l = true := (fitB_iff c b o r l).2 h
theorem fitB_no {c : Rc} {b o r : Nat} {l : List Int} (h : ¬ (l.length = b - r ∧ allFit c b o r l (2 ^ o))) : fitB c b o r l = false := bool_no (fitB_iff c b o r l) h
set_option maxRecDepth 20000 in
set_option maxHeartbeats 3200000 in
theorem fit_spec (c : Rc) (b o r : Nat) (l : List Int) (h : Rok c b o r) (hs : ShX l) (pa : Option Addr) (pc : Nat) (ea : Option Addr) (ec : Nat) (ao : Option Addr) (cap : Nat) (hc : l.length ≤ cap) (h0 : ao = none → cap = 0) (w : World) (hr : RcAt w c pa ea) (hl : IntsAt w ao l) :
    Calls Try.prog 61 #[riceV c pa pc ea ec, cutV ((2 ^ o : Nat) : Int) ((b / 2 ^ o : Nat) : Int) (r : Int), .slice ao l.length cap] w fun en w' => en = .returned (.bool (fitB c b o r l)) ∧ Below w.heap.size w w' := by
  have HR : Hid (RcAt w c pa ea) := hr
  have HL : Hid (IntsAt w ao l) := hl
  have HS : Hid (ShX l) := hs
  have HK : Hid (Rok c b o r) := h
  have hp := pow15 o h.cut.o15
  have hdv := h.cut.dv
  have hr2 := h.cut.r2
  have hb2 := h.cut.b2
  have hrb := h.cut.rb
  have hd : b / 2 ^ o ≤ 65535 := by have := Nat.div_le_self b (2 ^ o); omega
  have hl5 := hs.2
  have KN : Hid (∀ wx, Calls Try.prog 76 #[cutV ((2 ^ o : Nat) : Int) ((b / 2 ^ o : Nat) : Int) (r : Int)] wx fun e w' => e = .returned (.int .i64 ((b - r : Nat) : Int)) ∧ Below wx.heap.size wx w') := fun wx => by
    have hh := count_spec (2 ^ o) (b / 2 ^ o) r (by omega) hr2 hp.2 hd wx
    rw [hdv] at hh
    refine hh.mono ?_
    rintro e w' ⟨rfl, hb⟩
    refine ⟨?_, hb⟩
    rw [show ((b - r : Nat) : Int) = (b : Int) - (r : Int) by omega]
  have KP : Hid (∀ i : Nat, i < 2 ^ o → l.length = b - r → ∀ wx, Below w.heap.size w wx → Calls Try.prog 64 #[cutV ((2 ^ o : Nat) : Int) ((b / 2 ^ o : Nat) : Int) (r : Int), .slice ao l.length cap, .int .i64 (i : Int)] wx fun e w' => ∃ xo, e = .returned (.slice xo (partN l b o r i).length (partN l b o r i).length) ∧ Below wx.heap.size wx w' ∧ IntsAt w' xo (partN l b o r i)) := fun i hi hn wx hbx =>
    (partL_spec l b o r i h.cut hi ao cap hn hc h0 _ wx (hl.below hbx)).mono fun e w' hh => by
      obtain ⟨xo, h1, h2, h3, _⟩ := hh
      exact ⟨xo, h1, h2, h3⟩
  have HSt : Hid (∀ p s f, CB w c pa pc ea ec (w.heap.size + 1) p s f ((w.alloc (.cells (riceC c pa pc ea ec) 24)).alloc (.cells #[.int .i64 p, .int .i64 s, .int .i64 f] 94))) := fun p s f => by
    have hh := CB.new (RB.new w c pa pc ea ec) p s f
    simpa using hh
  have HF : Hid (∀ i, i < 2 ^ o → (∃ x ∈ partN l b o r i, ¬ fitE (c.P.getD i 0) (c.E.getD i 0) x) → fitB c b o r l = false) := fun i hi hx => by
    obtain ⟨x, hx, hf⟩ := hx
    exact fitB_no (fun hh => hf (hh.2 i hi x hx))
  have HT : Hid (l.length = b - r → (∀ i, i < 2 ^ o → ∀ x ∈ partN l b o r i, fitE (c.P.getD i 0) (c.E.getD i 0) x) → fitB c b o r l = true) := fun h1 h2 => fitB_yes ⟨h1, h2⟩
  have HF0 : Hid (¬ l.length = b - r → fitB c b o r l = false) := fun h1 => fitB_no (fun hh => h1 hh.1)
  have hPl : c.P.length = 2 ^ o := h.lP
  have hEl : c.E.length = 2 ^ o := h.lE
  generalize hpn : 2 ^ o = N at *
  generalize b / N = d at *
  have HL1 : Hid (c.P.length = N) := hPl
  have HL2 : Hid (c.E.length = N) := hEl
  have hn32 := hp.2
  have HPN : Hid (2 ^ o = N) := hpn
  clear hPl hEl h hr hl hs hdv hpn
  by_cases hlen : l.length = b - r
  case neg =>
    have hbn : ((l.length : Int) != ((b - r : Nat) : Int)) = true := by rw [bne_iff_ne]; omega
    have HN : Hid (fitB c b o r l = false) := HF0.out hlen
    generalize hbr : b - r = br at *
    go_enter Try.func61, Try.ntmps61
    go_wp2_with fail
    refine (KN.out _).mono ?_
    rintro e w2 ⟨rfl, hb⟩
    have HW : Hid (CB w c pa pc ea ec (w.heap.size + 1) (N : Int) (d : Int) (r : Int) w2) := (HSt.out _ _ _).next hb
    clear hb
    go_wp2_with fail
    go_ret
    exact ⟨by rw [HN.out]; rfl, HW.out.rb.below⟩
  case pos =>
    have hbn : ((l.length : Int) != ((b - r : Nat) : Int)) = false := by rw [bne_eq_false_iff_eq]; omega
    have HLN : Hid (l.length = b - r) := hlen
    clear hlen
    generalize hbr : b - r = br at *
    go_enter Try.func61, Try.ntmps61
    go_wp2_with fail
    refine (KN.out _).mono ?_
    rintro e w2 ⟨rfl, hb⟩
    have HW : Hid (CB w c pa pc ea ec (w.heap.size + 1) (N : Int) (d : Int) (r : Int) w2) := (HSt.out _ _ _).next hb
    have y0 := HW.out.q0
    clear hb
    go_wp2_with fail
    clear y0
    go_loopw [7, 8, 16] (fun s7 s8 s16 wr => ∃ j : Nat, j ≤ N ∧ s16 = .int .i64 (j : Int) ∧ (∀ i, i < j → ∀ x ∈ partN l b o r i, fitE (c.P.getD i 0) (c.E.getD i 0) x) ∧ CB w c pa pc ea ec (w.heap.size + 1) (N : Int) (d : Int) (r : Int) wr) (fun _ _ s16 _ => N - (intOf s16).toNat)
    case atStart => exact ⟨0, Nat.zero_le _, rfl, fun i hi => absurd hi (Nat.not_lt_zero _), HW.out⟩
    case round =>
      clear HW
      obtain ⟨j, hj, rfl, hsj, hcb⟩ := hrel
      have HW : Hid (CB w c pa pc ea ec (w.heap.size + 1) (N : Int) (d : Int) (r : Int) wr) := hcb
      have HSJ : Hid (∀ i, i < j → ∀ x ∈ partN l b o r i, fitE (c.P.getD i 0) (c.E.getD i 0) x) := hsj
      clear hcb hsj
      by_cases hlt : j < N
      · have hjP : j < c.P.length := by rw [HL1.out]; exact hlt
        have hjE : j < c.E.length := by rw [HL2.out]; exact hlt
        have z0 := HW.out.q0
        have z1 := HW.out.q1
        have z2 := HW.out.q2
        have kp := KP.out j hlt (by rw [HLN.out]) wr HW.out.rb.below
        have hrow := HK.out.row j (by rw [HPN.out]; exact hlt)
        obtain ⟨b1, o1, e1, q1⟩ := HR.out.P.at j hjP
        obtain ⟨b2, o2, e2, q2⟩ := HR.out.E.at j hjE
        have HSP : Hid (ShX (partN l b o r j)) := HS.out.part b o r j
        have HFJ : Hid ((∃ x ∈ partN l b o r j, ¬ fitE (c.P.getD j 0) (c.E.getD j 0) x) → fitB c b o r l = false) := HF.out j hlt
        have HGO : Hid ((∀ x ∈ partN l b o r j, fitE (c.P.getD j 0) (c.E.getD j 0) x) → ∀ i, i < j + 1 → ∀ x ∈ partN l b o r i, fitE (c.P.getD i 0) (c.E.getD i 0) x) := fun hx i hi => by
          by_cases e : i = j
          · rw [e]; exact hx
          · exact HSJ.out i (by omega)
        have HQ1 : Hid (∀ w' : World, Below w.heap.size w w' → w'.cell? ⟨b1, o1 + j, none⟩ = some (.int .i64 (c.P.getD j 0))) := q1
        have HQ2 : Hid (∀ w' : World, Below w.heap.size w w' → w'.cell? ⟨b2, o2 + j, none⟩ = some (.int .i64 (c.E.getD j 0))) := q2
        have HE1 : Hid (pa = some ⟨b1, o1, none⟩) := e1
        have HE2 : Hid (ea = some ⟨b2, o2, none⟩) := e2
        clear q1 q2 e1 e2
        generalize partN l b o r j = X at *
        generalize c.P.getD j 0 = kk at *
        generalize c.E.getD j 0 = ee at *
        go_wp2_with fail
        refine kp.mono ?_
        rintro e w3 ⟨xo, rfl, hb3, hX⟩
        have HW3 : Hid (CB w c pa pc ea ec (w.heap.size + 1) (N : Int) (d : Int) (r : Int) w3) := HW.out.next hb3
        have HX : Hid (IntsAt w3 xo X) := hX
        have x2 := HW3.out.rb.c2
        have x3 := HW3.out.rb.c3
        rw [HE1.out] at x2
        rw [HE2.out] at x3
        have r1 := HQ1.out w3 HW3.out.rb.below
        have r2 := HQ2.out w3 HW3.out.rb.below
        clear hb3 hX HW z0 z1 z2 HQ1 HQ2 kp
        rcases hrow with ⟨rfl, k0, k1⟩ | ⟨a0, a1, rfl⟩
        · have kc := cost_spec X kk xo X.length HSP.out w3 HX.out
          cases hcd : codB X kk.toNat with
          | true =>
            have HCD : Hid (∀ x ∈ X, fitE kk (-1) x) := fun x hx => fit_coded x kk k0 k1 ((codB_iff X kk.toNat).1 hcd x hx)
            have hcv : ∃ q : Nat, costI X kk = (q : Int) := ⟨costN X kk.toNat, by unfold costI; rw [if_neg (by omega), if_pos hcd]⟩
            obtain ⟨q, hq⟩ := hcv
            rw [hq] at kc
            clear hq hcd
            go_wp2_with fail
            refine kc.mono ?_
            rintro e w4 ⟨rfl, n4, rfl⟩
            have HW4 : Hid (CB w c pa pc ea ec (w.heap.size + 1) (N : Int) (d : Int) (r : Int) (w3.drewN n4)) := HW3.out.drewN n4
            go_wp2_with fail
            go_roundw
            case rel => exact ⟨j + 1, by omega, by go_num, HGO.out HCD.out, HW4.out⟩
            case measure => simp [intOf]; omega
          | false =>
            have HN : Hid (fitB c b o r l = false) := HFJ.out (by
              apply Classical.byContradiction
              intro hno
              have hall : codB X kk.toNat = true := (codB_iff X kk.toNat).2 (fun x hx => Classical.byContradiction (fun hf => hno ⟨x, hx, fun hfe => hf (coded_fit x kk hfe)⟩))
              rw [hcd] at hall; cases hall)
            have hq : costI X kk = -1 := by unfold costI; rw [if_neg (by omega), if_neg (by rw [hcd]; decide)]
            rw [hq] at kc
            clear hq hcd
            go_wp2_with fail
            refine kc.mono ?_
            rintro e w4 ⟨rfl, n4, rfl⟩
            have HW4 : Hid (CB w c pa pc ea ec (w.heap.size + 1) (N : Int) (d : Int) (r : Int) (w3.drewN n4)) := HW3.out.drewN n4
            go_wp2_with fail
            go_ret
            exact ⟨by rw [HN.out]; rfl, HW4.out.rb.below⟩
        · obtain ⟨en, rfl⟩ : ∃ en : Nat, ee = en := ⟨ee.toNat, by omega⟩
          have kw := areWithin_spec X en (by omega) xo X.length w3 HX.out
          have hbe : ((en : Int) == -1) = false := by rw [beq_eq_false_iff_ne]; omega
          have hbe2 : ((en : Int) != -1) = true := by rw [bne_iff_ne]; omega
          by_cases hx : ∀ x ∈ X, fitE 0 en x
          · have HXX : Hid (∀ x ∈ X, fitE 0 en x) := hx
            rw [allT_yes hx] at kw
            clear hx
            go_wp2_with fail
            refine kw.mono ?_
            rintro e w4 ⟨rfl, n4, rfl⟩
            have HW4 : Hid (CB w c pa pc ea ec (w.heap.size + 1) (N : Int) (d : Int) (r : Int) (w3.drewN n4)) := HW3.out.drewN n4
            go_wp2_with fail
            go_roundw
            case rel => exact ⟨j + 1, by omega, by go_num, HGO.out HXX.out, HW4.out⟩
            case measure => simp [intOf]; omega
          · have HN : Hid (fitB c b o r l = false) := HFJ.out (by
              apply Classical.byContradiction
              intro hno
              exact hx (fun x hx => Classical.byContradiction (fun hf => hno ⟨x, hx, hf⟩)))
            rw [allT_no hx] at kw
            clear hx
            go_wp2_with fail
            refine kw.mono ?_
            rintro e w4 ⟨rfl, n4, rfl⟩
            have HW4 : Hid (CB w c pa pc ea ec (w.heap.size + 1) (N : Int) (d : Int) (r : Int) (w3.drewN n4)) := HW3.out.drewN n4
            go_wp2_with fail
            go_ret
            exact ⟨by rw [HN.out]; rfl, HW4.out.rb.below⟩
      · have HN : Hid (fitB c b o r l = true) := HT.out (by rw [HLN.out]) (fun i hi => HSJ.out i (by omega))
        go_wp2_with fail
        go_ret
        exact ⟨by rw [HN.out]; rfl, HW.out.rb.below⟩

end Go.Proofs.Ytkhdkmdiblomhaa
