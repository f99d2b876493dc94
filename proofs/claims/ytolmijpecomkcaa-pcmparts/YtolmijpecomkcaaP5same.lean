/- Own text: the walks of the document's Ints, SamePlanes, Same. -/
import Derived.Test.YtolmijpecomkcaaP5fits
namespace Go.Proofs.Ytolmijpecomkcaa
open Go.RowKit
set_option linter.unusedSimpArgs false
set_option linter.unusedVariables false

theorem list_eq_of {α : Type} {l m : List α} {d : α} (hl : l.length = m.length) (h : ∀ j, j < l.length → l.getD j d = m.getD j d) : l = m := by
  apply List.ext_getElem hl
  intro j h1 h2
  have := h j h1
  rwa [List.getD_eq_getElem?_getD, List.getD_eq_getElem?_getD, List.getElem?_eq_getElem h1, List.getElem?_eq_getElem h2] at this

def sameB (p q : Pcm) : Bool := decide (p.rate = q.rate) && (decide (p.ch = q.ch) && (decide (p.wd = q.wd) && decide (p.pl = q.pl)))

set_option maxRecDepth 20000 in
set_option maxHeartbeats 1600000 in
theorem rints_spec (l m : List Int) (a b : Option Addr) (c d : Nat) (w : World) (hl : IntsAt w a l) (hm : IntsAt w b m) :
    Calls Try.prog 56 #[.slice a l.length c, .slice b m.length d] w fun e w' => e = .returned (.bool (decide (l = m))) ∧ ∃ n, w' = w.drewN n := by
  have h1 := hl.len
  have h2 := hm.len
  have HL : Hid (IntsAt w a l) := hl
  have HM : Hid (IntsAt w b m) := hm
  clear hl hm
  by_cases he : l.length = m.length
  · have hb : ((l.length : Int) == (m.length : Int)) = true := by rw [he]; exact beq_self_eq_true _
    go_enter Try.func56, Try.ntmps56
    go_wp2_with fail
    go_loopw [5] (fun t wr => ∃ k n : Nat, k ≤ l.length ∧ t = .int .i64 (k : Int) ∧ (∀ j, j < k → l.getD j 0 = m.getD j 0) ∧ wr = w.drewN n) (fun t _ => l.length - (intOf t).toNat)
    case atStart => exact ⟨0, 0, Nat.zero_le _, rfl, fun j hj => absurd hj (Nat.not_lt_zero _), rfl⟩
    case round =>
      obtain ⟨k, n, hk, rfl, hs, rfl⟩ := hrel
      have HS : Hid (∀ j, j < k → l.getD j 0 = m.getD j 0) := hs
      clear hs
      by_cases hlt : k < l.length
      · obtain ⟨b1, o1, rfl, q1, _, _⟩ := HL.out.at k hlt
        obtain ⟨b2, o2, rfl, q2, _, _⟩ := HM.out.at k (by omega)
        have r1 := q1 w (Below.refl _ _)
        have r2 := q2 w (Below.refl _ _)
        have hlt2 : k < m.length := by omega
        clear q1 q2
        by_cases hx : l.getD k 0 = m.getD k 0
        · have HX : Hid (∀ j, j = k → l.getD j 0 = m.getD j 0) := fun j hj => by rw [hj]; exact hx
          have hbx : (l.getD k 0 == m.getD k 0) = true := by rw [hx]; exact beq_self_eq_true _
          clear hx
          generalize l.getD k 0 = x at *
          generalize m.getD k 0 = y at *
          go_wp2_with fail
          go_quiet (fail)
          go_wp2_with fail
          go_roundw
          case rel =>
            refine ⟨k + 1, n + nq, by omega, by go_num, fun j hj => ?_, rfl⟩
            by_cases e : j = k
            · exact HX.out j e
            · exact HS.out j (by omega)
          case measure => simp [intOf]; omega
        · have HD : Hid (decide (l = m) = false) := decide_eq_false (fun e => hx (by rw [e]))
          have hbx : (l.getD k 0 == m.getD k 0) = false := beq_eq_false_iff_ne.2 hx
          clear hx
          generalize l.getD k 0 = x at *
          generalize m.getD k 0 = y at *
          go_wp2_with fail
          go_quiet (fail)
          go_wp2_with fail
          go_ret
          exact ⟨by rw [HD.out]; rfl, n + nq, by rw [World.drewN_drewN]⟩
      · have HD : Hid (decide (l = m) = true) := decide_eq_true (list_eq_of he (fun j hj => HS.out j (by omega)))
        go_wp2_with fail
        go_ret
        exact ⟨by rw [HD.out]; rfl, n, rfl⟩
  · have hb : ((l.length : Int) == (m.length : Int)) = false := beq_eq_false_iff_ne.2 (by omega)
    have HD : Hid (decide (l = m) = false) := decide_eq_false (fun e => he (by rw [e]))
    go_enter Try.func56, Try.ntmps56
    go_wp2_with fail
    go_ret
    exact ⟨by rw [HD.out]; rfl, 0, rfl⟩

set_option maxRecDepth 20000 in
set_option maxHeartbeats 1600000 in
theorem rplanes_spec (l m : List (List Int)) (a b : Option Addr) (c d : Nat) (w : World) (hl : RowsAt w a l) (hm : RowsAt w b m) :
    Calls Try.prog 38 #[.slice a l.length c, .slice b m.length d] w fun e w' => e = .returned (.bool (decide (l = m))) ∧ ∃ n, w' = w.drewN n := by
  have h1 := hl.len
  have h2 := hm.len
  have HL : Hid (RowsAt w a l) := hl
  have HM : Hid (RowsAt w b m) := hm
  clear hl hm
  by_cases he : l.length = m.length
  · have hb : ((l.length : Int) == (m.length : Int)) = true := by rw [he]; exact beq_self_eq_true _
    go_enter Try.func38, Try.ntmps38
    go_wp2_with fail
    go_loopw [5] (fun t wr => ∃ k n : Nat, k ≤ l.length ∧ t = .int .i64 (k : Int) ∧ (∀ j, j < k → l.getD j [] = m.getD j []) ∧ wr = w.drewN n) (fun t _ => l.length - (intOf t).toNat)
    case atStart => exact ⟨0, 0, Nat.zero_le _, rfl, fun j hj => absurd hj (Nat.not_lt_zero _), rfl⟩
    case round =>
      obtain ⟨k, n, hk, rfl, hs, hwr⟩ := hrel
      have HW : Hid (wr = w.drewN n) := hwr
      have hcel : ∀ x v, w.cell? x = some v → wr.cell? x = some v := fun x v hv => by rw [hwr]; exact hv
      have HHP : Hid (wr.heap = w.heap) := by
        show _ = _
        rw [hwr]
        rfl
      clear hwr
      have HS : Hid (∀ j, j < k → l.getD j [] = m.getD j []) := hs
      clear hs
      by_cases hlt : k < l.length
      · obtain ⟨b1, o1, a1, c1, rfl, l1, q1, i1⟩ := HL.out.at k hlt
        obtain ⟨b2, o2, a2, c2, rfl, l2, q2, i2⟩ := HM.out.at k (by omega)
        have r1 := hcel _ _ (q1 w (Below.refl _ _))
        have r2 := hcel _ _ (q2 w (Below.refl _ _))
        have hlt2 : k < m.length := by omega
        have KI : Hid (∀ wx : World, wx.heap = w.heap → Calls Try.prog 56 #[.slice a1 (l.getD k []).length c1, .slice a2 (m.getD k []).length c2] wx fun e w' => e = .returned (.bool (decide (l.getD k [] = m.getD k []))) ∧ ∃ n', w' = wx.drewN n') := fun wx hx => rints_spec _ _ a1 a2 c1 c2 wx (i1.keep (fun _ _ => by rw [hx])) (i2.keep (fun _ _ => by rw [hx]))
        clear q1 q2 i1 i2 hcel
        by_cases hx : l.getD k [] = m.getD k []
        · have HX : Hid (∀ j, j = k → l.getD j [] = m.getD j []) := fun j hj => by rw [hj]; exact hx
          rw [decide_eq_true hx] at KI
          clear hx
          generalize (l.getD k []).length = x at *
          generalize (m.getD k []).length = y at *
          go_wp2_with fail
          go_quiet ((go_at_call 56; refine Calls.quiet_of (KI.out _ ?_); exact HHP.out))
          go_wp2_with fail
          go_roundw
          case rel =>
            refine ⟨k + 1, n + nq, by omega, by go_num, fun j hj => ?_, by rw [HW.out, World.drewN_drewN]⟩
            by_cases e : j = k
            · exact HX.out j e
            · exact HS.out j (by omega)
          case measure => simp [intOf]; omega
        · have HD : Hid (decide (l = m) = false) := decide_eq_false (fun e => hx (by rw [e]))
          rw [decide_eq_false hx] at KI
          clear hx
          generalize (l.getD k []).length = x at *
          generalize (m.getD k []).length = y at *
          go_wp2_with fail
          go_quiet ((go_at_call 56; refine Calls.quiet_of (KI.out _ ?_); exact HHP.out))
          go_wp2_with fail
          go_ret
          exact ⟨by rw [HD.out]; rfl, n + nq, by rw [HW.out, World.drewN_drewN]⟩
      · have HD : Hid (decide (l = m) = true) := decide_eq_true (list_eq_of he (fun j hj => HS.out j (by omega)))
        clear hcel
        go_wp2_with fail
        go_ret
        exact ⟨by rw [HD.out]; rfl, n, HW.out⟩
  · have hb : ((l.length : Int) == (m.length : Int)) = false := beq_eq_false_iff_ne.2 (by omega)
    have HD : Hid (decide (l = m) = false) := decide_eq_false (fun e => he (by rw [e]))
    go_enter Try.func38, Try.ntmps38
    go_wp2_with fail
    go_ret
    exact ⟨by rw [HD.out]; rfl, 0, rfl⟩

set_option maxRecDepth 20000 in
set_option maxHeartbeats 3200000 in
theorem rsame_spec (p q : Pcm) (a b : Option Addr) (c d : Nat) (w : World) (hl : RowsAt w a p.pl) (hm : RowsAt w b q.pl) :
    Calls Try.prog 17 #[pcmV p a c, pcmV q b d] w fun e w' => e = .returned (.bool (sameB p q)) ∧ Below w.heap.size w w' := by
  have HB : Hid (Below w.heap.size w ((w.alloc (.cells (pcmC p a c) 24)).alloc (.cells (pcmC q b d) 24))) := ((Below.refl w.heap.size w).alloc (Nat.le_refl _) _).alloc (by simp) _
  have KP : Hid (∀ wx, Below w.heap.size w wx → Calls Try.prog 38 #[.slice a p.pl.length c, .slice b q.pl.length d] wx fun e w' => e = .returned (.bool (decide (p.pl = q.pl))) ∧ ∃ n, w' = wx.drewN n) := fun wx hx => rplanes_spec p.pl q.pl a b c d wx (hl.below hx) (hm.below hx)
  clear hl hm
  by_cases h0 : p.rate = q.rate
  · have b0 : (p.rate == q.rate) = true := by rw [h0]; exact beq_self_eq_true _
    by_cases h1 : p.ch = q.ch
    · have b1 : (p.ch == q.ch) = true := by rw [h1]; exact beq_self_eq_true _
      by_cases h2 : p.wd = q.wd
      · have b2 : (p.wd == q.wd) = true := by rw [h2]; exact beq_self_eq_true _
        have HS : Hid (sameB p q = decide (p.pl = q.pl)) := by
          show _ = _
          unfold sameB
          rw [decide_eq_true h0, decide_eq_true h1, decide_eq_true h2]
          rfl
        clear h0 h1 h2
        generalize decide (p.pl = q.pl) = B at *
        go_enter Try.func17, Try.ntmps17
        go_wp2_with fail
        refine (KP.out _ HB.out).mono ?_
        rintro e w4 ⟨rfl, n, rfl⟩
        go_wp2
        go_ret
        exact ⟨by rw [HS.out]; rfl, by have h := HB.out; exact ⟨h.os, h.tape, h.output, h.size, h.block⟩⟩
      · have b2 : (p.wd == q.wd) = false := beq_eq_false_iff_ne.2 h2
        have HS : Hid (sameB p q = false) := by
          show _ = _
          unfold sameB
          rw [decide_eq_false h2]
          simp
        clear h0 h1 h2
        go_enter Try.func17, Try.ntmps17
        go_wp2
        go_ret
        exact ⟨by rw [HS.out]; rfl, HB.out⟩
    · have b1 : (p.ch == q.ch) = false := beq_eq_false_iff_ne.2 h1
      have HS : Hid (sameB p q = false) := by
        show _ = _
        unfold sameB
        rw [decide_eq_false h1]
        simp
      clear h0 h1
      go_enter Try.func17, Try.ntmps17
      go_wp2
      go_ret
      exact ⟨by rw [HS.out]; rfl, HB.out⟩
  · have b0 : (p.rate == q.rate) = false := beq_eq_false_iff_ne.2 h0
    have HS : Hid (sameB p q = false) := by
      show _ = _
      unfold sameB
      rw [decide_eq_false h0]
      simp
    clear h0
    go_enter Try.func17, Try.ntmps17
    go_wp2
    go_ret
    exact ⟨by rw [HS.out]; rfl, HB.out⟩

end Go.Proofs.Ytolmijpecomkcaa
