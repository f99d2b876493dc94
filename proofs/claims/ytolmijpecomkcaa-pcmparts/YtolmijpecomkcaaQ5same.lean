/- Own text: the walk of the program's Same. -/
import Derived.Test.YtolmijpecomkcaaG1
import Derived.Test.YtolmijpecomkcaaQ5head
namespace Go.Proofs.Ytolmijpecomkcaa
open Go.RowKit
set_option linter.unusedSimpArgs false
set_option linter.unusedVariables false

set_option maxRecDepth 20000 in
set_option maxHeartbeats 3200000 in
theorem equal_spec (l m : List Int) (a b : Option Addr) (c d : Nat) (w : World) (hl : IntsAt w a l) (hm : IntsAt w b m) :
    Calls Try.prog 46 #[.slice a l.length c, .slice b m.length d] w fun e w' => e = .returned (.bool (decide (l = m))) ∧ ∃ n, w' = w.drewN n := by
  have h1 := hl.len
  have h2 := hm.len
  have HL : Hid (IntsAt w a l) := hl
  have HM : Hid (IntsAt w b m) := hm
  clear hl hm
  by_cases he : l.length = m.length
  · have hb : ((l.length : Int) == (m.length : Int)) = true := by rw [he]; exact beq_self_eq_true _
    go_enter Try.func46, Try.ntmps46
    go_wp2_with fail
    go_loopw [5, 13] (fun s5 t wr => ∃ k n : Nat, k ≤ l.length ∧ t = .int .i64 (k : Int) ∧ (∀ j, j < k → l.getD j 0 = m.getD j 0) ∧ wr = w.drewN n) (fun _ t _ => l.length - (intOf t).toNat)
    case atStart => exact ⟨0, 0, Nat.zero_le _, rfl, fun j hj => absurd hj (Nat.not_lt_zero _), rfl⟩
    case round =>
      obtain ⟨k, n, hk, rfl, hs, rfl⟩ := hrel
      have HS : Hid (∀ j, j < k → l.getD j 0 = m.getD j 0) := hs
      clear hs
      by_cases hlt : k < l.length
      · obtain ⟨b1, o1, rfl, q1, _, _⟩ := HL.out.at k hlt
        obtain ⟨b2, o2, rfl, q2, _, _⟩ := HM.out.at k (by omega)
        have r1 := q1 w (Below.refl _ _)
        have r2 := q2 w (Below.refl _ _)
        have hlt2 : k < m.length := by omega
        clear q1 q2
        by_cases hx : l.getD k 0 = m.getD k 0
        · have HX : Hid (∀ j, j = k → l.getD j 0 = m.getD j 0) := fun j hj => by rw [hj]; exact hx
          have hbx : (l.getD k 0 == m.getD k 0) = true := by rw [hx]; exact beq_self_eq_true _
          clear hx
          generalize l.getD k 0 = x at *
          generalize m.getD k 0 = y at *
          go_wp2_with fail
          go_quiet (fail)
          go_wp2_with fail
          go_roundw
          case rel =>
            refine ⟨k + 1, n + nq, by omega, by go_num, fun j hj => ?_, rfl⟩
            by_cases e : j = k
            · exact HX.out j e
            · exact HS.out j (by omega)
          case measure => simp [intOf]; omega
        · have HD : Hid (decide (l = m) = false) := decide_eq_false (fun e => hx (by rw [e]))
          have hbx : (l.getD k 0 == m.getD k 0) = false := beq_eq_false_iff_ne.2 hx
          clear hx
          generalize l.getD k 0 = x at *
          generalize m.getD k 0 = y at *
          go_wp2_with fail
          go_quiet (fail)
          go_wp2_with fail
          go_ret
          exact ⟨by rw [HD.out]; rfl, n + nq, by rw [World.drewN_drewN]⟩
      · have HD : Hid (decide (l = m) = true) := decide_eq_true (list_eq_of he (fun j hj => HS.out j (by omega)))
        go_wp2_with fail
        go_ret
        exact ⟨by rw [HD.out]; rfl, n, rfl⟩
  · have hb : ((l.length : Int) == (m.length : Int)) = false := beq_eq_false_iff_ne.2 (by omega)
    have HD : Hid (decide (l = m) = false) := decide_eq_false (fun e => he (by rw [e]))
    go_enter Try.func46, Try.ntmps46
    go_wp2_with fail
    go_ret
    exact ⟨by rw [HD.out]; rfl, 0, rfl⟩


set_option maxRecDepth 20000 in
set_option maxHeartbeats 3200000 in
theorem equalFunc_spec (l m : List (List Int)) (a b : Option Addr) (c d : Nat) (w : World) (hl : RowsAt w a l) (hm : RowsAt w b m) :
    Calls Try.prog 45 #[.slice a l.length c, .slice b m.length d, .func (.func 46) #[] #[]] w fun e w' => e = .returned (.bool (decide (l = m))) ∧ ∃ n, w' = w.drewN n := by
  have h1 := hl.len
  have h2 := hm.len
  have HL : Hid (RowsAt w a l) := hl
  have HM : Hid (RowsAt w b m) := hm
  clear hl hm
  by_cases he : l.length = m.length
  · have hb : ((l.length : Int) == (m.length : Int)) = true := by rw [he]; exact beq_self_eq_true _
    have HE : Hid (l.length = m.length) := he
    have hle : l.length ≤ m.length := by omega
    have hge : m.length ≤ l.length := by omega
    have hbn : ((l.length : Int) != (m.length : Int)) = false := by rw [bne_eq_false_iff_eq]; omega
    clear he
    go_enter Try.func45, Try.ntmps45
    go_wp2_with fail
    go_loopw [7, 8, 9, 17] (fun s7 s8 s9 t wr => ∃ k n : Nat, k ≤ l.length ∧ t = .int .i64 (k : Int) ∧ (∀ j, j < k → l.getD j [] = m.getD j []) ∧ wr = w.drewN n) (fun _ _ _ t _ => l.length - (intOf t).toNat)
    case atStart => exact ⟨0, 0, Nat.zero_le _, rfl, fun j hj => absurd hj (Nat.not_lt_zero _), rfl⟩
    case round =>
      obtain ⟨k, n, hk, rfl, hs, hwr⟩ := hrel
      have HW : Hid (wr = w.drewN n) := hwr
      have hcel : ∀ x v, w.cell? x = some v → wr.cell? x = some v := fun x v hv => by rw [hwr]; exact hv
      have HHP : Hid (wr.heap = w.heap) := by
        show _ = _
        rw [hwr]
        rfl
      clear hwr
      have HS : Hid (∀ j, j < k → l.getD j [] = m.getD j []) := hs
      clear hs
      by_cases hlt : k < l.length
      · obtain ⟨b1, o1, a1, c1, rfl, l1, q1, i1⟩ := HL.out.at k hlt
        obtain ⟨b2, o2, a2, c2, rfl, l2, q2, i2⟩ := HM.out.at k (by omega)
        have r1 := hcel _ _ (q1 w (Below.refl _ _))
        have r2 := hcel _ _ (q2 w (Below.refl _ _))
        have hlt2 : k < m.length := by omega
        have KI : Hid (∀ wx : World, wx.heap = w.heap → Calls Try.prog 46 #[.slice a1 (l.getD k []).length c1, .slice a2 (m.getD k []).length c2] wx fun e w' => e = .returned (.bool (decide (l.getD k [] = m.getD k []))) ∧ ∃ n', w' = wx.drewN n') := fun wx hx => equal_spec _ _ a1 a2 c1 c2 wx (i1.keep (fun _ _ => by rw [hx])) (i2.keep (fun _ _ => by rw [hx]))
        clear q1 q2 i1 i2 hcel
        by_cases hx : l.getD k [] = m.getD k []
        · have HX : Hid (∀ j, j = k → l.getD j [] = m.getD j []) := fun j hj => by rw [hj]; exact hx
          rw [decide_eq_true hx] at KI
          clear hx
          generalize (l.getD k []).length = x at *
          generalize (m.getD k []).length = y at *
          go_wp2_with fail
          refine (KI.out _ HHP.out).mono ?_
          rintro e w4 ⟨rfl, nq, hw4⟩
          have HW4 : Hid (w4 = wr.drewN nq) := hw4
          clear hw4
          go_wp2_with fail
          go_roundw
          case rel =>
            refine ⟨k + 1, n + nq, by omega, by go_num, fun j hj => ?_, by rw [HW4.out, HW.out, World.drewN_drewN]⟩
            by_cases e : j = k
            · exact HX.out j e
            · exact HS.out j (by omega)
          case measure => simp [intOf]; omega
        · have HD : Hid (decide (l = m) = false) := decide_eq_false (fun e => hx (by rw [e]))
          rw [decide_eq_false hx] at KI
          clear hx
          generalize (l.getD k []).length = x at *
          generalize (m.getD k []).length = y at *
          go_wp2_with fail
          refine (KI.out _ HHP.out).mono ?_
          rintro e w4 ⟨rfl, nq, hw4⟩
          have HW4 : Hid (w4 = wr.drewN nq) := hw4
          clear hw4
          go_wp2_with fail
          go_ret
          exact ⟨by rw [HD.out]; rfl, n + nq, by rw [HW4.out, HW.out, World.drewN_drewN]⟩
      · have HD : Hid (decide (l = m) = true) := decide_eq_true (list_eq_of HE.out (fun j hj => HS.out j (by omega)))
        clear hcel
        go_wp2_with fail
        go_ret
        exact ⟨by rw [HD.out]; rfl, n, HW.out⟩
  · have hb : ((l.length : Int) == (m.length : Int)) = false := beq_eq_false_iff_ne.2 (by omega)
    have HD : Hid (decide (l = m) = false) := decide_eq_false (fun e => he (by rw [e]))
    go_enter Try.func45, Try.ntmps45
    go_wp2_with fail
    go_ret
    exact ⟨by rw [HD.out]; rfl, 0, rfl⟩


theorem same_parts (p q : Pcm) : sameB p q = (alikeB p q && decide (p.pl = q.pl)) := by
  unfold sameB alikeB
  by_cases h0 : p.rate = q.rate <;> by_cases h1 : p.ch = q.ch <;> by_cases h2 : p.wd = q.wd <;> simp [h0, h1, h2]

set_option maxRecDepth 20000 in
set_option maxHeartbeats 3200000 in
theorem same_spec (p q : Pcm) (a b : Option Addr) (c d : Nat) (w : World) (hl : RowsAt w a p.pl) (hm : RowsAt w b q.pl) :
    Calls Try.prog 19 #[pcmV p a c, pcmV q b d] w fun e w' => e = .returned (.bool (sameB p q)) ∧ Below w.heap.size w w' := by
  have HB0 : Hid (Bx w p a c ((w.alloc (.cells (pcmC p a c) 24)).alloc (.cells (pcmC q b d) 24))) := (Bx.new w p a c).next ((Below.refl _ _).alloc (Nat.le_refl _) _)
  have g : ((w.alloc (.cells (pcmC p a c) 24)).alloc (.cells (pcmC q b d) 24)).heap[w.heap.size + 1]? = some (.cells (pcmC q b d) 24 (0, 0)) := by
    have hh := heap_alloc_new (w.alloc (.cells (pcmC p a c) 24)) (.cells (pcmC q b d) 24)
    rw [show (w.alloc (.cells (pcmC p a c) 24)).heap.size = w.heap.size + 1 from by simp] at hh
    exact hh
  have HG : Hid (((w.alloc (.cells (pcmC p a c) 24)).alloc (.cells (pcmC q b d) 24)).heap[w.heap.size + 1]? = some (.cells (pcmC q b d) 24 (0, 0))) := g
  have d0 := HB0.out.c0
  have d1 := HB0.out.c1
  have d2 := HB0.out.c2
  have d3 := HB0.out.c3
  have y0 : ((w.alloc (.cells (pcmC p a c) 24)).alloc (.cells (pcmC q b d) 24)).cell? ⟨w.heap.size + 1, 0, none⟩ = some (.int .i64 q.rate) := by rw [cell_of_row _ _ _ _ _ _ g]; rfl
  have y1 : ((w.alloc (.cells (pcmC p a c) 24)).alloc (.cells (pcmC q b d) 24)).cell? ⟨w.heap.size + 1, 1, none⟩ = some (.int .i64 q.ch) := by rw [cell_of_row _ _ _ _ _ _ g]; rfl
  have y2 : ((w.alloc (.cells (pcmC p a c) 24)).alloc (.cells (pcmC q b d) 24)).cell? ⟨w.heap.size + 1, 2, none⟩ = some (.int .i64 q.wd) := by rw [cell_of_row _ _ _ _ _ _ g]; rfl
  have y3 : ((w.alloc (.cells (pcmC p a c) 24)).alloc (.cells (pcmC q b d) 24)).cell? ⟨w.heap.size + 1, 3, none⟩ = some (.slice b q.pl.length d) := by rw [cell_of_row _ _ _ _ _ _ g]; rfl
  have ka := isAlike_spec p q a b c d ((w.alloc (.cells (pcmC p a c) 24)).alloc (.cells (pcmC q b d) 24))
  have KE : Hid (∀ wx, Below w.heap.size w wx → Calls Try.prog 45 #[.slice a p.pl.length c, .slice b q.pl.length d, .func (.func 46) #[] #[]] wx fun e w' => e = .returned (.bool (decide (p.pl = q.pl))) ∧ ∃ n, w' = wx.drewN n) := fun wx hx => equalFunc_spec p.pl q.pl a b c d wx (hl.below hx) (hm.below hx)
  have HSP : Hid (sameB p q = (alikeB p q && decide (p.pl = q.pl))) := same_parts p q
  clear hl hm g
  generalize decide (p.pl = q.pl) = ep at *
  cases hal : alikeB p q with
  | false =>
    rw [hal] at ka
    have HF : Hid (sameB p q = false) := by show _ = _; rw [HSP.out, hal]; rfl
    clear hal HSP
    go_enter Try.func19, Try.ntmps19
    go_wp2_with fail
    refine ka.mono ?_
    rintro e w4 ⟨rfl, h4⟩
    have HW : Hid (Below w.heap.size w w4) := HB0.out.below.trans (h4.mono HB0.out.below.size)
    clear ka h4 d0 d1 d2 d3 y0 y1 y2 y3
    go_wp2_with fail
    go_ret
    exact ⟨by rw [HF.out]; rfl, HW.out⟩
  | true =>
    rw [hal] at ka
    have HF : Hid (sameB p q = ep) := by show _ = _; rw [HSP.out, hal]; rfl
    clear hal HSP
    go_enter Try.func19, Try.ntmps19
    go_wp2_with fail
    refine ka.mono ?_
    rintro e w4 ⟨rfl, h4⟩
    have hbx := HB0.out.next h4
    have e3 := hbx.c3
    have hg4 : w4.heap[w.heap.size + 1]? = some (.cells (pcmC q b d) 24 (0, 0)) := by rw [h4.block _ (lt_of_block HG.out)]; exact HG.out
    have f3 : w4.cell? ⟨w.heap.size + 1, 3, none⟩ = some (.slice b q.pl.length d) := by rw [cell_of_row _ _ _ _ _ _ hg4]; rfl
    have HBX : Hid (Bx w p a c w4) := hbx
    have ke := KE.out w4 hbx.below
    clear ka h4 d0 d1 d2 d3 y0 y1 y2 y3 hbx hg4
    go_wp2_with fail
    refine ke.mono ?_
    rintro e w5 ⟨rfl, n, rfl⟩
    go_wp2_with fail
    go_ret
    exact ⟨by rw [HF.out]; rfl, (HBX.out.drewN n).below⟩

end Go.Proofs.Ytolmijpecomkcaa
