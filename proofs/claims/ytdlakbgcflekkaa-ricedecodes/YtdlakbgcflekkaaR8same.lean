/- Own text: the walks of Ints, Same and short. -/
import Derived.Test.YtdlakbgcflekkaaQ8best
import Derived.Test.YtdlakbgcflekkaaR8enc
namespace Go.Proofs.Ytdlakbgcflekkaa
open Go.RowKit
set_option linter.unusedSimpArgs false
set_option linter.unusedVariables false

def shB (l : List Int) : Bool := l.all (fun x => decide (-4000 ≤ x) && decide (x ≤ 4000)) && decide (l.length ≤ 5000)
theorem shB_iff (l : List Int) : shB l = true ↔ ShX l := by
  unfold shB ShX
  rw [Bool.and_eq_true_iff, List.all_eq_true, decide_eq_true_iff]
  constructor
  · rintro ⟨h1, h2⟩
    refine ⟨fun x hx => ?_, h2⟩
    have := h1 x hx
    rw [Bool.and_eq_true_iff, decide_eq_true_iff, decide_eq_true_iff] at this
    exact this
  · rintro ⟨h1, h2⟩
    refine ⟨fun x hx => ?_, h2⟩
    rw [Bool.and_eq_true_iff, decide_eq_true_iff, decide_eq_true_iff]
    exact h1 x hx
theorem shB_yes {l : List Int} (h : ShX l) : shB l = true := (shB_iff l).2 h
theorem shB_no {l : List Int} (h : ¬ ShX l) : shB l = false := by
  cases e : shB l with
  | false => rfl
  | true => exact absurd ((shB_iff l).1 e) h
set_option maxRecDepth 20000 in
set_option maxHeartbeats 3200000 in
theorem ints_same (l : List Int) (a b : Option Addr) (c d : Nat) (w : World) (hl : IntsAt w a l) (hm : IntsAt w b l) :
    Calls Try.prog 23 #[.slice a l.length c, .slice b l.length d] w fun e w' => e = .returned (.bool true) ∧ ∃ n, w' = w.drewN n := by
  have h1 := hl.len
  have HL : Hid (IntsAt w a l) := hl
  have HM : Hid (IntsAt w b l) := hm
  clear hl hm
  go_enter Try.func23, Try.ntmps23
  go_wp2_with fail
  go_loopw [5] (fun t wr => ∃ k n : Nat, k ≤ l.length ∧ t = .int .i64 (k : Int) ∧ wr = w.drewN n) (fun t _ => l.length - (intOf t).toNat)
  case atStart => exact ⟨0, 0, Nat.zero_le _, rfl, rfl⟩
  case round =>
    obtain ⟨k, n, hk, rfl, hw⟩ := hrel
    have HW : Hid (wr = w.drewN n) := hw
    clear hw
    by_cases hlt : k < l.length
    · obtain ⟨b1, o1, rfl, q1⟩ := HL.out.at k hlt
      obtain ⟨b2, o2, rfl, q2⟩ := HM.out.at k hlt
      have r1 := q1 wr (by rw [HW.out]; exact below_drewN _ _)
      have r2 := q2 wr (by rw [HW.out]; exact below_drewN _ _)
      clear q1 q2
      generalize l.getD k 0 = x at *
      go_wp2_with fail
      go_quiet (fail)
      go_wp2_with fail
      go_roundw
      case rel => exact ⟨k + 1, n + nq, by omega, by go_num, by rw [HW.out, World.drewN_drewN]⟩
      case measure => simp [intOf]; omega
    · go_wp2_with fail
      go_ret
      exact ⟨rfl, n, HW.out⟩
set_option maxRecDepth 20000 in
set_option maxHeartbeats 3200000 in
theorem same_same (c : Rc) (pa : Option Addr) (pc : Nat) (ea : Option Addr) (ec : Nat) (pb : Option Addr) (pd : Nat) (eb : Option Addr) (ed : Nat) (w : World) (hr : RcAt w c pa ea) (hq : RcAt w c pb eb) :
    Calls Try.prog 24 #[riceV c pa pc ea ec, riceV c pb pd eb ed] w fun e w' => e = .returned (.bool true) ∧ Below w.heap.size w w' := by
  have HR : Hid (RcAt w c pa ea) := hr
  have HQ : Hid (RcAt w c pb eb) := hq
  have hlP := hr.P.len
  have hlE := hr.E.len
  have HA0 : Hid (RB w c pa pc ea ec ((w.alloc (.cells (riceC c pa pc ea ec) 24)).alloc (.cells (riceC c pb pd eb ed) 24)) ∧ ((w.alloc (.cells (riceC c pa pc ea ec) 24)).alloc (.cells (riceC c pb pd eb ed) 24)).heap[w.heap.size + 1]? = some (.cells (riceC c pb pd eb ed) 24 (0, 0))) := by
    refine ⟨(RB.new w c pa pc ea ec).next ((Below.refl _ _).alloc (Nat.le_refl _) _), ?_⟩
    have hh := heap_alloc_new (w.alloc (.cells (riceC c pa pc ea ec) 24)) (.cells (riceC c pb pd eb ed) 24)
    rw [show (w.alloc (.cells (riceC c pa pc ea ec) 24)).heap.size = w.heap.size + 1 from by simp] at hh
    exact hh
  clear hr hq
  go_enter Try.func24, Try.ntmps24
  go_wp2_with fail
  generalize hwa : World.alloc _ _ = wa at *
  clear hwa
  go_loopw [5] (fun t wr => ∃ k : Nat, k ≤ c.P.length ∧ t = .int .i64 (k : Int) ∧ RB w c pa pc ea ec wr ∧ wr.heap[w.heap.size + 1]? = some (.cells (riceC c pb pd eb ed) 24 (0, 0))) (fun t _ => c.P.length - (intOf t).toNat)
  case atStart => exact ⟨0, Nat.zero_le _, rfl, HA0.out⟩
  case round =>
    obtain ⟨k, hk, rfl, h1, h2⟩ := hrel
    have HA : Hid (RB w c pa pc ea ec wr ∧ wr.heap[w.heap.size + 1]? = some (.cells (riceC c pb pd eb ed) 24 (0, 0))) := ⟨h1, h2⟩
    have x2 := h1.c2
    have y2 : wr.cell? ⟨w.heap.size + 1, 2, none⟩ = some (.slice pb c.P.length pd) := by rw [cell_of_row _ _ _ _ _ _ h2]; rfl
    by_cases hlt : k < c.P.length
    · obtain ⟨b1, o1, e1, q1⟩ := HR.out.P.at k hlt
      obtain ⟨b2, o2, e2, q2⟩ := HQ.out.P.at k hlt
      have r1 := q1 wr h1.below
      have r2 := q2 wr h1.below
      rw [e1] at x2
      rw [e2] at y2
      clear q1 q2 e1 e2 h1 h2
      generalize c.P.getD k 0 = x at *
      go_wp2_with fail
      go_quiet (fail)
      go_wp2_with fail
      go_roundw
      case rel => exact ⟨k + 1, by omega, by go_num, HA.out.1.drewN _, HA.out.2⟩
      case measure => simp [intOf]; omega
    · clear h1 h2
      go_wp2_with fail

      clear HA0
      have HA0 := HA
      clear HA
      go_loopw [6] (fun t wr => ∃ k : Nat, k ≤ c.E.length ∧ t = .int .i64 (k : Int) ∧ RB w c pa pc ea ec wr ∧ wr.heap[w.heap.size + 1]? = some (.cells (riceC c pb pd eb ed) 24 (0, 0))) (fun t _ => c.E.length - (intOf t).toNat)
      case atStart => exact ⟨0, Nat.zero_le _, rfl, HA0.out⟩
      case round =>
        obtain ⟨k, hk, rfl, h1, h2⟩ := hrel
        have HA : Hid (RB w c pa pc ea ec wr ∧ wr.heap[w.heap.size + 1]? = some (.cells (riceC c pb pd eb ed) 24 (0, 0))) := ⟨h1, h2⟩
        have x3 := h1.c3
        have y3 : wr.cell? ⟨w.heap.size + 1, 3, none⟩ = some (.slice eb c.E.length ed) := by rw [cell_of_row _ _ _ _ _ _ h2]; rfl
        by_cases hlt : k < c.E.length
        · obtain ⟨b1, o1, e1, q1⟩ := HR.out.E.at k hlt
          obtain ⟨b2, o2, e2, q2⟩ := HQ.out.E.at k hlt
          have r1 := q1 wr h1.below
          have r2 := q2 wr h1.below
          rw [e1] at x3
          rw [e2] at y3
          clear q1 q2 e1 e2 h1 h2
          generalize c.E.getD k 0 = x at *
          go_wp2_with fail
          go_quiet (fail)
          go_wp2_with fail
          go_roundw
          case rel => exact ⟨k + 1, by omega, by go_num, HA.out.1.drewN _, HA.out.2⟩
          case measure => simp [intOf]; omega
        · clear h1 h2
          go_wp2_with fail

          go_ret
          exact ⟨rfl, HA.out.1.below⟩
set_option maxRecDepth 20000 in
set_option maxHeartbeats 3200000 in
theorem short_spec (l : List Int) (ao : Option Addr) (cap : Nat) (w : World) (hl : IntsAt w ao l) :
    Calls Try.prog 8 #[.slice ao l.length cap] w fun e w' => e = .returned (.bool (shB l)) ∧ w' = w := by
  have h1 := hl.len
  have HL : Hid (IntsAt w ao l) := hl
  clear hl
  go_enter Try.func8, Try.ntmps8
  go_wp2_with fail
  go_loopw [3] (fun t wr => ∃ k : Nat, k ≤ l.length ∧ t = .int .i64 (k : Int) ∧ (∀ x ∈ l.take k, -4000 ≤ x ∧ x ≤ 4000) ∧ wr = w) (fun t _ => l.length - (intOf t).toNat)
  case atStart => exact ⟨0, Nat.zero_le _, rfl, fun x hx => absurd hx (by simp), rfl⟩
  case round =>
    obtain ⟨k, hk, rfl, hs, rfl⟩ := hrel
    have HS : Hid (∀ x ∈ l.take k, -4000 ≤ x ∧ x ≤ 4000) := hs
    clear hs
    by_cases hlt : k < l.length
    · obtain ⟨b1, o1, rfl, q1⟩ := HL.out.at k hlt
      have r1 := q1 wr (Below.refl _ _)
      have HM : Hid (l.getD k 0 ∈ l) := getD_mem l k hlt
      have HT : Hid (l.take (k + 1) = l.take k ++ [l.getD k 0]) := take_snoc l k hlt
      clear q1
      generalize l.getD k 0 = x at *
      by_cases g0 : 4000 < x
      · have HD : Hid (shB l = false) := shB_no (fun hh => by have := hh.1 x HM.out; omega)
        go_wp2_with fail
        go_ret
        exact ⟨by rw [HD.out]; rfl, rfl⟩
      by_cases g1 : x < -4000
      · have HD : Hid (shB l = false) := shB_no (fun hh => by have := hh.1 x HM.out; omega)
        go_wp2_with fail
        go_ret
        exact ⟨by rw [HD.out]; rfl, rfl⟩
      go_wp2_with fail
      go_roundw
      case rel =>
        refine ⟨k + 1, by omega, by go_num, fun y hy => ?_, by first | rfl | trivial⟩
        rw [HT.out] at hy
        rcases List.mem_append.1 hy with hy | hy
        · exact HS.out y hy
        · rw [List.mem_singleton] at hy; rw [hy]; omega
      case measure => simp [intOf]; omega
    · have hall : ∀ x ∈ l, -4000 ≤ x ∧ x ≤ 4000 := by have := HS.out; rwa [List.take_of_length_le (by omega)] at this
      by_cases g5 : l.length ≤ 5000
      · have HD : Hid (shB l = true) := shB_yes ⟨hall, g5⟩
        have hb : decide ((l.length : Int) ≤ 5000) = true := decide_eq_true (by omega)
        clear hall
        go_wp2_with fail
        go_ret
        exact ⟨by rw [HD.out]; rfl, rfl⟩
      · have HD : Hid (shB l = false) := shB_no (fun hh => g5 hh.2)
        have hb : decide ((l.length : Int) ≤ 5000) = false := decide_eq_false (by omega)
        clear hall
        go_wp2_with fail
        go_ret
        exact ⟨by rw [HD.out]; rfl, rfl⟩

end Go.Proofs.Ytdlakbgcflekkaa
