/- Own text. -/
import Derived.Test.YthgpleelpeacjaaGreatDoorH32
import Derived.LaidMore
import Derived.Stop.Joined
import Derived.Lib.LaidTab
import Derived.Lib.LaidU8
import Derived.Test.YthgpleelpeacjaaGreatDoorCards
import Derived.Test.YthgpleelpeacjaaGreatDoorTie
set_option linter.unusedSimpArgs false
set_option linter.unusedVariables false
set_option maxRecDepth 20000
set_option maxHeartbeats 12800000
namespace Go.Proofs.YthgpleelpeacjaaGreatDoor
open Go.RowKit
theorem xsub12_no (l : List Int) (lo : Option Addr) (lc : Nat) (v lv : Int) (hno : ¬ ((0 ≤ lv ∧ lv ≤ 2) ∧ (1 ≤ v ∧ v ≤ 33) ∧ (1 ≤ l.length ∧ l.length ≤ 65535) ∧ ∀ x ∈ l, sigE x v = 0)) (w : World) (hl : IntsAt w lo l) : Calls Tryz.prog 9 #[.slice lo l.length lc, .int .i64 v, .int .i64 lv] w fun e w' => e = .returned (.tuple #[.agg (subC ⟨0, 0, 0, 0, 0, [], R00⟩ none 0 none 0 none 0), .int .i64 (-1)]) ∧ Below w.heap.size w w' := by
 have hll := hl.len
 have HB0 : Hid (Below w.heap.size w (w.alloc (.cells (subC ⟨0, 0, 0, 0, 0, [], R00⟩ none 0 none 0 none 0) 27))) := (Below.refl _ _).alloc (Nat.le_refl _) _
 have HR0 : Hid ((w.alloc (.cells (subC ⟨0, 0, 0, 0, 0, [], R00⟩ none 0 none 0 none 0) 27)).heap[w.heap.size]? = some (.cells (subC ⟨0, 0, 0, 0, 0, [], R00⟩ none 0 none 0 none 0) 27 (0, 0))) := heap_alloc_new _ _
 by_cases g0 : lv < 0
 ·clear hno hl
  have hb0 : decide (lv < 0) = true := decide_eq_true (by omega)
  go_enter Tryz.func9, Tryz.ntmps9
  go_upto_region 1 with fail
  generalize hwa : World.alloc _ _ = wa at *
  clear hwa
  obtain ⟨x0, x1, x2, x3, x4, x5, x6, x7, x8, x9⟩ := sub_cells HR0.out
  have fz0 := row_frozen HR0.out 0
  have fz1 := row_frozen HR0.out 1
  have fz2 := row_frozen HR0.out 2
  have fz3 := row_frozen HR0.out 3
  have fz4 := row_frozen HR0.out 4
  have fz5 := row_frozen HR0.out 5
  have fz6 := row_frozen HR0.out 6
  have fz7 := row_frozen HR0.out 7
  have fz8 := row_frozen HR0.out 8
  have fz9 := row_frozen HR0.out 9
  go_wp2_with fail
  generalize hwf : World.setCell _ _ _ = wf
  have hrow : wf.heap[w.heap.size]? = some (.cells (subC ⟨0, 0, 0, 0, 0, [], R00⟩ none 0 none 0 none 0) 27 (0, 0)) := by rw [← hwf]; exact set10_a _ _ _ _ _ _ _ _ _ _ _ HR0.out
  have hbel : Below w.heap.size w wf := by rw [← hwf]; exact set10_b _ _ _ _ _ _ _ _ _ _ _ w (Nat.le_refl _) HB0.out
  refine bodyPost_ret (v := .tuple #[.agg (subC ⟨0, 0, 0, 0, 0, [], R00⟩ none 0 none 0 none 0), .int .i64 (-1)]) ?_ rfl ⟨rfl, hbel⟩
  rw [results_two rfl]
  have hld := run_loadVar_row (P := Tryz.prog) (wf) (w.heap.size) 27 27 (subC ⟨0, 0, 0, 0, 0, [], R00⟩ none 0 none 0 none 0) (0, 0) _ hrow Tryz.underlying27 rfl info_Sub
  simp [asAddr, Result.andThen, hld]
 ·skip
  by_cases g1 : 2 < lv
  ·clear hno hl
   have hb0 : decide (lv < 0) = false := decide_eq_false (by omega)
   have hb1 : decide ((2 : Int) < lv) = true := decide_eq_true (by omega)
   go_enter Tryz.func9, Tryz.ntmps9
   go_upto_region 1 with fail
   generalize hwa : World.alloc _ _ = wa at *
   clear hwa
   obtain ⟨x0, x1, x2, x3, x4, x5, x6, x7, x8, x9⟩ := sub_cells HR0.out
   have fz0 := row_frozen HR0.out 0
   have fz1 := row_frozen HR0.out 1
   have fz2 := row_frozen HR0.out 2
   have fz3 := row_frozen HR0.out 3
   have fz4 := row_frozen HR0.out 4
   have fz5 := row_frozen HR0.out 5
   have fz6 := row_frozen HR0.out 6
   have fz7 := row_frozen HR0.out 7
   have fz8 := row_frozen HR0.out 8
   have fz9 := row_frozen HR0.out 9
   go_wp2_with fail
   generalize hwf : World.setCell _ _ _ = wf
   have hrow : wf.heap[w.heap.size]? = some (.cells (subC ⟨0, 0, 0, 0, 0, [], R00⟩ none 0 none 0 none 0) 27 (0, 0)) := by rw [← hwf]; exact set10_a _ _ _ _ _ _ _ _ _ _ _ HR0.out
   have hbel : Below w.heap.size w wf := by rw [← hwf]; exact set10_b _ _ _ _ _ _ _ _ _ _ _ w (Nat.le_refl _) HB0.out
   refine bodyPost_ret (v := .tuple #[.agg (subC ⟨0, 0, 0, 0, 0, [], R00⟩ none 0 none 0 none 0), .int .i64 (-1)]) ?_ rfl ⟨rfl, hbel⟩
   rw [results_two rfl]
   have hld := run_loadVar_row (P := Tryz.prog) (wf) (w.heap.size) 27 27 (subC ⟨0, 0, 0, 0, 0, [], R00⟩ none 0 none 0 none 0) (0, 0) _ hrow Tryz.underlying27 rfl info_Sub
   simp [asAddr, Result.andThen, hld]
  ·skip
   by_cases g2 : v < 1
   ·clear hno hl
    have hb0 : decide (lv < 0) = false := decide_eq_false (by omega)
    have hb1 : decide ((2 : Int) < lv) = false := decide_eq_false (by omega)
    have hb2 : decide (v < 1) = true := decide_eq_true (by omega)
    go_enter Tryz.func9, Tryz.ntmps9
    go_upto_region 1 with fail
    generalize hwa : World.alloc _ _ = wa at *
    clear hwa
    obtain ⟨x0, x1, x2, x3, x4, x5, x6, x7, x8, x9⟩ := sub_cells HR0.out
    have fz0 := row_frozen HR0.out 0
    have fz1 := row_frozen HR0.out 1
    have fz2 := row_frozen HR0.out 2
    have fz3 := row_frozen HR0.out 3
    have fz4 := row_frozen HR0.out 4
    have fz5 := row_frozen HR0.out 5
    have fz6 := row_frozen HR0.out 6
    have fz7 := row_frozen HR0.out 7
    have fz8 := row_frozen HR0.out 8
    have fz9 := row_frozen HR0.out 9
    go_wp2_with fail
    generalize hwf : World.setCell _ _ _ = wf
    have hrow : wf.heap[w.heap.size]? = some (.cells (subC ⟨0, 0, 0, 0, 0, [], R00⟩ none 0 none 0 none 0) 27 (0, 0)) := by rw [← hwf]; exact set10_a _ _ _ _ _ _ _ _ _ _ _ HR0.out
    have hbel : Below w.heap.size w wf := by rw [← hwf]; exact set10_b _ _ _ _ _ _ _ _ _ _ _ w (Nat.le_refl _) HB0.out
    refine bodyPost_ret (v := .tuple #[.agg (subC ⟨0, 0, 0, 0, 0, [], R00⟩ none 0 none 0 none 0), .int .i64 (-1)]) ?_ rfl ⟨rfl, hbel⟩
    rw [results_two rfl]
    have hld := run_loadVar_row (P := Tryz.prog) (wf) (w.heap.size) 27 27 (subC ⟨0, 0, 0, 0, 0, [], R00⟩ none 0 none 0 none 0) (0, 0) _ hrow Tryz.underlying27 rfl info_Sub
    simp [asAddr, Result.andThen, hld]
   ·skip
    by_cases g3 : 33 < v
    ·clear hno hl
     have hb0 : decide (lv < 0) = false := decide_eq_false (by omega)
     have hb1 : decide ((2 : Int) < lv) = false := decide_eq_false (by omega)
     have hb2 : decide (v < 1) = false := decide_eq_false (by omega)
     have hb3 : decide ((33 : Int) < v) = true := decide_eq_true (by omega)
     go_enter Tryz.func9, Tryz.ntmps9
     go_upto_region 1 with fail
     generalize hwa : World.alloc _ _ = wa at *
     clear hwa
     obtain ⟨x0, x1, x2, x3, x4, x5, x6, x7, x8, x9⟩ := sub_cells HR0.out
     have fz0 := row_frozen HR0.out 0
     have fz1 := row_frozen HR0.out 1
     have fz2 := row_frozen HR0.out 2
     have fz3 := row_frozen HR0.out 3
     have fz4 := row_frozen HR0.out 4
     have fz5 := row_frozen HR0.out 5
     have fz6 := row_frozen HR0.out 6
     have fz7 := row_frozen HR0.out 7
     have fz8 := row_frozen HR0.out 8
     have fz9 := row_frozen HR0.out 9
     go_wp2_with fail
     generalize hwf : World.setCell _ _ _ = wf
     have hrow : wf.heap[w.heap.size]? = some (.cells (subC ⟨0, 0, 0, 0, 0, [], R00⟩ none 0 none 0 none 0) 27 (0, 0)) := by rw [← hwf]; exact set10_a _ _ _ _ _ _ _ _ _ _ _ HR0.out
     have hbel : Below w.heap.size w wf := by rw [← hwf]; exact set10_b _ _ _ _ _ _ _ _ _ _ _ w (Nat.le_refl _) HB0.out
     refine bodyPost_ret (v := .tuple #[.agg (subC ⟨0, 0, 0, 0, 0, [], R00⟩ none 0 none 0 none 0), .int .i64 (-1)]) ?_ rfl ⟨rfl, hbel⟩
     rw [results_two rfl]
     have hld := run_loadVar_row (P := Tryz.prog) (wf) (w.heap.size) 27 27 (subC ⟨0, 0, 0, 0, 0, [], R00⟩ none 0 none 0 none 0) (0, 0) _ hrow Tryz.underlying27 rfl info_Sub
     simp [asAddr, Result.andThen, hld]
    ·skip
     by_cases g4 : l.length < 1
     ·clear hno hl
      have hb0 : decide (lv < 0) = false := decide_eq_false (by omega)
      have hb1 : decide ((2 : Int) < lv) = false := decide_eq_false (by omega)
      have hb2 : decide (v < 1) = false := decide_eq_false (by omega)
      have hb3 : decide ((33 : Int) < v) = false := decide_eq_false (by omega)
      have hb4 : decide ((l.length : Int) < 1) = true := decide_eq_true (by omega)
      go_enter Tryz.func9, Tryz.ntmps9
      go_upto_region 1 with fail
      generalize hwa : World.alloc _ _ = wa at *
      clear hwa
      obtain ⟨x0, x1, x2, x3, x4, x5, x6, x7, x8, x9⟩ := sub_cells HR0.out
      have fz0 := row_frozen HR0.out 0
      have fz1 := row_frozen HR0.out 1
      have fz2 := row_frozen HR0.out 2
      have fz3 := row_frozen HR0.out 3
      have fz4 := row_frozen HR0.out 4
      have fz5 := row_frozen HR0.out 5
      have fz6 := row_frozen HR0.out 6
      have fz7 := row_frozen HR0.out 7
      have fz8 := row_frozen HR0.out 8
      have fz9 := row_frozen HR0.out 9
      go_wp2_with fail
      generalize hwf : World.setCell _ _ _ = wf
      have hrow : wf.heap[w.heap.size]? = some (.cells (subC ⟨0, 0, 0, 0, 0, [], R00⟩ none 0 none 0 none 0) 27 (0, 0)) := by rw [← hwf]; exact set10_a _ _ _ _ _ _ _ _ _ _ _ HR0.out
      have hbel : Below w.heap.size w wf := by rw [← hwf]; exact set10_b _ _ _ _ _ _ _ _ _ _ _ w (Nat.le_refl _) HB0.out
      refine bodyPost_ret (v := .tuple #[.agg (subC ⟨0, 0, 0, 0, 0, [], R00⟩ none 0 none 0 none 0), .int .i64 (-1)]) ?_ rfl ⟨rfl, hbel⟩
      rw [results_two rfl]
      have hld := run_loadVar_row (P := Tryz.prog) (wf) (w.heap.size) 27 27 (subC ⟨0, 0, 0, 0, 0, [], R00⟩ none 0 none 0 none 0) (0, 0) _ hrow Tryz.underlying27 rfl info_Sub
      simp [asAddr, Result.andThen, hld]
     ·skip
      by_cases g5 : 65535 < l.length
      ·clear hno hl
       have hb0 : decide (lv < 0) = false := decide_eq_false (by omega)
       have hb1 : decide ((2 : Int) < lv) = false := decide_eq_false (by omega)
       have hb2 : decide (v < 1) = false := decide_eq_false (by omega)
       have hb3 : decide ((33 : Int) < v) = false := decide_eq_false (by omega)
       have hb4 : decide ((l.length : Int) < 1) = false := decide_eq_false (by omega)
       have hb5 : decide ((65535 : Int) < (l.length : Int)) = true := decide_eq_true (by omega)
       go_enter Tryz.func9, Tryz.ntmps9
       go_upto_region 1 with fail
       generalize hwa : World.alloc _ _ = wa at *
       clear hwa
       obtain ⟨x0, x1, x2, x3, x4, x5, x6, x7, x8, x9⟩ := sub_cells HR0.out
       have fz0 := row_frozen HR0.out 0
       have fz1 := row_frozen HR0.out 1
       have fz2 := row_frozen HR0.out 2
       have fz3 := row_frozen HR0.out 3
       have fz4 := row_frozen HR0.out 4
       have fz5 := row_frozen HR0.out 5
       have fz6 := row_frozen HR0.out 6
       have fz7 := row_frozen HR0.out 7
       have fz8 := row_frozen HR0.out 8
       have fz9 := row_frozen HR0.out 9
       go_wp2_with fail
       generalize hwf : World.setCell _ _ _ = wf
       have hrow : wf.heap[w.heap.size]? = some (.cells (subC ⟨0, 0, 0, 0, 0, [], R00⟩ none 0 none 0 none 0) 27 (0, 0)) := by rw [← hwf]; exact set10_a _ _ _ _ _ _ _ _ _ _ _ HR0.out
       have hbel : Below w.heap.size w wf := by rw [← hwf]; exact set10_b _ _ _ _ _ _ _ _ _ _ _ w (Nat.le_refl _) HB0.out
       refine bodyPost_ret (v := .tuple #[.agg (subC ⟨0, 0, 0, 0, 0, [], R00⟩ none 0 none 0 none 0), .int .i64 (-1)]) ?_ rfl ⟨rfl, hbel⟩
       rw [results_two rfl]
       have hld := run_loadVar_row (P := Tryz.prog) (wf) (w.heap.size) 27 27 (subC ⟨0, 0, 0, 0, 0, [], R00⟩ none 0 none 0 none 0) (0, 0) _ hrow Tryz.underlying27 rfl info_Sub
       simp [asAddr, Result.andThen, hld]
      ·skip
       have HFI : Hid (∀ i, i < l.length → ∀ wx, Calls Tryz.prog 29 #[.int .i64 (l.getD i 0), .int .i64 v] wx fun e w' => e = .returned (.bool (decide (sigE (l.getD i 0) v = 0))) ∧ w' = wx) := fun i hi wx => by
        have hx := getD_mem l i hi
        have hn := hl.num _ hx
        have e : ((v.toNat : Nat) : Int) = v := by omega
        have k := fits_in (l.getD i 0) hn.1 hn.2 v.toNat (by omega) (by omega) wx
        rw [e] at k
        refine k.mono fun en w' hh => ⟨?_, hh.2⟩
        rw [hh.1]
        congr 2
        rw [Bool.eq_iff_iff, decide_eq_true_iff, decide_eq_true_iff, sigE_iff]
        exact ⟨fun h => ⟨by omega, by omega, h.1, h.2⟩, fun h => ⟨h.2.2.1, h.2.2.2⟩⟩
       have HNF : Hid (¬ ∀ x ∈ l, sigE x v = 0) := fun h => hno ⟨by omega, by omega, by omega, h⟩
       have HL : Hid (IntsAt w lo l) := hl
       have hb0 : decide (lv < 0) = false := decide_eq_false (by omega)
       have hb1 : decide ((2 : Int) < lv) = false := decide_eq_false (by omega)
       have hb2 : decide (v < 1) = false := decide_eq_false (by omega)
       have hb3 : decide ((33 : Int) < v) = false := decide_eq_false (by omega)
       have hb4 : decide ((l.length : Int) < 1) = false := decide_eq_false (by omega)
       have hb5 : decide ((65535 : Int) < (l.length : Int)) = false := decide_eq_false (by omega)
       clear hno hl
       go_enter Tryz.func9, Tryz.ntmps9
       go_upto_region 1 with fail
       generalize hwa : World.alloc _ _ = wa at *
       clear hwa
       go_wp2_with fail
       go_loopw [8] (fun s8 wr => ∃ i : Nat, i ≤ l.length ∧ s8 = .int .i64 (i : Int) ∧ (∀ j, j < i → sigE (l.getD j 0) v = 0) ∧ wr = wa) (fun s8 _ => l.length - (intOf s8).toNat)
       case atStart => exact ⟨0, Nat.zero_le _, rfl, fun j hj => absurd hj (Nat.not_lt_zero _), rfl⟩
       case round =>
        obtain ⟨i, hi, rfl, hs, hwr⟩ := hrel
        subst hwr
        have HS : Hid (∀ j, j < i → sigE (l.getD j 0) v = 0) := hs
        clear hs
        by_cases hlt : i < l.length
        ·obtain ⟨b1, o1, hlo, q1⟩ := HL.out.at i hlt
         have r1 := q1 wr HB0.out
         have kf := HFI.out i hlt wr
         clear q1
         subst hlo
         have HE : Hid (∀ j, j = i → l.getD j 0 = l.getD i 0) := fun j hj => by rw [hj]
         generalize l.getD i 0 = x at *
         by_cases c0 : sigE x v = 0
         ·rw [decide_eq_true c0] at kf
          have HX : Hid (sigE x v = 0) := c0
          clear c0
          go_wp2_with fail
          refine kf.mono ?_
          rintro e w4 ⟨rfl, rfl⟩
          go_wp2_with fail
          go_roundw
          case rel =>
           refine ⟨i + 1, by omega, by go_num, fun j hj => ?_, by first | rfl | trivial⟩
           by_cases e : j = i
           ·rw [HE.out j e]; exact HX.out
           ·exact HS.out j (by omega)
          case measure => simp [intOf]; omega
         ·rw [decide_eq_false c0] at kf
          clear c0
          go_wp2_with fail
          refine kf.mono ?_
          rintro e w4 ⟨rfl, rfl⟩
          obtain ⟨x0, x1, x2, x3, x4, x5, x6, x7, x8, x9⟩ := sub_cells HR0.out
          have fz0 := row_frozen HR0.out 0
          have fz1 := row_frozen HR0.out 1
          have fz2 := row_frozen HR0.out 2
          have fz3 := row_frozen HR0.out 3
          have fz4 := row_frozen HR0.out 4
          have fz5 := row_frozen HR0.out 5
          have fz6 := row_frozen HR0.out 6
          have fz7 := row_frozen HR0.out 7
          have fz8 := row_frozen HR0.out 8
          have fz9 := row_frozen HR0.out 9
          go_wp2_with fail
          generalize hwf : World.setCell _ _ _ = wf
          have hrow : wf.heap[w.heap.size]? = some (.cells (subC ⟨0, 0, 0, 0, 0, [], R00⟩ none 0 none 0 none 0) 27 (0, 0)) := by rw [← hwf]; exact set10_a _ _ _ _ _ _ _ _ _ _ _ HR0.out
          have hbel : Below w.heap.size w wf := by rw [← hwf]; exact set10_b _ _ _ _ _ _ _ _ _ _ _ w (Nat.le_refl _) HB0.out
          refine bodyPost_ret (v := .tuple #[.agg (subC ⟨0, 0, 0, 0, 0, [], R00⟩ none 0 none 0 none 0), .int .i64 (-1)]) ?_ rfl ⟨rfl, hbel⟩
          rw [results_two rfl]
          have hld := run_loadVar_row (P := Tryz.prog) (wf) (w.heap.size) 27 27 (subC ⟨0, 0, 0, 0, 0, [], R00⟩ none 0 none 0 none 0) (0, 0) _ hrow Tryz.underlying27 rfl info_Sub
          simp [asAddr, Result.andThen, hld]
        ·exact absurd (fun x hx => by
          obtain ⟨j, hj, rfl⟩ := List.mem_iff_getElem.1 hx
          have := HS.out j (by omega)
          rw [List.getD_eq_getElem?_getD, List.getElem?_eq_getElem hj] at this
          exact this) HNF.out
def s12N (lv : Int) : Int := if lv = 0 then 1152 else if lv = 1 ∨ lv = 2 then 4096 else 0
theorem z_Size (lv : Int) (w : World) : Calls Tryz.prog 11 #[.int .i64 lv] w fun e w' => e = .returned (.int .i64 (s12N lv)) ∧ w' = w := by
 by_cases h0 : lv = 0
 ·have HV : Hid (s12N lv = 1152) := by show _ = _; unfold s12N; rw [if_pos h0]
  have g0 : (lv == 0) = true := by rw [beq_iff_eq]; omega
  clear h0
  go_enter Tryz.func11, Tryz.ntmps11
  go_wp2_with fail
  go_ret
  exact ⟨by rw [HV.out]; rfl, rfl⟩
 ·skip
  by_cases h1 : lv = 1
  ·have HV : Hid (s12N lv = 4096) := by show _ = _; unfold s12N; rw [if_neg h0, if_pos (Or.inl h1)]
   have g0 : (lv == 0) = false := by rw [beq_eq_false_iff_ne]; omega
   have g1 : (lv == 1) = true := by rw [beq_iff_eq]; omega
   clear h0 h1
   go_enter Tryz.func11, Tryz.ntmps11
   go_wp2_with fail
   go_ret
   exact ⟨by rw [HV.out]; rfl, rfl⟩
  ·skip
   by_cases h2 : lv = 2
   ·have HV : Hid (s12N lv = 4096) := by show _ = _; unfold s12N; rw [if_neg h0, if_pos (Or.inr h2)]
    have g0 : (lv == 0) = false := by rw [beq_eq_false_iff_ne]; omega
    have g1 : (lv == 1) = false := by rw [beq_eq_false_iff_ne]; omega
    have g2 : (lv == 2) = true := by rw [beq_iff_eq]; omega
    clear h0 h1 h2
    go_enter Tryz.func11, Tryz.ntmps11
    go_wp2_with fail
    go_ret
    exact ⟨by rw [HV.out]; rfl, rfl⟩
   ·skip
    have HV : Hid (s12N lv = 0) := by show _ = _; unfold s12N; rw [if_neg h0, if_neg (by omega)]
    have g0 : (lv == 0) = false := by rw [beq_eq_false_iff_ne]; omega
    have g1 : (lv == 1) = false := by rw [beq_eq_false_iff_ne]; omega
    have g2 : (lv == 2) = false := by rw [beq_eq_false_iff_ne]; omega
    clear h0 h1 h2
    go_enter Tryz.func11, Tryz.ntmps11
    go_wp2_with fail
    go_ret
    exact ⟨by rw [HV.out]; rfl, rfl⟩
theorem xsize12 (lv : Int) (w : World) : Calls Tryz.prog 12 #[.int .i64 lv] w fun e w' => e = .returned (.int .i64 (s12N lv)) ∧ w' = w := by
 by_cases h0 : lv = 0
 ·have HV : Hid (s12N lv = 1152) := by show _ = _; unfold s12N; rw [if_pos h0]
  have g0 : (lv == 0) = true := by rw [beq_iff_eq]; omega
  clear h0
  go_enter Tryz.func12, Tryz.ntmps12
  go_wp2_with fail
  go_ret
  exact ⟨by rw [HV.out]; rfl, rfl⟩
 ·skip
  by_cases h1 : lv = 1
  ·have HV : Hid (s12N lv = 4096) := by show _ = _; unfold s12N; rw [if_neg h0, if_pos (Or.inl h1)]
   have g0 : (lv == 0) = false := by rw [beq_eq_false_iff_ne]; omega
   have g1 : (lv == 1) = true := by rw [beq_iff_eq]; omega
   clear h0 h1
   go_enter Tryz.func12, Tryz.ntmps12
   go_wp2_with fail
   go_ret
   exact ⟨by rw [HV.out]; rfl, rfl⟩
  ·skip
   by_cases h2 : lv = 2
   ·have HV : Hid (s12N lv = 4096) := by show _ = _; unfold s12N; rw [if_neg h0, if_pos (Or.inr h2)]
    have g0 : (lv == 0) = false := by rw [beq_eq_false_iff_ne]; omega
    have g1 : (lv == 1) = false := by rw [beq_eq_false_iff_ne]; omega
    have g2 : (lv == 2) = true := by rw [beq_iff_eq]; omega
    clear h0 h1 h2
    go_enter Tryz.func12, Tryz.ntmps12
    go_wp2_with fail
    go_ret
    exact ⟨by rw [HV.out]; rfl, rfl⟩
   ·skip
    have HV : Hid (s12N lv = 0) := by show _ = _; unfold s12N; rw [if_neg h0, if_neg (by omega)]
    have g0 : (lv == 0) = false := by rw [beq_eq_false_iff_ne]; omega
    have g1 : (lv == 1) = false := by rw [beq_eq_false_iff_ne]; omega
    have g2 : (lv == 2) = false := by rw [beq_eq_false_iff_ne]; omega
    clear h0 h1 h2
    go_enter Tryz.func12, Tryz.ntmps12
    go_wp2_with fail
    go_ret
    exact ⟨by rw [HV.out]; rfl, rfl⟩
end Go.Proofs.YthgpleelpeacjaaGreatDoor
namespace Go.Proofs.YthgpleelpeacjaaGreatDoor
open Go.ChangeShapes Go.WideShapes Go.ChangeAt Go.RowKit
theorem g_b64 : Tryz.prog.globalNamed (Rows.searchLessRow.laid.map (·.1))[1] = some 4 := by kernel_rfl
theorem t_b64 : (Tryz.prog.globals[4]?).map (·.type) = some 237 := by kernel_rfl
theorem g_siz : Tryz.prog.globalNamed (Rows.searchLessRow.laid.map (·.1))[2] = some 0 := by kernel_rfl
theorem t_siz : (Tryz.prog.globals[0]?).map (·.type) = some 183 := by kernel_rfl
theorem g_rat : Tryz.prog.globalNamed (Rows.searchLessRow.laid.map (·.1))[3] = some 1 := by kernel_rfl
theorem t_rat : (Tryz.prog.globals[1]?).map (·.type) = some 183 := by kernel_rfl
theorem g_wid : Tryz.prog.globalNamed (Rows.searchLessRow.laid.map (·.1))[4] = some 2 := by kernel_rfl
theorem t_wid : (Tryz.prog.globals[2]?).map (·.type) = some 184 := by kernel_rfl
theorem lc3 : Tryz.prog.cellsOf 3 = 1 := by kernel_rfl
theorem lc5 : Tryz.prog.cellsOf 5 = 1 := by kernel_rfl
theorem lcS : Tryz.prog.cellsOf 183 = 16 := by kernel_rfl
theorem lcW : Tryz.prog.cellsOf 184 = 8 := by kernel_rfl
theorem lcB : Tryz.prog.cellsOf 237 = 64 := by kernel_rfl
theorem block_of_var {W : World} {s : String} {g : Nat} {cs : Array Value} (hg : Tryz.prog.globalNamed s = some g) (hv : W.var? Tryz.prog s = some cs) : ∃ t fz, W.heap[g]? = some (.cells cs t fz) := by
 simp only [World.var?, hg, Option.bind_some] at hv
 split at hv
 ·rename_i c t fz he
  simp only [Option.some.injEq] at hv
  subst hv
  exact ⟨t, fz, he⟩
 ·cases hv
theorem tab_of {W : World} {g : Nat} {cs : Array Value} {t : TypeId} {fz : _} {T : List Int} (hb : W.heap[g]? = some (.cells cs t fz)) (k : cs.toList = T.map fun z => Value.int .i64 z) : IntTab g T W := by
 intro j hj
 rw [cell_row hb, ← Array.getElem?_toList, k, List.getElem?_map, List.getElem?_eq_getElem hj, List.getD_eq_getElem?_getD, List.getElem?_eq_getElem hj]
 rfl
def Lay12 (w : World) : Prop := Tz w ∧ Lay w
theorem lay12_of {W : World} (h : laidMetH Tryz.prog Rows.searchLessRow.laid W) : Lay12 W := by
 rw [MakeChecks.laidMetH_plain _ _ _ (by kernel_rfl)] at h
 obtain ⟨ps, ⟨g0, t0, cs0, f0, p0, q0, hg0, ht0, hv0, hd0, hr0, _⟩, _, _⟩ := h
 obtain ⟨g1, t1, cs1, f1, p1, q1, hg1, ht1, hv1, hd1, hr1, _⟩ := hr0
 obtain ⟨g2, t2, cs2, f2, p2, q2, hg2, ht2, hv2, hd2, hr2, _⟩ := hr1
 obtain ⟨g3, t3, cs3, f3, p3, q3, hg3, ht3, hv3, hd3, hr3, _⟩ := hr2
 obtain ⟨g4, t4, cs4, f4, p4, q4, hg4, ht4, hv4, hd4, _, _⟩ := hr3
 obtain rfl := Option.some.inj (g_b64.symm.trans hg1)
 obtain rfl := Option.some.inj (t_b64.symm.trans ht1)
 obtain rfl := Option.some.inj (g_siz.symm.trans hg2)
 obtain rfl := Option.some.inj (t_siz.symm.trans ht2)
 obtain rfl := Option.some.inj (g_rat.symm.trans hg3)
 obtain rfl := Option.some.inj (t_rat.symm.trans ht3)
 obtain rfl := Option.some.inj (g_wid.symm.trans hg4)
 obtain rfl := Option.some.inj (t_wid.symm.trans ht4)
 obtain ⟨u1, z1, b1⟩ := block_of_var hg1 hv1
 obtain ⟨u2, z2, b2⟩ := block_of_var hg2 hv2
 obtain ⟨u3, z3, b3⟩ := block_of_var hg3 hv3
 obtain ⟨u4, z4, b4⟩ := block_of_var hg4 hv4
 have hd1' : DataW.trod _ Tryz.prog W 0 _ _ f1 237 cs1.toList = some (Go.Lib.tabData .u8 (Go.Lib.deBruijn64tab.map fun (n : Nat) => (n : Int)), p1) := hd1
 have hd2' : DataW.trod _ Tryz.prog W 0 _ _ f2 183 cs2.toList = some (Go.Lib.tabData .i64 sizT, p2) := hd2
 have hd3' : DataW.trod _ Tryz.prog W 0 _ _ f3 183 cs3.toList = some (Go.Lib.tabData .i64 ratT, p3) := hd3
 have hd4' : DataW.trod _ Tryz.prog W 0 _ _ f4 184 cs4.toList = some (Go.Lib.tabData .i64 widT, p4) := hd4
 refine ⟨?_, tab_of b2 (Go.Lib.cells_of_tab Tryz.underlying183 Tryz.underlying3 lc3 lcS hd2'), tab_of b3 (Go.Lib.cells_of_tab Tryz.underlying183 Tryz.underlying3 lc3 lcS hd3'), tab_of b4 (Go.Lib.cells_of_tab Tryz.underlying184 Tryz.underlying3 lc3 lcW hd4'), trivial⟩
 have k1 := Go.Lib.cells_of_tab Tryz.underlying237 Tryz.underlying5 lc5 lcB hd1'
 intro j hj
 have hj : j < 64 := by rw [tab_len] at hj; exact hj
 rw [cell_row b1, ← Array.getElem?_toList, k1, List.getElem?_map, List.getElem?_map]
 have hl : Go.Lib.deBruijn64tab.length = 64 := by decide
 rw [List.getElem?_eq_getElem (by omega), List.getD_eq_getElem?_getD, List.getElem?_eq_getElem (by omega)]
 rfl
theorem lay12_ofS {W : World} (h : laidMetH Tryz.prog Rows.searchSubsRow.laid W) : Lay12 W := lay12_of h
end Go.Proofs.YthgpleelpeacjaaGreatDoor
