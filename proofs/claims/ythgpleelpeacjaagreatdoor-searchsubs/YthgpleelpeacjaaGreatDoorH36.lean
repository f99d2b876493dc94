/- Own text. -/
import Derived.Test.YthgpleelpeacjaaGreatDoorH35
set_option linter.unusedSimpArgs false
set_option linter.unusedVariables false
set_option maxRecDepth 20000
set_option maxHeartbeats 12800000
namespace Go.Proofs.YthgpleelpeacjaaGreatDoor
open Go.RowKit
theorem z_areBlocks (P : List (List Int)) (ro : Option Addr) (rk : Nat) (k : Nat) (hk : k ≤ 63) (bb : Bool) (hbb : bb = true ↔ (∀ l ∈ P, l.length = (P.getD 0 []).length ∧ 1 ≤ l.length ∧ l.length ≤ 4608 ∧ ∀ x ∈ l, sigE x ((k : Int) + 1) = 0)) (w : World) (hr : RowsAt w ro P) : Calls Tryz.prog 86 #[.slice ro P.length rk, .int .i64 ((k : Int) + 1)] w fun e w' => e = .returned (.bool bb) ∧ w' = w := by
 have h1 := hr.len
 have HRO : Hid (RowsAt w ro P) := hr
 have HBB : Hid (bb = true ↔ (∀ l ∈ P, l.length = (P.getD 0 []).length ∧ 1 ≤ l.length ∧ l.length ≤ 4608 ∧ ∀ x ∈ l, sigE x ((k : Int) + 1) = 0)) := hbb
 clear hbb hr
 go_enter Tryz.func86, Tryz.ntmps86
 go_wp2_with fail
 go_loopw [6, 9] (fun s6 s9 wr => ∃ i : Nat, i ≤ P.length ∧ s9 = .int .i64 (i : Int) ∧ (∀ j, j < i → (P.getD j []).length = (P.getD 0 []).length ∧ 1 ≤ (P.getD j []).length ∧ (P.getD j []).length ≤ 4608 ∧ ∀ x ∈ P.getD j [], sigE x ((k : Int) + 1) = 0) ∧ wr = w) (fun _ s9 _ => P.length - (intOf s9).toNat)
 case atStart => exact ⟨0, Nat.zero_le _, rfl, fun j hj => absurd hj (Nat.not_lt_zero _), rfl⟩
 case round =>
  obtain ⟨i, hi, rfl, hs, rfl⟩ := hrel
  have HS : Hid (∀ j, j < i → (P.getD j []).length = (P.getD 0 []).length ∧ 1 ≤ (P.getD j []).length ∧ (P.getD j []).length ≤ 4608 ∧ ∀ x ∈ P.getD j [], sigE x ((k : Int) + 1) = 0) := hs
  clear hs
  by_cases hlt : i < P.length
  ·skip
   obtain ⟨b, off, a, c, hro, hcell, hcap, hints⟩ := rows_at HRO.out i hlt
   obtain ⟨b', off', a0, c0, hro', hcell0, hcap0, hints0⟩ := rows_at HRO.out 0 (by omega)
   subst hro
   cases hro'
   rw [Nat.add_zero] at hcell0
   obtain ⟨l, hll⟩ : ∃ l, l = P.getD i [] := ⟨_, rfl⟩
   obtain ⟨l0, hl0⟩ : ∃ l0, l0 = P.getD 0 [] := ⟨_, rfl⟩
   have HM : Hid (l ∈ P) := by show _ ∈ _; rw [hll, List.getD_eq_getElem?_getD, List.getElem?_eq_getElem hlt]; exact List.getElem_mem hlt
   have HLE : Hid (l = P.getD i []) := hll
   have HL0 : Hid (l0 = P.getD 0 []) := hl0
   rw [← hll] at hcell hints
   rw [← hl0] at hcell0
   have hln := hints.len
   have hln0 : l0.length ≤ 17592186044415 := by rw [hl0]; exact hints0.len
   have HIN : Hid (IntsAt wr a l) := hints
   clear hll hl0 hints hints0 hcap hcap0
   by_cases c0 : ¬ l.length = l0.length
   ·have HF : Hid (bb = false) := bb_no HBB.out (fun h => c0 (by rw [HL0.out]; exact (h l HM.out).1))
    have hb0 : ((l.length : Int) != (l0.length : Int)) = true := by rw [bne_iff_ne]; omega
    clear c0
    go_wp2_with fail
    go_ret
    exact ⟨by rw [HF.out]; rfl, rfl⟩
   by_cases c1 : l.length < 1
   ·have HF : Hid (bb = false) := bb_no HBB.out (fun h => by have := (h l HM.out).2.1; omega)
    have hb0 : ((l.length : Int) != (l0.length : Int)) = false := by rw [bne_eq_false_iff_eq]; omega
    have hb1 : decide ((l.length : Int) < 1) = true := decide_eq_true (by omega)
    clear c0 c1
    go_wp2_with fail
    go_ret
    exact ⟨by rw [HF.out]; rfl, rfl⟩
   by_cases c2 : 4608 < l.length
   ·have HF : Hid (bb = false) := bb_no HBB.out (fun h => by have := (h l HM.out).2.2.1; omega)
    have hb0 : ((l.length : Int) != (l0.length : Int)) = false := by rw [bne_eq_false_iff_eq]; omega
    have hb1 : decide ((l.length : Int) < 1) = false := decide_eq_false (by omega)
    have hb2 : decide ((4608 : Int) < (l.length : Int)) = true := decide_eq_true (by omega)
    clear c0 c1 c2
    go_wp2_with fail
    go_ret
    exact ⟨by rw [HF.out]; rfl, rfl⟩
   by_cases c3 : ∀ x ∈ l, sigE x ((k : Int) + 1) = 0
   ·have KW := z_within l a c k hk true (tt_iff c3) wr HIN.out
    have HOK : Hid (l.length = (P.getD 0 []).length ∧ 1 ≤ l.length ∧ l.length ≤ 4608 ∧ ∀ x ∈ l, sigE x ((k : Int) + 1) = 0) := ⟨by rw [← HL0.out]; omega, by omega, by omega, c3⟩
    have hb0 : ((l.length : Int) != (l0.length : Int)) = false := by rw [bne_eq_false_iff_eq]; omega
    have hb1 : decide ((l.length : Int) < 1) = false := decide_eq_false (by omega)
    have hb2 : decide ((4608 : Int) < (l.length : Int)) = false := decide_eq_false (by omega)
    clear c0 c1 c2 c3
    go_wp2_with fail
    refine KW.mono ?_
    rintro e w2 ⟨rfl, hw2⟩
    subst hw2
    clear KW
    go_wp2_with fail
    go_roundw
    case rel =>
     refine ⟨i + 1, by omega, by go_num, fun j hj => ?_, trivial⟩
     by_cases e : j = i
     ·rw [e, ← HLE.out]; exact HOK.out
     ·exact HS.out j (by omega)
    case measure => simp [intOf]; omega
   ·have KW := z_within l a c k hk false (ff_iff c3) wr HIN.out
    have HF : Hid (bb = false) := bb_no HBB.out (fun h => c3 (h l HM.out).2.2.2)
    have hb0 : ((l.length : Int) != (l0.length : Int)) = false := by rw [bne_eq_false_iff_eq]; omega
    have hb1 : decide ((l.length : Int) < 1) = false := decide_eq_false (by omega)
    have hb2 : decide ((4608 : Int) < (l.length : Int)) = false := decide_eq_false (by omega)
    clear c0 c1 c2 c3
    go_wp2_with fail
    refine KW.mono ?_
    rintro e w2 ⟨rfl, hw2⟩
    subst hw2
    clear KW
    go_wp2_with fail
    go_ret
    exact ⟨by rw [HF.out]; rfl, rfl⟩
  ·have HF : Hid (bb = true) := bb_yes HBB.out (fun l hl => by
    obtain ⟨j, hj, rfl⟩ := List.mem_iff_getElem.1 hl
    have := HS.out j (by omega)
    rw [List.getD_eq_getElem?_getD, List.getElem?_eq_getElem hj] at this
    exact this)
   go_wp2_with fail
   go_ret
   exact ⟨by rw [HF.out]; rfl, rfl⟩
theorem z_mayFrames (a b c d : Int) (i : Inf) (e : Int) (s : ByteArray) (bb : Bool) (hbb : bb = true ↔ ((1 ≤ i.ch ∧ i.ch ≤ 8) ∧ (4 ≤ i.wd ∧ i.wd ≤ 24) ∧ (1 ≤ i.rate ∧ i.rate ≤ 655350))) (w : World) : Calls Tryz.prog 85 #[infV a b c d i e s] w fun en w' => en = .returned (.bool bb) ∧ Below w.heap.size w w' := by
 have HB : Hid (Below w.heap.size w (w.alloc (.cells (infC a b c d i e s) 38))) := (Below.refl _ _).alloc (Nat.le_refl _) _
 obtain ⟨i0, i1, i2, i3, i4, i5, i6, i7, i8⟩ := inf_cells (heap_alloc_new w (.cells (infC a b c d i e s) 38))
 by_cases g0 : i.ch < 1
 ·rw [bb_no hbb (by omega)]
  clear hbb
  have hb0 : decide ((1 : Int) ≤ i.ch) = false := decide_eq_false (by omega)
  go_enter Tryz.func85, Tryz.ntmps85
  go_upto_region 1 with fail
  generalize hwa : World.alloc _ _ = wa at *
  clear hwa
  go_wp2_with fail
  go_ret
  exact ⟨rfl, HB.out⟩
 ·skip
  by_cases g1 : 8 < i.ch
  ·rw [bb_no hbb (by omega)]
   clear hbb
   have hb0 : decide ((1 : Int) ≤ i.ch) = true := decide_eq_true (by omega)
   have hb1 : decide (i.ch ≤ 8) = false := decide_eq_false (by omega)
   go_enter Tryz.func85, Tryz.ntmps85
   go_upto_region 1 with fail
   generalize hwa : World.alloc _ _ = wa at *
   clear hwa
   go_wp2_with fail
   go_ret
   exact ⟨rfl, HB.out⟩
  ·skip
   by_cases g2 : i.wd < 4
   ·rw [bb_no hbb (by omega)]
    clear hbb
    have hb0 : decide ((1 : Int) ≤ i.ch) = true := decide_eq_true (by omega)
    have hb1 : decide (i.ch ≤ 8) = true := decide_eq_true (by omega)
    have hb2 : decide ((4 : Int) ≤ i.wd) = false := decide_eq_false (by omega)
    go_enter Tryz.func85, Tryz.ntmps85
    go_upto_region 1 with fail
    generalize hwa : World.alloc _ _ = wa at *
    clear hwa
    go_wp2_with fail
    go_ret
    exact ⟨rfl, HB.out⟩
   ·skip
    by_cases g3 : 24 < i.wd
    ·rw [bb_no hbb (by omega)]
     clear hbb
     have hb0 : decide ((1 : Int) ≤ i.ch) = true := decide_eq_true (by omega)
     have hb1 : decide (i.ch ≤ 8) = true := decide_eq_true (by omega)
     have hb2 : decide ((4 : Int) ≤ i.wd) = true := decide_eq_true (by omega)
     have hb3 : decide (i.wd ≤ 24) = false := decide_eq_false (by omega)
     go_enter Tryz.func85, Tryz.ntmps85
     go_upto_region 1 with fail
     generalize hwa : World.alloc _ _ = wa at *
     clear hwa
     go_wp2_with fail
     go_ret
     exact ⟨rfl, HB.out⟩
    ·skip
     by_cases g4 : i.rate < 1
     ·rw [bb_no hbb (by omega)]
      clear hbb
      have hb0 : decide ((1 : Int) ≤ i.ch) = true := decide_eq_true (by omega)
      have hb1 : decide (i.ch ≤ 8) = true := decide_eq_true (by omega)
      have hb2 : decide ((4 : Int) ≤ i.wd) = true := decide_eq_true (by omega)
      have hb3 : decide (i.wd ≤ 24) = true := decide_eq_true (by omega)
      have hb4 : decide ((1 : Int) ≤ i.rate) = false := decide_eq_false (by omega)
      go_enter Tryz.func85, Tryz.ntmps85
      go_upto_region 1 with fail
      generalize hwa : World.alloc _ _ = wa at *
      clear hwa
      go_wp2_with fail
      go_ret
      exact ⟨rfl, HB.out⟩
     ·skip
      by_cases g5 : 655350 < i.rate
      ·rw [bb_no hbb (by omega)]
       clear hbb
       have hb0 : decide ((1 : Int) ≤ i.ch) = true := decide_eq_true (by omega)
       have hb1 : decide (i.ch ≤ 8) = true := decide_eq_true (by omega)
       have hb2 : decide ((4 : Int) ≤ i.wd) = true := decide_eq_true (by omega)
       have hb3 : decide (i.wd ≤ 24) = true := decide_eq_true (by omega)
       have hb4 : decide ((1 : Int) ≤ i.rate) = true := decide_eq_true (by omega)
       have hb5 : decide (i.rate ≤ 655350) = false := decide_eq_false (by omega)
       go_enter Tryz.func85, Tryz.ntmps85
       go_upto_region 1 with fail
       generalize hwa : World.alloc _ _ = wa at *
       clear hwa
       go_wp2_with fail
       go_ret
       exact ⟨rfl, HB.out⟩
      ·skip
       rw [bb_yes hbb (by omega)]
       clear hbb
       have hb0 : decide ((1 : Int) ≤ i.ch) = true := decide_eq_true (by omega)
       have hb1 : decide (i.ch ≤ 8) = true := decide_eq_true (by omega)
       have hb2 : decide ((4 : Int) ≤ i.wd) = true := decide_eq_true (by omega)
       have hb3 : decide (i.wd ≤ 24) = true := decide_eq_true (by omega)
       have hb4 : decide ((1 : Int) ≤ i.rate) = true := decide_eq_true (by omega)
       have hb5 : decide (i.rate ≤ 655350) = true := decide_eq_true (by omega)
       go_enter Tryz.func85, Tryz.ntmps85
       go_upto_region 1 with fail
       generalize hwa : World.alloc _ _ = wa at *
       clear hwa
       go_wp2_with fail
       go_ret
       exact ⟨rfl, HB.out⟩
theorem z_mayFrame (a b c d : Int) (i : Inf) (e : Int) (s : ByteArray) (num : Int) (P : List (List Int)) (ro : Option Addr) (rk : Nat) (bb : Bool) (hbb : bb = true ↔ (((1 ≤ i.ch ∧ i.ch ≤ 8) ∧ (4 ≤ i.wd ∧ i.wd ≤ 24) ∧ (1 ≤ i.rate ∧ i.rate ≤ 655350)) ∧ (0 ≤ num ∧ num ≤ 2147483647) ∧ (P.length : Int) = i.ch ∧ (∀ l ∈ P, l.length = (P.getD 0 []).length ∧ 1 ≤ l.length ∧ l.length ≤ 4608 ∧ ∀ x ∈ l, sigE x i.wd = 0))) (w : World) (hr : RowsAt w ro P) : Calls Tryz.prog 39 #[infV a b c d i e s, .int .i64 num, .slice ro P.length rk] w fun en w' => en = .returned (.bool bb) ∧ Below w.heap.size w w' := by
 have hPl := hr.len
 have HB : Hid (Below w.heap.size w (w.alloc (.cells (infC a b c d i e s) 38))) := (Below.refl _ _).alloc (Nat.le_refl _) _
 obtain ⟨i0, i1, i2, i3, i4, i5, i6, i7, i8⟩ := inf_cells (heap_alloc_new w (.cells (infC a b c d i e s) 38))
 have HI : Hid ((w.alloc (.cells (infC a b c d i e s) 38)).heap[w.heap.size]? = some (.cells (infC a b c d i e s) 38 (0, 0))) := heap_alloc_new _ _
 by_cases hi : ((1 ≤ i.ch ∧ i.ch ≤ 8) ∧ (4 ≤ i.wd ∧ i.wd ≤ 24) ∧ (1 ≤ i.rate ∧ i.rate ≤ 655350))
 ·have KF := fun wx => z_mayFrames a b c d i e s true (tt_iff hi) wx
  by_cases g0 : num < 0
  ·rw [bb_no hbb (fun h => by omega)]
   clear hbb hr
   have hb0 : decide ((0 : Int) ≤ num) = false := decide_eq_false (by omega)
   go_enter Tryz.func39, Tryz.ntmps39
   go_upto_region 1 with fail
   generalize hwa : World.alloc _ _ = wa at *
   clear hwa
   go_wp2_with fail
   refine (KF wa).mono ?_
   rintro en w2 ⟨rfl, hb2⟩
   have HB2 : Hid (Below w.heap.size w w2) := HB.out.trans (hb2.mono HB.out.size)
   have HI2 : Hid (w2.heap[w.heap.size]? = some (.cells (infC a b c d i e s) 38 (0, 0))) := by show _ = _; rw [hb2.block _ (lt_of_block HI.out)]; exact HI.out
   clear hb2 i0 i1 i2 i3 i4 i5 i6 i7 i8 HI HB
   obtain ⟨i0, i1, i2, i3, i4, i5, i6, i7, i8⟩ := inf_cells HI2.out
   go_wp2_with fail
   go_ret
   exact ⟨rfl, HB2.out⟩
  ·skip
   by_cases g1 : 2147483647 < num
   ·rw [bb_no hbb (fun h => by omega)]
    clear hbb hr
    have hb0 : decide ((0 : Int) ≤ num) = true := decide_eq_true (by omega)
    have hb1 : decide (num ≤ 2147483647) = false := decide_eq_false (by omega)
    go_enter Tryz.func39, Tryz.ntmps39
    go_upto_region 1 with fail
    generalize hwa : World.alloc _ _ = wa at *
    clear hwa
    go_wp2_with fail
    refine (KF wa).mono ?_
    rintro en w2 ⟨rfl, hb2⟩
    have HB2 : Hid (Below w.heap.size w w2) := HB.out.trans (hb2.mono HB.out.size)
    have HI2 : Hid (w2.heap[w.heap.size]? = some (.cells (infC a b c d i e s) 38 (0, 0))) := by show _ = _; rw [hb2.block _ (lt_of_block HI.out)]; exact HI.out
    clear hb2 i0 i1 i2 i3 i4 i5 i6 i7 i8 HI HB
    obtain ⟨i0, i1, i2, i3, i4, i5, i6, i7, i8⟩ := inf_cells HI2.out
    go_wp2_with fail
    go_ret
    exact ⟨rfl, HB2.out⟩
   ·skip
    by_cases g2 : ¬ (P.length : Int) = i.ch
    ·rw [bb_no hbb (fun h => by omega)]
     clear hbb hr
     have hb0 : decide ((0 : Int) ≤ num) = true := decide_eq_true (by omega)
     have hb1 : decide (num ≤ 2147483647) = true := decide_eq_true (by omega)
     have hb2 : ((P.length : Int) == i.ch) = false := by rw [beq_eq_false_iff_ne]; omega
     go_enter Tryz.func39, Tryz.ntmps39
     go_upto_region 1 with fail
     generalize hwa : World.alloc _ _ = wa at *
     clear hwa
     go_wp2_with fail
     refine (KF wa).mono ?_
     rintro en w2 ⟨rfl, hb2⟩
     have HB2 : Hid (Below w.heap.size w w2) := HB.out.trans (hb2.mono HB.out.size)
     have HI2 : Hid (w2.heap[w.heap.size]? = some (.cells (infC a b c d i e s) 38 (0, 0))) := by show _ = _; rw [hb2.block _ (lt_of_block HI.out)]; exact HI.out
     clear hb2 i0 i1 i2 i3 i4 i5 i6 i7 i8 HI HB
     obtain ⟨i0, i1, i2, i3, i4, i5, i6, i7, i8⟩ := inf_cells HI2.out
     go_wp2_with fail
     go_ret
     exact ⟨rfl, HB2.out⟩
    ·skip
     obtain ⟨k, hk, hk2⟩ : ∃ k : Nat, i.wd = (k : Int) + 1 ∧ k ≤ 63 := ⟨(i.wd - 1).toNat, by omega, by omega⟩
     have KA : Hid (∀ wx, Below w.heap.size w wx → Calls Tryz.prog 86 #[.slice ro P.length rk, .int .i64 i.wd] wx fun e w' => e = .returned (.bool bb) ∧ w' = wx) := fun wx hb => by
      rw [hk]
      refine z_areBlocks P ro rk k hk2 bb (hbb.trans ⟨fun h => by have h2 := h.2.2.2; rw [hk] at h2; exact h2, fun h => ⟨hi, by omega, by omega, by rw [hk]; exact h⟩⟩) wx (hr.below hb)
     clear hbb hr hk
     have hb0 : decide ((0 : Int) ≤ num) = true := decide_eq_true (by omega)
     have hb1 : decide (num ≤ 2147483647) = true := decide_eq_true (by omega)
     have hb2 : ((P.length : Int) == i.ch) = true := by rw [beq_iff_eq]; omega
     go_enter Tryz.func39, Tryz.ntmps39
     go_upto_region 1 with fail
     generalize hwa : World.alloc _ _ = wa at *
     clear hwa
     go_wp2_with fail
     refine (KF wa).mono ?_
     rintro en w2 ⟨rfl, hb2⟩
     have HB2 : Hid (Below w.heap.size w w2) := HB.out.trans (hb2.mono HB.out.size)
     have HI2 : Hid (w2.heap[w.heap.size]? = some (.cells (infC a b c d i e s) 38 (0, 0))) := by show _ = _; rw [hb2.block _ (lt_of_block HI.out)]; exact HI.out
     clear hb2 i0 i1 i2 i3 i4 i5 i6 i7 i8 HI HB
     obtain ⟨i0, i1, i2, i3, i4, i5, i6, i7, i8⟩ := inf_cells HI2.out
     go_wp2_with fail
     refine (KA.out w2 HB2.out).mono ?_
     rintro en w3 ⟨rfl, hw3⟩
     subst hw3
     go_wp2_with fail
     go_ret
     exact ⟨rfl, HB2.out⟩
 ·have KF := fun wx => z_mayFrames a b c d i e s false (ff_iff hi) wx
  rw [bb_no hbb (fun h => hi h.1)]
  clear hbb hr hi
  go_enter Tryz.func39, Tryz.ntmps39
  go_upto_region 1 with fail
  generalize hwa : World.alloc _ _ = wa at *
  clear hwa
  go_wp2_with fail
  refine (KF wa).mono ?_
  rintro en w2 ⟨rfl, hb2⟩
  have HB2 : Hid (Below w.heap.size w w2) := HB.out.trans (hb2.mono HB.out.size)
  have HI2 : Hid (w2.heap[w.heap.size]? = some (.cells (infC a b c d i e s) 38 (0, 0))) := by show _ = _; rw [hb2.block _ (lt_of_block HI.out)]; exact HI.out
  clear hb2 i0 i1 i2 i3 i4 i5 i6 i7 i8 HI HB
  obtain ⟨i0, i1, i2, i3, i4, i5, i6, i7, i8⟩ := inf_cells HI2.out
  go_wp2_with fail
  go_ret
  exact ⟨rfl, HB2.out⟩
def CdF (i : Inf) (F G : Fm) : Prop := ∃ ok1 ok2 ok3 : Int → Bool, (∀ x, ok1 x = true ↔ okC (fSize F x) i) ∧ (∀ x, ok2 x = true ↔ okC (fRate (fSize F (fstC ok1 F.sc sizD)) x) i) ∧ (∀ x, ok3 x = true ↔ okC (fWidth (fRate (fSize F (fstC ok1 F.sc sizD)) (fstC ok2 (fSize F (fstC ok1 F.sc sizD)).rc ratD)) x) i) ∧ G = (fWidth (fRate (fSize F (fstC ok1 F.sc sizD)) (fstC ok2 (fSize F (fstC ok1 F.sc sizD)).rc ratD)) (fstC ok3 (fRate (fSize F (fstC ok1 F.sc sizD)) (fstC ok2 (fSize F (fstC ok1 F.sc sizD)).rc ratD)).wc widD))
def FrP (i : Inf) (num sz : Int) (Φ : Int → List Sb → Prop) (w : World) (e : Ending) (w' : World) : Prop := ∃ mo S G so sk, Φ mo S ∧ CdF i ⟨false, num, sz, 0, 0, 0, mo, S⟩ G ∧ e = .returned (.tuple #[fmV G so sk, .int .i64 0]) ∧ FmAt w' G so sk ∧ Below w.heap.size w w'
def ChQ (Φ : Int → List Sb → Prop) (w : World) (e : Ending) (w' : World) : Prop := ∃ (mo : Int) (S : List Sb) (n : Nat) (oa : Option Addr) (oc : Nat), Φ mo S ∧ I64 mo ∧ e = .returned (.agg #[.int .i64 mo, .slice oa S.length oc, .int .i64 (n : Int)]) ∧ SubsFr w.heap.size w' oa S ∧ (S.length ≤ oc ∧ (oa = none → oc = 0)) ∧ Below w.heap.size w w'
structure FB (w : World) (a b c d : Int) (i : Inf) (e : Int) (s : ByteArray) (X : World) : Prop where
 ib : X.heap[w.heap.size]? = some (.cells (infC a b c d i e s) 38 (0, 0))
 rb : X.heap[w.heap.size + 1]? = some (.cells #[.bool false, .int .i64 0, .int .i64 0, .int .i64 0, .int .i64 0, .int .i64 0, .int .i64 0, .slice none 0 0] 41 (0, 0))
 low : Below w.heap.size w X
section
variable {w X X' : World} {a b c d : Int} {i : Inf} {e : Int} {s : ByteArray}
theorem FB.next (h : FB w a b c d i e s X) (hb : Below X.heap.size X X') : FB w a b c d i e s X' :=
 ⟨by rw [hb.block _ (lt_of_block h.ib)]; exact h.ib, by rw [hb.block _ (lt_of_block h.rb)]; exact h.rb, h.low.trans (hb.mono h.low.size)⟩
theorem FB.new (w : World) (a b c d : Int) (i : Inf) (e : Int) (s : ByteArray) : FB w a b c d i e s ((w.alloc (.cells (infC a b c d i e s) 38)).alloc (.cells #[.bool false, .int .i64 0, .int .i64 0, .int .i64 0, .int .i64 0, .int .i64 0, .int .i64 0, .slice none 0 0] 41)) := by
 refine ⟨heap_two _ _ _, ?_, ((Below.refl _ _).alloc (Nat.le_refl _) _).alloc (by simp) _⟩
 have hh := heap_alloc_new (w.alloc (.cells (infC a b c d i e s) 38)) (.cells #[.bool false, .int .i64 0, .int .i64 0, .int .i64 0, .int .i64 0, .int .i64 0, .int .i64 0, .slice none 0 0] 41)
 rw [show (w.alloc (.cells (infC a b c d i e s) 38)).heap.size = w.heap.size + 1 from by simp] at hh
 exact hh
theorem cdf_ex (i : Inf) (F : Fm) : ∃ ok1 ok2 ok3 : Int → Bool, (∀ x, ok1 x = true ↔ okC (fSize F x) i) ∧ (∀ x, ok2 x = true ↔ okC (fRate (fSize F (fstC ok1 F.sc sizD)) x) i) ∧ (∀ x, ok3 x = true ↔ okC (fWidth (fRate (fSize F (fstC ok1 F.sc sizD)) (fstC ok2 (fSize F (fstC ok1 F.sc sizD)).rc ratD)) x) i) := by
 have hx : ∀ Q : Int → Prop, ∃ ok : Int → Bool, ∀ x, ok x = true ↔ Q x := fun Q => ⟨fun x => @decide _ (Classical.propDecidable (Q x)), fun x => @decide_eq_true_iff _ (Classical.propDecidable (Q x))⟩
 obtain ⟨ok1, h1⟩ := hx (fun x => okC (fSize F x) i)
 obtain ⟨ok2, h2⟩ := hx (fun x => okC (fRate (fSize F (fstC ok1 F.sc sizD)) x) i)
 obtain ⟨ok3, h3⟩ := hx (fun x => okC (fWidth (fRate (fSize F (fstC ok1 F.sc sizD)) (fstC ok2 (fSize F (fstC ok1 F.sc sizD)).rc ratD)) x) i)
 exact ⟨ok1, ok2, ok3, h1, h2, h3⟩
end
theorem z_Frame_yes (a b c d : Int) (i : Inf) (e : Int) (s : ByteArray) (num lv sz : Int) (P : List (List Int)) (ro : Option Addr) (rk : Nat) (hlv : 0 ≤ lv ∧ lv ≤ 2) (hok : (((1 ≤ i.ch ∧ i.ch ≤ 8) ∧ (4 ≤ i.wd ∧ i.wd ≤ 24) ∧ (1 ≤ i.rate ∧ i.rate ≤ 655350)) ∧ (0 ≤ num ∧ num ≤ 2147483647) ∧ (P.length : Int) = i.ch ∧ (∀ l ∈ P, l.length = (P.getD 0 []).length ∧ 1 ≤ l.length ∧ l.length ≤ 4608 ∧ ∀ x ∈ l, sigE x i.wd = 0))) (hsz : sz = ((P.getD 0 []).length : Int)) (Φ : Int → List Sb → Prop) (w : World) (hL : Lay w) (hr : RowsAt w ro P) (hch : ∀ wx, Below w.heap.size w wx → Calls Tryz.prog 40 #[.slice ro P.length rk, .int .i64 i.wd, .int .i64 lv] wx (ChQ Φ wx)) : Calls Tryz.prog 14 #[infV a b c d i e s, .int .i64 num, .slice ro P.length rk, .int .i64 lv] w (FrP i num sz Φ w) := by
 have KI := fun wx => z_isLevel lv true (tt_iff hlv) wx
 have HA : Hid (FB w a b c d i e s ((w.alloc (.cells (infC a b c d i e s) 38)).alloc (.cells #[.bool false, .int .i64 0, .int .i64 0, .int .i64 0, .int .i64 0, .int .i64 0, .int .i64 0, .slice none 0 0] 41))) := FB.new w a b c d i e s
 have KM : Hid (∀ wx, Below w.heap.size w wx → Calls Tryz.prog 39 #[infV a b c d i e s, .int .i64 num, .slice ro P.length rk] wx fun en w' => en = .returned (.bool true) ∧ Below wx.heap.size wx w') := fun wx hb => z_mayFrame a b c d i e s num P ro rk true (tt_iff hok) wx (hr.below hb)
 have KH : Hid (∀ wx, Below w.heap.size w wx → Calls Tryz.prog 40 #[.slice ro P.length rk, .int .i64 i.wd, .int .i64 lv] wx (ChQ Φ wx)) := hch
 have HLay : Hid (Lay w) := hL
 have HR64 : Hid (I64 i.rate) := by have h1 := hok.1.2.2; show I64 _; omega
 have HN64 : Hid (I64 num) := by have h1 := hok.2.1; show I64 _; omega
 have hP0 : 0 < P.length := by have h1 := hok.1.1; have h2 := hok.2.2.1; omega
 obtain ⟨rb, rf, ra, rc, hro, hrc, _, hri⟩ := rows_at hr 0 hP0
 subst hro
 rw [Nat.add_zero] at hrc
 obtain ⟨l0, hl0⟩ : ∃ l0, l0 = P.getD 0 [] := ⟨_, rfl⟩
 rw [← hl0] at hsz hrc hri
 have HRC : Hid (∀ wx, Below w.heap.size w wx → wx.cell? ⟨rb, rf, none⟩ = some (.slice ra l0.length rc)) := fun wx hb => by rw [World.cell?_of_block (w := w) (hb.block _ (lt_cell hrc))]; exact hrc
 have hl0n := hri.len
 subst hsz
 have HZ64 : Hid (I64 (l0.length : Int)) := by show I64 _; omega
 clear hlv hok hr hch hL hrc hri hl0
 go_enter Tryz.func14, Tryz.ntmps14
 go_upto_region 1 with fail
 generalize hwa : World.alloc _ _ = wa at *
 clear hwa
 go_wp2_with fail
 refine (KI wa).mono ?_
 rintro en w2 ⟨rfl, hw2⟩
 subst hw2
 clear KI
 obtain ⟨i0, i1, i2, i3, i4, i5, i6, i7, i8⟩ := inf_cells HA.out.ib
 go_wp2_with fail
 refine (KM.out w2 HA.out.low).mono ?_
 rintro en w3 ⟨rfl, hb3⟩
 have HA3 : Hid (FB w a b c d i e s w3) := HA.out.next hb3
 clear hb3 HA KM i0 i1 i2 i3 i4 i5 i6 i7 i8
 obtain ⟨i0, i1, i2, i3, i4, i5, i6, i7, i8⟩ := inf_cells HA3.out.ib
 go_wp2_with fail
 refine (KH.out w3 HA3.out.low).mono ?_
 rintro en w4 ⟨mo, S, n, oa, oc, hph, hmo, rfl, hsu, hcap, hb4⟩
 have hb5 : Below w3.heap.size w3 (w4.alloc (.cells #[.int .i64 mo, .slice oa S.length oc, .int .i64 (n : Int)] 63)) := hb4.alloc hb4.size _
 have HA5 : Hid (FB w a b c d i e s (w4.alloc (.cells #[.int .i64 mo, .slice oa S.length oc, .int .i64 (n : Int)] 63))) := HA3.out.next hb5
 have HS4 : Hid (SubsFr w3.heap.size w4 oa S) := hsu
 have HB45 : Hid (Below w4.heap.size w4 (w4.alloc (.cells #[.int .i64 mo, .slice oa S.length oc, .int .i64 (n : Int)] 63))) := ((Below.refl _ _).alloc (Nat.le_refl _) _)
 have HW3 : Hid (w.heap.size + 1 < w3.heap.size ∧ w3.heap.size ≤ w4.heap.size) := ⟨lt_of_block HA3.out.rb, hb4.size⟩
 have HC5 : Hid ((w4.alloc (.cells #[.int .i64 mo, .slice oa S.length oc, .int .i64 (n : Int)] 63)).heap[w4.heap.size]? = some (.cells #[.int .i64 mo, .slice oa S.length oc, .int .i64 (n : Int)] 63 (0, 0))) := heap_alloc_new _ _
 have HPH : Hid (Φ mo S) := hph
 have HMO : Hid (I64 mo) := hmo
 have HCP : Hid (S.length ≤ oc ∧ (oa = none → oc = 0)) := hcap
 clear hph hmo hsu hcap hb4 hb5 HA3 KH i0 i1 i2 i3 i4 i5 i6 i7 i8
 go_upto_region 6 with fail
 generalize hw5 : World.alloc _ _ = w5 at *
 generalize hcb : w4.heap.size = cb at *
 have HCB : Hid (w4.heap.size = cb) := hcb
 clear hw5 hcb
 obtain ⟨c0, c1, c2⟩ := cod_cells HC5.out
 have r1 := HRC.out w5 HA5.out.low
 have hcl : cb < w5.heap.size := lt_of_block HC5.out
 have hrl : rb < w5.heap.size := lt_cell r1
 have n1 : ¬ cb = w5.heap.size := by omega
 have n2 : ¬ w5.heap.size = cb := by omega
 have n3 : ¬ rb = w5.heap.size := by omega
 have n4 : ¬ w5.heap.size = rb := by omega
 have hA6 : Below w5.heap.size w5 (w5.alloc (.cells #[.bool false, .int .i64 num, .int .i64 (l0.length : Int), .int .i64 0, .int .i64 0, .int .i64 0, .int .i64 mo, .slice oa S.length oc] 41)).drew := ((Below.refl _ _).alloc (Nat.le_refl _) _).drew
 have HA6 : Hid (FB w a b c d i e s (w5.alloc (.cells #[.bool false, .int .i64 num, .int .i64 (l0.length : Int), .int .i64 0, .int .i64 0, .int .i64 0, .int .i64 mo, .slice oa S.length oc] 41)).drew) := HA5.out.next hA6
 have HF6 : Hid ((w5.alloc (.cells #[.bool false, .int .i64 num, .int .i64 (l0.length : Int), .int .i64 0, .int .i64 0, .int .i64 0, .int .i64 mo, .slice oa S.length oc] 41)).drew.heap[w5.heap.size]? = some (.cells #[.bool false, .int .i64 num, .int .i64 (l0.length : Int), .int .i64 0, .int .i64 0, .int .i64 0, .int .i64 mo, .slice oa S.length oc] 41 (0, 0))) := heap_alloc_new _ _
 have HB46 : Hid (Below cb w4 (w5.alloc (.cells #[.bool false, .int .i64 num, .int .i64 (l0.length : Int), .int .i64 0, .int .i64 0, .int .i64 0, .int .i64 mo, .slice oa S.length oc] 41)).drew) := HB45.out.trans (hA6.mono (by rw [← HCB.out]; exact HB45.out.size))
 go_region
 generalize hw6 : World.drew _ = w6 at *
 generalize hfb : w5.heap.size = fb at *
 clear hw6 hfb hA6 HA5 HC5 HB45 c0 c1 c2 r1 hcl hrl n1 n2 n3 n4
 obtain ⟨ok1, ok2, ok3, hk1, hk2, hk3⟩ := cdf_ex i (⟨false, num, (l0.length : Int), 0, 0, 0, mo, S⟩ : Fm)
 have HS6 : Hid (SubsAt w6 oa S) := HS4.out w6 (fun k h1 h2 => HB46.out.block k (by rw [← HCB.out]; exact h2))
 have KW := z_withCodes (⟨false, num, (l0.length : Int), 0, 0, 0, mo, S⟩ : Fm) oa oc a b c d i e s HR64.out ok1 ok2 ok3 hk1 hk2 hk3 w6 (HLay.out.below HA6.out.low) ⟨HS6.out, HCP.out, HN64.out, HZ64.out, by show I64 0; decide, by show I64 0; decide, by show I64 0; decide, HMO.out⟩
 have HCF : Hid (CdF i (⟨false, num, (l0.length : Int), 0, 0, 0, mo, S⟩ : Fm) (fWidth (fRate (fSize (⟨false, num, (l0.length : Int), 0, 0, 0, mo, S⟩ : Fm) (fstC ok1 (⟨false, num, (l0.length : Int), 0, 0, 0, mo, S⟩ : Fm).sc sizD)) (fstC ok2 (fSize (⟨false, num, (l0.length : Int), 0, 0, 0, mo, S⟩ : Fm) (fstC ok1 (⟨false, num, (l0.length : Int), 0, 0, 0, mo, S⟩ : Fm).sc sizD)).rc ratD)) (fstC ok3 (fRate (fSize (⟨false, num, (l0.length : Int), 0, 0, 0, mo, S⟩ : Fm) (fstC ok1 (⟨false, num, (l0.length : Int), 0, 0, 0, mo, S⟩ : Fm).sc sizD)) (fstC ok2 (fSize (⟨false, num, (l0.length : Int), 0, 0, 0, mo, S⟩ : Fm) (fstC ok1 (⟨false, num, (l0.length : Int), 0, 0, 0, mo, S⟩ : Fm).sc sizD)).rc ratD)).wc widD))) := ⟨ok1, ok2, ok3, hk1, hk2, hk3, rfl⟩
 have HGA : Hid (∀ wx, SubsAt wx oa S → FmAt wx (fWidth (fRate (fSize (⟨false, num, (l0.length : Int), 0, 0, 0, mo, S⟩ : Fm) (fstC ok1 (⟨false, num, (l0.length : Int), 0, 0, 0, mo, S⟩ : Fm).sc sizD)) (fstC ok2 (fSize (⟨false, num, (l0.length : Int), 0, 0, 0, mo, S⟩ : Fm) (fstC ok1 (⟨false, num, (l0.length : Int), 0, 0, 0, mo, S⟩ : Fm).sc sizD)).rc ratD)) (fstC ok3 (fRate (fSize (⟨false, num, (l0.length : Int), 0, 0, 0, mo, S⟩ : Fm) (fstC ok1 (⟨false, num, (l0.length : Int), 0, 0, 0, mo, S⟩ : Fm).sc sizD)) (fstC ok2 (fSize (⟨false, num, (l0.length : Int), 0, 0, 0, mo, S⟩ : Fm) (fstC ok1 (⟨false, num, (l0.length : Int), 0, 0, 0, mo, S⟩ : Fm).sc sizD)).rc ratD)).wc widD)) oa oc) := fun wx h => ⟨h, HCP.out, HN64.out, HZ64.out, fstC_64 _ _ _ (by show I64 0; decide) (by decide), fstC_64 _ _ _ (by show I64 0; decide) (by decide), fstC_64 _ _ _ (by show I64 0; decide) (by decide), HMO.out⟩
 have HGS : Hid ((fWidth (fRate (fSize (⟨false, num, (l0.length : Int), 0, 0, 0, mo, S⟩ : Fm) (fstC ok1 (⟨false, num, (l0.length : Int), 0, 0, 0, mo, S⟩ : Fm).sc sizD)) (fstC ok2 (fSize (⟨false, num, (l0.length : Int), 0, 0, 0, mo, S⟩ : Fm) (fstC ok1 (⟨false, num, (l0.length : Int), 0, 0, 0, mo, S⟩ : Fm).sc sizD)).rc ratD)) (fstC ok3 (fRate (fSize (⟨false, num, (l0.length : Int), 0, 0, 0, mo, S⟩ : Fm) (fstC ok1 (⟨false, num, (l0.length : Int), 0, 0, 0, mo, S⟩ : Fm).sc sizD)) (fstC ok2 (fSize (⟨false, num, (l0.length : Int), 0, 0, 0, mo, S⟩ : Fm) (fstC ok1 (⟨false, num, (l0.length : Int), 0, 0, 0, mo, S⟩ : Fm).sc sizD)).rc ratD)).wc widD)).S.length = S.length) := rfl
 clear hk1 hk2 hk3
 generalize hGG : (fWidth (fRate (fSize (⟨false, num, (l0.length : Int), 0, 0, 0, mo, S⟩ : Fm) (fstC ok1 (⟨false, num, (l0.length : Int), 0, 0, 0, mo, S⟩ : Fm).sc sizD)) (fstC ok2 (fSize (⟨false, num, (l0.length : Int), 0, 0, 0, mo, S⟩ : Fm) (fstC ok1 (⟨false, num, (l0.length : Int), 0, 0, 0, mo, S⟩ : Fm).sc sizD)).rc ratD)) (fstC ok3 (fRate (fSize (⟨false, num, (l0.length : Int), 0, 0, 0, mo, S⟩ : Fm) (fstC ok1 (⟨false, num, (l0.length : Int), 0, 0, 0, mo, S⟩ : Fm).sc sizD)) (fstC ok2 (fSize (⟨false, num, (l0.length : Int), 0, 0, 0, mo, S⟩ : Fm) (fstC ok1 (⟨false, num, (l0.length : Int), 0, 0, 0, mo, S⟩ : Fm).sc sizD)).rc ratD)).wc widD)) = G at *
 clear hGG
 obtain ⟨z0, z1, z2, z3, z4, z5, z6, z7⟩ := zf_cells HF6.out
 obtain ⟨i0, i1, i2, i3, i4, i5, i6, i7, i8⟩ := inf_cells HA6.out.ib
 go_wp2_with fail
 refine KW.mono ?_
 rintro en w7 ⟨rfl, hb7⟩
 have HA7 : Hid (FB w a b c d i e s w7) := HA6.out.next hb7
 have HB47 : Hid (Below cb w4 w7) := HB46.out.trans (hb7.mono (by rw [← HCB.out]; exact HB46.out.size))
 clear KW hb7 HA6 HF6 HB46 HS6 z0 z1 z2 z3 z4 z5 z6 z7 i0 i1 i2 i3 i4 i5 i6 i7 i8
 obtain ⟨u0, u1, u2, u3, u4, u5, u6, u7⟩ := zf_cells HA7.out.rb
 have fz0 := row_frozen HA7.out.rb 0
 have fz1 := row_frozen HA7.out.rb 1
 have fz2 := row_frozen HA7.out.rb 2
 have fz3 := row_frozen HA7.out.rb 3
 have fz4 := row_frozen HA7.out.rb 4
 have fz5 := row_frozen HA7.out.rb 5
 have fz6 := row_frozen HA7.out.rb 6
 have fz7 := row_frozen HA7.out.rb 7
 go_wp2_with fail
 generalize hwf : World.setCell _ _ _ = wf
 have hrow : wf.heap[w.heap.size + 1]? = some (.cells (fmC G oa oc) 41 (0, 0)) := by rw [← hwf]; exact set8f_a _ _ _ _ _ _ _ _ _ HA7.out.rb
 have hbel : Below w.heap.size w wf := by rw [← hwf]; exact set8f_b _ _ _ _ _ _ _ _ _ w (by omega) HA7.out.low
 have hfm : FmAt wf G oa oc := HGA.out wf (HS4.out wf (fun k h1 h2 => by
  have h3 := HW3.out.1
  rw [← hwf, set8f_d _ _ _ _ _ _ _ _ _ k (by omega)]
  exact HB47.out.block k (by rw [← HCB.out]; exact h2)))
 refine bodyPost_ret (v := .tuple #[.agg (fmC G oa oc), .int .i64 0]) ?_ rfl ⟨mo, S, G, oa, oc, HPH.out, HCF.out, rfl, hfm, hbel⟩
 rw [results_two rfl]
 have hld := run_loadVar_row (P := Tryz.prog) (wf) (w.heap.size + 1) 41 41 (fmC G oa oc) (0, 0) _ hrow Tryz.underlying41 rfl info_Frame12
 simp [asAddr, Result.andThen, hld]
abbrev exI12 : Inf := ⟨8000, 1, 8⟩
theorem okC_ex (q : Sb) (hq : subOk q 16 8) (f : Fm) (h0 : f.v = false ∧ f.num = 0 ∧ f.size = 16 ∧ f.mo = 0 ∧ f.S = [q]) : okC f exI12 ↔ saysZ f ∧ saysR f exI12 ∧ saysW f exI12 := by
 obtain ⟨e1, e2, e3, e4, e5⟩ := h0
 constructor
 ·intro h; exact h.1.2.2.2.2
 ·intro h
  refine ⟨⟨by decide, by rw [e3]; decide, by rw [e2, e1]; decide, by rw [e4]; decide, h⟩, by rw [e5]; rfl, fun c hc => ?_⟩
  rw [e5] at hc ⊢
  have e : c = 0 := by have : c < 1 := hc; omega
  subst e
  rw [e3, e4]
  exact hq
theorem ex_codes (q : Sb) (hq : subOk q 16 8) (G : Fm) (h : CdF exI12 ⟨false, 0, 16, 0, 0, 0, 0, [q]⟩ G) : G.sc = 6 ∧ G.rc = 4 ∧ G.wc = 1 := by
 obtain ⟨ok1, ok2, ok3, h1, h2, h3, rfl⟩ := h
 have s1 : ∀ x, ok1 x = true ↔ saysZ (fSize ⟨false, 0, 16, 0, 0, 0, 0, [q]⟩ x) ∧ saysR (fSize ⟨false, 0, 16, 0, 0, 0, 0, [q]⟩ x) exI12 ∧ saysW (fSize ⟨false, 0, 16, 0, 0, 0, 0, [q]⟩ x) exI12 := fun x => (h1 x).trans (okC_ex q hq _ ⟨rfl, rfl, rfl, rfl, rfl⟩)
 have w0 : ∀ x, saysR (fSize ⟨false, 0, 16, 0, 0, 0, 0, [q]⟩ x) exI12 ∧ saysW (fSize ⟨false, 0, 16, 0, 0, 0, 0, [q]⟩ x) exI12 := fun x => ⟨Or.inl rfl, Or.inl rfl⟩
 have z1 : ∀ x, saysZ (fSize ⟨false, 0, 16, 0, 0, 0, 0, [q]⟩ x) ↔ ((1 ≤ x ∧ x ≤ 15) ∧ (sizN x = 16 ∨ (x = 6 ∧ (16 : Int) ≤ 256) ∨ x = 7)) := fun x => Iff.rfl
 have b1 : ∀ x, ok1 x = decide ((1 ≤ x ∧ x ≤ 15) ∧ (sizN x = 16 ∨ (x = 6 ∧ (16 : Int) ≤ 256) ∨ x = 7)) := fun x => by
  rw [Bool.eq_iff_iff, decide_eq_true_iff, s1 x, z1 x]
  exact ⟨fun h => h.1, fun h => ⟨h, w0 x⟩⟩
 have c1 : ∀ y, fstC ok1 y sizD = 6 := fun y => by
  have e : ok1 = fun x => decide ((1 ≤ x ∧ x ≤ 15) ∧ (sizN x = 16 ∨ (x = 6 ∧ (16 : Int) ≤ 256) ∨ x = 7)) := funext b1
  rw [e]; rfl
 rw [c1] at h2 h3
 have s2 : ∀ x, ok2 x = true ↔ saysR (fRate (fSize ⟨false, 0, 16, 0, 0, 0, 0, [q]⟩ 6) x) exI12 := fun x => (h2 x).trans ((okC_ex q hq _ ⟨rfl, rfl, rfl, rfl, rfl⟩).trans ⟨fun h => h.2.1, fun h => ⟨⟨(show (1 : Int) ≤ 6 ∧ (6 : Int) ≤ 15 by decide), Or.inr (Or.inl ⟨rfl, (show (16 : Int) ≤ 256 by decide)⟩)⟩, h, Or.inl rfl⟩⟩)
 have b2 : ∀ x, ok2 x = decide (x = 0 ∨ ((1 ≤ x ∧ x ≤ 11) ∧ ratN x = 8000) ∨ (x = 12 ∧ (8000 : Int) % 1000 = 0 ∧ (8000 : Int) ≤ 255000) ∨ (x = 13 ∧ (8000 : Int) ≤ 65535) ∨ (x = 14 ∧ (8000 : Int) % 10 = 0 ∧ (8000 : Int) ≤ 655350)) := fun x => by
  rw [Bool.eq_iff_iff, decide_eq_true_iff, s2 x]
  exact Iff.rfl
 have c2 : ∀ y, fstC ok2 y ratD = 4 := fun y => by
  have e := funext b2
  rw [e]; rfl
 rw [c2] at h3
 have s3 : ∀ x, ok3 x = true ↔ saysW (fWidth (fRate (fSize ⟨false, 0, 16, 0, 0, 0, 0, [q]⟩ 6) 4) x) exI12 := fun x => (h3 x).trans ((okC_ex q hq _ ⟨rfl, rfl, rfl, rfl, rfl⟩).trans ⟨fun h => h.2.2, fun h => ⟨⟨(show (1 : Int) ≤ 6 ∧ (6 : Int) ≤ 15 by decide), Or.inr (Or.inl ⟨rfl, (show (16 : Int) ≤ 256 by decide)⟩)⟩, Or.inr (Or.inl ⟨(show (1 : Int) ≤ 4 ∧ (4 : Int) ≤ 11 by decide), rfl⟩), h⟩⟩)
 have b3 : ∀ x, ok3 x = decide (x = 0 ∨ ((1 ≤ x ∧ x ≤ 6) ∧ ¬ x = 3 ∧ widN x = 8)) := fun x => by
  rw [Bool.eq_iff_iff, decide_eq_true_iff, s3 x]
  exact Iff.rfl
 have c3 : ∀ y, fstC ok3 y widD = 1 := fun y => by
  have e := funext b3
  rw [e]; rfl
 exact ⟨c1 0, c2 0, c3 0⟩
theorem ex_five : (sbR 0 8 [5, 5, 5, 5, 5, 5, 5, 5, 5, 5, 5, 5, 5, 5, 5, 5]).map (fun p => (p.1.k, p.2)) = some (0, 16) := by decide +kernel
theorem ex_up : (sbR 0 8 [0, 1, 2, 3, 4, 5, 6, 7, 8, 9, 10, 11, 12, 13, 14, 15]).map (fun p => (p.1.k, p.1.o, decide (0 < p.2))) = some (2, 2, true) := by decide +kernel
theorem fold_mem (v : Int) (l m : List Int) (L : List Sb) (acc : Option (Sb × Nat)) (a : Sb × Nat) (h : L.foldl (stS v l m) acc = some a) : acc = some a ∨ ∃ q ∈ L, vaB q l = true ∧ a = (wiS q m, (subB (wiS q m) v l).length) := by
 induction L generalizing acc with
 | nil => exact Or.inl h
 | cons q t ih =>
  rw [List.foldl_cons] at h
  rcases ih _ h with h1 | ⟨q', h1, h2⟩
  ·unfold stS at h1
   by_cases hv : vaB q l = true
   ·rw [if_pos hv] at h1
    cases acc with
    | none => exact Or.inr ⟨q, List.mem_cons_self .., hv, (Option.some.inj h1).symm⟩
    | some b =>
     dsimp only at h1
     split at h1
     ·exact Or.inr ⟨q, List.mem_cons_self .., hv, (Option.some.inj h1).symm⟩
     ·exact Or.inl h1
   ·rw [if_neg hv] at h1; exact Or.inl h1
  ·exact Or.inr ⟨q', List.mem_cons_of_mem _ h1, h2⟩
theorem sbR_ok (lv v : Int) (l : List Int) (q : Sb) (n : Nat) (h : sbR lv v l = some (q, n)) (hv : 1 ≤ v ∧ v ≤ 33) (hn1 : 1 ≤ l.length) (hn2 : l.length ≤ 65535) (hfit : ∀ x ∈ l, sigE x v = 0) : subOk q l.length v ∧ goesOk q v l ∧ n = (subB q v l).length := by
 unfold sbR at h
 rcases fold_mem v l _ _ none (q, n) h with h1 | ⟨q0, h1, h2, h3⟩
 ·cases h1
 ·have ht := cnL_tried lv _ q0 h1
  have ho : q0.o ≤ (l.length : Int) := by
   rcases ht with h4 | h4 | ⟨o, ho4, h4⟩ | ⟨C, hC, h4⟩
   ·rw [h4]; show (0 : Int) ≤ _; omega
   ·rw [h4]; show (0 : Int) ≤ _; omega
   ·rw [h4] at h2 ⊢
    unfold vaB at h2
    rw [if_neg (by show ¬ (2 : Int) = 0; decide), if_neg (by show ¬ (2 : Int) = 1; decide)] at h2
    exact of_decide_eq_true h2
   ·rw [h4] at h2 ⊢
    unfold vaB at h2
    rw [if_neg (by show ¬ (3 : Int) = 0; decide), if_neg (by show ¬ (3 : Int) = 1; decide)] at h2
    exact of_decide_eq_true h2
  have e1 := congrArg Prod.fst h3
  have e2 := congrArg Prod.snd h3
  dsimp only at e1 e2
  rw [e1]
  refine ⟨tried_sub l v q0 ht ho hv hn1 hn2 hfit, (tried_goes l v q0 ht ho hv hn1 hn2 hfit).1 h2, by rw [e2]⟩
theorem ex5 : ∃ q n, sbR 0 8 [5, 5, 5, 5, 5, 5, 5, 5, 5, 5, 5, 5, 5, 5, 5, 5] = some (q, n) ∧ q.k = 0 ∧ n = 16 := by
 have h := ex_five
 cases hs : sbR 0 8 [5, 5, 5, 5, 5, 5, 5, 5, 5, 5, 5, 5, 5, 5, 5, 5] with
 | none => rw [hs] at h; cases h
 | some p => rw [hs] at h; simp only [Option.map_some, Option.some.injEq, Prod.mk.injEq] at h; exact ⟨p.1, p.2, rfl, h.1, h.2⟩
theorem ex6 : ∃ q n, sbR 0 8 [0, 1, 2, 3, 4, 5, 6, 7, 8, 9, 10, 11, 12, 13, 14, 15] = some (q, n) ∧ q.k = 2 ∧ q.o = 2 ∧ 0 < n := by
 have h := ex_up
 cases hs : sbR 0 8 [0, 1, 2, 3, 4, 5, 6, 7, 8, 9, 10, 11, 12, 13, 14, 15] with
 | none => rw [hs] at h; cases h
 | some p => rw [hs] at h; simp only [Option.map_some, Option.some.injEq, Prod.mk.injEq] at h; exact ⟨p.1, p.2, rfl, h.1, h.2.1, of_decide_eq_true h.2.2⟩
theorem k_five (lo : Option Addr) (lc : Nat) (w : World) (hT : Tz w) (hl : IntsAt w lo [5, 5, 5, 5, 5, 5, 5, 5, 5, 5, 5, 5, 5, 5, 5, 5]) : Calls Tryz.prog 8 #[.slice lo 16 lc, .int .i64 8, .int .i64 0] w fun e w' => ∃ (q : Sb) (ca : Option Addr) (cc : Nat) (pa : Option Addr) (pc : Nat) (ea : Option Addr) (ec : Nat), e = .returned (.tuple #[.agg #[.int .i64 0, .int .i64 q.o, .int .i64 q.w, .int .i64 q.p, .int .i64 q.h, .slice ca q.C.length cc, .int .i64 q.R.m, .int .i64 q.R.o, .slice pa q.R.P.length pc, .slice ea q.R.E.length ec], .int .i64 16]) ∧ Below w.heap.size w w' := by
 have k := z_Sub_yes [5, 5, 5, 5, 5, 5, 5, 5, 5, 5, 5, 5, 5, 5, 5, 5] lo lc 8 0 (by decide) (by decide) (by decide) (by decide) (by decide) w hT hl
 refine k.mono fun e w' hh => ?_
 obtain ⟨q, n, ca, cc, pa, pc, ea, ec, h1, h2, h3, h4⟩ := hh
 obtain ⟨q', n', h5, h6, h7⟩ := ex5
 rw [h1] at h5
 cases h5
 rw [h7] at h2
 refine ⟨q, ca, cc, pa, pc, ea, ec, ?_, h4⟩
 rw [h2, ← h6]
 rfl
theorem k_up (lo : Option Addr) (lc : Nat) (w : World) (hT : Tz w) (hl : IntsAt w lo [0, 1, 2, 3, 4, 5, 6, 7, 8, 9, 10, 11, 12, 13, 14, 15]) : Calls Tryz.prog 8 #[.slice lo 16 lc, .int .i64 8, .int .i64 0] w fun e w' => ∃ (q : Sb) (ca : Option Addr) (cc : Nat) (pa : Option Addr) (pc : Nat) (ea : Option Addr) (ec : Nat) (n : Nat), e = .returned (.tuple #[.agg #[.int .i64 2, .int .i64 2, .int .i64 q.w, .int .i64 q.p, .int .i64 q.h, .slice ca q.C.length cc, .int .i64 q.R.m, .int .i64 q.R.o, .slice pa q.R.P.length pc, .slice ea q.R.E.length ec], .int .i64 (n : Int)]) ∧ 0 < n ∧ Below w.heap.size w w' := by
 have k := z_Sub_yes [0, 1, 2, 3, 4, 5, 6, 7, 8, 9, 10, 11, 12, 13, 14, 15] lo lc 8 0 (by decide) (by decide) (by decide) (by decide) (by decide) w hT hl
 refine k.mono fun e w' hh => ?_
 obtain ⟨q, n, ca, cc, pa, pc, ea, ec, h1, h2, h3, h4⟩ := hh
 obtain ⟨q', n', h5, h6, h7, h8⟩ := ex6
 rw [h1] at h5
 cases h5
 refine ⟨q, ca, cc, pa, pc, ea, ec, n, ?_, h8, h4⟩
 have e : subV q ca cc pa pc ea ec = .agg #[.int .i64 2, .int .i64 2, .int .i64 q.w, .int .i64 q.p, .int .i64 q.h, .slice ca q.C.length cc, .int .i64 q.R.m, .int .i64 q.R.o, .slice pa q.R.P.length pc, .slice ea q.R.E.length ec] := by
  show Value.agg #[.int .i64 q.k, .int .i64 q.o, .int .i64 q.w, .int .i64 q.p, .int .i64 q.h, .slice ca q.C.length cc, .int .i64 q.R.m, .int .i64 q.R.o, .slice pa q.R.P.length pc, .slice ea q.R.E.length ec] = _
  rw [h6, h7]
 rw [h2, e]
theorem k_frame (ro : Option Addr) (w : World) (hT : Tz w) (hL : Lay w) (hr : RowsAt w ro [[5, 5, 5, 5, 5, 5, 5, 5, 5, 5, 5, 5, 5, 5, 5, 5]]) : Calls Tryz.prog 14 #[infV 16 4608 0 0 ⟨8000, 1, 8⟩ 0 ⟨#[]⟩, .int .i64 0, .slice ro 1 1, .int .i64 2] w fun e w' => ∃ (G : Fm) (so : Option Addr) (sk : Nat), e = .returned (.tuple #[.agg #[.bool G.v, .int .i64 G.num, .int .i64 G.size, .int .i64 6, .int .i64 4, .int .i64 1, .int .i64 G.mo, .slice so G.S.length sk], .int .i64 0]) ∧ Below w.heap.size w w' := by
 have k := z_Frame_yes 16 4608 0 0 ⟨8000, 1, 8⟩ 0 ⟨#[]⟩ 0 2 16 [[5, 5, 5, 5, 5, 5, 5, 5, 5, 5, 5, 5, 5, 5, 5, 5]] ro 1 (by decide) (by decide) rfl (fun mo S => mo = 0 ∧ ∃ q n, S = [q] ∧ sbR 2 8 [5, 5, 5, 5, 5, 5, 5, 5, 5, 5, 5, 5, 5, 5, 5, 5] = some (q, n)) w hL hr (fun wx hb => by
  refine (z_channels_alone [[5, 5, 5, 5, 5, 5, 5, 5, 5, 5, 5, 5, 5, 5, 5, 5]] ro 1 8 2 (by decide) (by decide) (by decide) (by decide) (by decide) wx (hT.below hb) (hr.below hb)).mono fun e w' hh => ?_
  obtain ⟨L, n, oa, oc, h1, h2, h3, h4, h5, h6⟩ := hh
  have hL : L.length = 1 := h1
  cases L with
  | nil => cases hL
  | cons x t =>
   cases t with
   | cons y t => cases hL
   | nil => exact ⟨0, [x.q], n, oa, oc, ⟨rfl, x.q, x.n, rfl, h2 0 x rfl⟩, by decide, h3, h4, h5, h6⟩)
 refine k.mono fun e w' hh => ?_
 obtain ⟨mo, S, G, so, sk, ⟨rfl, q, n, rfl, hs⟩, hc, he, _, hb⟩ := hh
 have hq := (sbR_ok 2 8 [5, 5, 5, 5, 5, 5, 5, 5, 5, 5, 5, 5, 5, 5, 5, 5] q n hs (by decide) (by decide) (by decide) (by decide)).1
 obtain ⟨e1, e2, e3⟩ := ex_codes q hq G hc
 refine ⟨G, so, sk, ?_, hb⟩
 rw [he, ← e1, ← e2, ← e3]
structure Out2 (w : World) (vX vY : Value) (xs ys : List Int) (X : World) : Prop where
 ox : X.ownsRow w.heap.size 3 1 vX xs.length (intsC xs)
 oy : X.ownsRow w.heap.size 3 1 vY ys.length (intsC ys)
 ab : ∀ g, vX.ownBlock = some g → vY.ownBlock ≠ some g
 below : Below w.heap.size w X
section
variable {w X X' : World} {vX vY : Value} {xs ys : List Int}
theorem Out2.nil (w : World) : Out2 w (.slice none 0 0) (.slice none 0 0) [] [] w := ⟨World.ownsRow_nil _ _ _ _, World.ownsRow_nil _ _ _ _, fun g hg => (by cases hg), Below.refl _ _⟩
theorem Out2.low (h : Out2 w vX vY xs ys X) (hb : Below X.heap.size X X') : Out2 w vX vY xs ys X' := ⟨own_low h.ox hb, own_low h.oy hb, h.ab, h.below.trans (hb.mono h.below.size)⟩
theorem Out2.alloc (h : Out2 w vX vY xs ys X) (o : Obj) : Out2 w vX vY xs ys (X.alloc o) := h.low ((Below.refl _ _).alloc (Nat.le_refl _) _)
theorem Out2.pushX (h : Out2 w vX vY xs ys X) {g cap : Nat} {w1 : World} {p : Int} (ho : w1.ownsRow w.heap.size 3 1 (.slice (some ⟨g, 0, none⟩) (xs.length + 1) cap) (xs.length + 1) (intsC xs ++ [.int .i64 p])) (hg : X.grownBy w1 vX.ownBlock) (hat : vX.ownBlock = some g ∨ g = X.heap.size) : Out2 w (.slice (some ⟨g, 0, none⟩) (xs.length + 1) cap) vY (xs ++ [p]) ys w1 := by
 refine ⟨by rw [List.length_append, intsC_append]; exact ho, ?_, fun y hy hz => ?_, h.below.trans ⟨hg.os, hg.tape, hg.output, hg.size, fun k hk => hg.block k (by have := h.below.size; omega) (fun e => by have := (h.ox.lt k e.symm).1; omega)⟩⟩
 ·refine h.oy.kept hg ?_
  cases e : vY.ownBlock with
  | none => exact .inl rfl
  | some y => exact .inr (fun e2 => h.ab y e2.symm e)
 ·have e : g = y := by simpa [Value.ownBlock] using hy
  subst e
  rcases hat with h1 | h1
  ·exact h.ab _ h1 hz
  ·have := (h.oy.lt _ hz).2; omega
theorem Out2.pushY (h : Out2 w vX vY xs ys X) {g cap : Nat} {w1 : World} {p : Int} (ho : w1.ownsRow w.heap.size 3 1 (.slice (some ⟨g, 0, none⟩) (ys.length + 1) cap) (ys.length + 1) (intsC ys ++ [.int .i64 p])) (hg : X.grownBy w1 vY.ownBlock) (hat : vY.ownBlock = some g ∨ g = X.heap.size) : Out2 w vX (.slice (some ⟨g, 0, none⟩) (ys.length + 1) cap) xs (ys ++ [p]) w1 := by
 refine ⟨?_, by rw [List.length_append, intsC_append]; exact ho, fun y hy hz => ?_, h.below.trans ⟨hg.os, hg.tape, hg.output, hg.size, fun k hk => hg.block k (by have := h.below.size; omega) (fun e => by have := (h.oy.lt k e.symm).1; omega)⟩⟩
 ·refine h.ox.kept hg ?_
  cases e : vX.ownBlock with
  | none => exact .inl rfl
  | some y => exact .inr (fun e2 => h.ab y e e2.symm)
 ·have e : g = y := by simpa [Value.ownBlock] using hz
  subst e
  rcases hat with h1 | h1
  ·exact h.ab _ hy h1
  ·have := (h.ox.lt _ hy).2; omega
theorem Out2.shape (h : Out2 w vX vY xs ys X) : ∃ xa xc ya yc, vX = .slice xa xs.length xc ∧ vY = .slice ya ys.length yc := by
 obtain ⟨xa, xc, h1, _⟩ := owns_shape h.ox
 obtain ⟨ya, yc, h2, _⟩ := owns_shape h.oy
 exact ⟨xa, xc, ya, yc, h1, h2⟩
end
end Go.Proofs.YthgpleelpeacjaaGreatDoor
