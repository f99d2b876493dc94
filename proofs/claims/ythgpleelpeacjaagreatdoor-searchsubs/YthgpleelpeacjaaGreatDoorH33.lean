/- Own text. -/
import Derived.Test.YthgpleelpeacjaaGreatDoorH32
set_option linter.unusedSimpArgs false
set_option linter.unusedVariables false
set_option maxRecDepth 20000
set_option maxHeartbeats 12800000
namespace Go.Proofs.YthgpleelpeacjaaGreatDoor
open Go.RowKit
theorem FX.cells {w wx : World} {f : Fm} {so : Option Addr} {sk : Nat} {a b c d : Int} {i : Inf} {e : Int} {s : ByteArray} (h : FX w f so sk a b c d i e s wx) : wx.cell? ⟨w.heap.size, 0, none⟩ = some (.bool f.v) ∧ wx.cell? ⟨w.heap.size, 1, none⟩ = some (.int .i64 f.num) ∧ wx.cell? ⟨w.heap.size, 2, none⟩ = some (.int .i64 f.size) ∧ wx.cell? ⟨w.heap.size, 3, none⟩ = some (.int .i64 f.sc) ∧ wx.cell? ⟨w.heap.size, 4, none⟩ = some (.int .i64 f.rc) ∧ wx.cell? ⟨w.heap.size, 5, none⟩ = some (.int .i64 f.wc) ∧ wx.cell? ⟨w.heap.size, 6, none⟩ = some (.int .i64 f.mo) ∧ wx.cell? ⟨w.heap.size, 7, none⟩ = some (.slice so f.S.length sk) ∧ wx.cell? ⟨w.heap.size + 1, 0, none⟩ = some (.int .i64 a) ∧ wx.cell? ⟨w.heap.size + 1, 1, none⟩ = some (.int .i64 b) ∧ wx.cell? ⟨w.heap.size + 1, 2, none⟩ = some (.int .i64 c) ∧ wx.cell? ⟨w.heap.size + 1, 3, none⟩ = some (.int .i64 d) ∧ wx.cell? ⟨w.heap.size + 1, 4, none⟩ = some (.int .i64 i.rate) ∧ wx.cell? ⟨w.heap.size + 1, 5, none⟩ = some (.int .i64 i.ch) ∧ wx.cell? ⟨w.heap.size + 1, 6, none⟩ = some (.int .i64 i.wd) ∧ wx.cell? ⟨w.heap.size + 1, 7, none⟩ = some (.int .i64 e) ∧ wx.cell? ⟨w.heap.size + 1, 8, none⟩ = some (.string s) := by
 obtain ⟨z0, z1, z2, z3, z4, z5, z6, z7⟩ := fm_cells h.fb
 obtain ⟨y0, y1, y2, y3, y4, y5, y6, y7, y8⟩ := inf_cells h.ib
 exact ⟨z0, z1, z2, z3, z4, z5, z6, z7, y0, y1, y2, y3, y4, y5, y6, y7, y8⟩
theorem f_may (a b c d : Int) (i : Inf) (e : Int) (s : ByteArray) (bb : Bool) (hbb : bb = true ↔ mayF i) (w : World) : Calls Tryz.prog 121 #[infV a b c d i e s] w fun en w' => en = .returned (.bool bb) ∧ Below w.heap.size w w' := by
 by_cases g0 : i.ch < 1
 ·rw [bb_no hbb (fun h => by have := h.1; have := h.2.1; have := h.2.2; omega)]
  clear hbb
  have HA : Hid ((w.alloc (.cells (infC a b c d i e s) 38)).heap[w.heap.size]? = some (.cells (infC a b c d i e s) 38 (0, 0)) ∧ Below w.heap.size w (w.alloc (.cells (infC a b c d i e s) 38))) := ⟨heap_alloc_new _ _, (Below.refl _ _).alloc (Nat.le_refl _) _⟩
  go_enter Tryz.func121, Tryz.ntmps121
  go_upto_region 1 with fail
  generalize hwa : World.alloc _ _ = wa at *
  clear hwa
  obtain ⟨i0, i1, i2, i3, i4, i5, i6, i7, i8⟩ := inf_cells HA.out.1
  go_wp2_with fail
  go_ret
  exact ⟨rfl, HA.out.2⟩
 ·skip
  by_cases g1 : 8 < i.ch
  ·rw [bb_no hbb (fun h => by have := h.1; have := h.2.1; have := h.2.2; omega)]
   clear hbb
   have HA : Hid ((w.alloc (.cells (infC a b c d i e s) 38)).heap[w.heap.size]? = some (.cells (infC a b c d i e s) 38 (0, 0)) ∧ Below w.heap.size w (w.alloc (.cells (infC a b c d i e s) 38))) := ⟨heap_alloc_new _ _, (Below.refl _ _).alloc (Nat.le_refl _) _⟩
   go_enter Tryz.func121, Tryz.ntmps121
   go_upto_region 1 with fail
   generalize hwa : World.alloc _ _ = wa at *
   clear hwa
   obtain ⟨i0, i1, i2, i3, i4, i5, i6, i7, i8⟩ := inf_cells HA.out.1
   go_wp2_with fail
   go_ret
   exact ⟨rfl, HA.out.2⟩
  ·skip
   by_cases g2 : i.wd < 4
   ·rw [bb_no hbb (fun h => by have := h.1; have := h.2.1; have := h.2.2; omega)]
    clear hbb
    have HA : Hid ((w.alloc (.cells (infC a b c d i e s) 38)).heap[w.heap.size]? = some (.cells (infC a b c d i e s) 38 (0, 0)) ∧ Below w.heap.size w (w.alloc (.cells (infC a b c d i e s) 38))) := ⟨heap_alloc_new _ _, (Below.refl _ _).alloc (Nat.le_refl _) _⟩
    go_enter Tryz.func121, Tryz.ntmps121
    go_upto_region 1 with fail
    generalize hwa : World.alloc _ _ = wa at *
    clear hwa
    obtain ⟨i0, i1, i2, i3, i4, i5, i6, i7, i8⟩ := inf_cells HA.out.1
    go_wp2_with fail
    go_ret
    exact ⟨rfl, HA.out.2⟩
   ·skip
    by_cases g3 : 24 < i.wd
    ·rw [bb_no hbb (fun h => by have := h.1; have := h.2.1; have := h.2.2; omega)]
     clear hbb
     have HA : Hid ((w.alloc (.cells (infC a b c d i e s) 38)).heap[w.heap.size]? = some (.cells (infC a b c d i e s) 38 (0, 0)) ∧ Below w.heap.size w (w.alloc (.cells (infC a b c d i e s) 38))) := ⟨heap_alloc_new _ _, (Below.refl _ _).alloc (Nat.le_refl _) _⟩
     go_enter Tryz.func121, Tryz.ntmps121
     go_upto_region 1 with fail
     generalize hwa : World.alloc _ _ = wa at *
     clear hwa
     obtain ⟨i0, i1, i2, i3, i4, i5, i6, i7, i8⟩ := inf_cells HA.out.1
     go_wp2_with fail
     go_ret
     exact ⟨rfl, HA.out.2⟩
    ·skip
     by_cases g4 : i.rate < 1
     ·rw [bb_no hbb (fun h => by have := h.1; have := h.2.1; have := h.2.2; omega)]
      clear hbb
      have hb : decide (1 ≤ i.rate) = false := decide_eq_false (by omega)
      have HA : Hid ((w.alloc (.cells (infC a b c d i e s) 38)).heap[w.heap.size]? = some (.cells (infC a b c d i e s) 38 (0, 0)) ∧ Below w.heap.size w (w.alloc (.cells (infC a b c d i e s) 38))) := ⟨heap_alloc_new _ _, (Below.refl _ _).alloc (Nat.le_refl _) _⟩
      go_enter Tryz.func121, Tryz.ntmps121
      go_upto_region 1 with fail
      generalize hwa : World.alloc _ _ = wa at *
      clear hwa
      obtain ⟨i0, i1, i2, i3, i4, i5, i6, i7, i8⟩ := inf_cells HA.out.1
      go_wp2_with fail
      go_ret
      exact ⟨rfl, HA.out.2⟩
     ·skip
      rw [bb_yes hbb (⟨by omega, by omega, by omega⟩)]
      clear hbb
      have hb : decide (1 ≤ i.rate) = true := decide_eq_true (by omega)
      have HA : Hid ((w.alloc (.cells (infC a b c d i e s) 38)).heap[w.heap.size]? = some (.cells (infC a b c d i e s) 38 (0, 0)) ∧ Below w.heap.size w (w.alloc (.cells (infC a b c d i e s) 38))) := ⟨heap_alloc_new _ _, (Below.refl _ _).alloc (Nat.le_refl _) _⟩
      go_enter Tryz.func121, Tryz.ntmps121
      go_upto_region 1 with fail
      generalize hwa : World.alloc _ _ = wa at *
      clear hwa
      obtain ⟨i0, i1, i2, i3, i4, i5, i6, i7, i8⟩ := inf_cells HA.out.1
      go_wp2_with fail
      go_ret
      exact ⟨rfl, HA.out.2⟩
theorem f_mode (m ch : Int) (bb : Bool) (hbb : bb = true ↔ (m = 0 ∨ (ch = 2 ∧ 1 ≤ m ∧ m ≤ 3))) (w : World) : Calls Tryz.prog 122 #[.int .i64 m, .int .i64 ch] w fun en w' => en = .returned (.bool bb) ∧ w' = w := by
 by_cases g0 : m = 0
 ·rw [bb_yes hbb (.inl g0)]
  clear hbb
  have hk : (m == 0) = true := by rw [beq_iff_eq]; exact g0
  clear g0
  go_enter Tryz.func122, Tryz.ntmps122
  go_wp2_with fail
  go_ret
  exact ⟨rfl, rfl⟩
 ·have hk : (m == 0) = false := by rw [beq_eq_false_iff_ne]; exact g0
  by_cases g1 : ¬ ch = 2
  ·rw [bb_no hbb (by omega)]
   clear hbb
   have hc : (ch == 2) = false := by rw [beq_eq_false_iff_ne]; exact g1
   go_enter Tryz.func122, Tryz.ntmps122
   go_wp2_with fail
   go_ret
   exact ⟨rfl, rfl⟩
  ·skip
   by_cases g2 : m < 1
   ·rw [bb_no hbb (by omega)]
    clear hbb
    have hc : (ch == 2) = true := by rw [beq_iff_eq]; omega
    go_enter Tryz.func122, Tryz.ntmps122
    go_wp2_with fail
    go_ret
    exact ⟨rfl, rfl⟩
   ·skip
    by_cases g3 : 3 < m
    ·rw [bb_no hbb (by omega)]
     clear hbb
     have hc : (ch == 2) = true := by rw [beq_iff_eq]; omega
     have hb : decide (m ≤ 3) = false := decide_eq_false (by omega)
     go_enter Tryz.func122, Tryz.ntmps122
     go_wp2_with fail
     go_ret
     exact ⟨rfl, rfl⟩
    ·skip
     rw [bb_yes hbb (.inr (by omega))]
     clear hbb
     have hc : (ch == 2) = true := by rw [beq_iff_eq]; omega
     have hb : decide (m ≤ 3) = true := decide_eq_true (by omega)
     go_enter Tryz.func122, Tryz.ntmps122
     go_wp2_with fail
     go_ret
     exact ⟨rfl, rfl⟩
theorem f_maxN (v : Bool) (w : World) : Calls Tryz.prog 123 #[.bool v] w fun en w' => en = .returned (.int .i64 (if v then 68719476735 else 2147483647)) ∧ w' = w := by
 cases v
 ·show Calls _ _ _ _ fun en w' => en = .returned (.int .i64 2147483647) ∧ w' = w
  go_enter Tryz.func123, Tryz.ntmps123
  go_wp2_with fail
  go_ret
  exact ⟨rfl, rfl⟩
 ·show Calls _ _ _ _ fun en w' => en = .returned (.int .i64 68719476735) ∧ w' = w
  go_enter Tryz.func123, Tryz.ntmps123
  go_wp2_with fail
  go_ret
  exact ⟨rfl, rfl⟩
theorem f_fits (f : Fm) (so : Option Addr) (sk : Nat) (a b c d : Int) (i : Inf) (e : Int) (s : ByteArray) (bb : Bool) (hbb : bb = true ↔ mayF i ∧ (1 ≤ f.size ∧ f.size ≤ 4608) ∧ (0 ≤ f.num ∧ f.num ≤ (if f.v then 68719476735 else 2147483647)) ∧ (0 ≤ f.mo ∧ f.mo ≤ 3 ∧ (f.mo = 0 ∨ i.ch = 2))) (w : World) : Calls Tryz.prog 63 #[fmV f so sk, infV a b c d i e s] w fun en w' => en = .returned (.bool bb) ∧ Below w.heap.size w w' := by
 by_cases g0 : ¬ mayF i
 ·rw [bb_no hbb (fun h => g0 h.1)]
  clear hbb
  have K1 : Hid (∀ wx, Hid (FX w f so sk a b c d i e s wx) → Calls Tryz.prog 121 #[infV a b c d i e s] wx fun en w' => en = .returned (.bool false) ∧ Hid (FX w f so sk a b c d i e s w')) := fun wx hx => (f_may a b c d i e s false (ff_iff (g0)) wx).mono fun en w' hh => ⟨hh.1, hx.out.next hh.2⟩
  have HA : Hid (FX w f so sk a b c d i e s ((w.alloc (.cells (fmC f so sk) 41)).alloc (.cells (infC a b c d i e s) 38))) := FX.new w f so sk a b c d i e s
  go_enter Tryz.func63, Tryz.ntmps63
  go_upto_region 1 with fail
  generalize hwa : World.alloc _ _ = wa at *
  clear hwa
  obtain ⟨f0, f1, f2, f3, f4, f5, f6, f7, i0, i1, i2, i3, i4, i5, i6, i7, i8⟩ := HA.out.cells
  have HD : Hid (FX w f so sk a b c d i e s wa.drew) := HA.out.drew
  clear HA f0 f1 f2 f3 f4 f5 f6 f7 i0 i1 i2 i3 i4 i5 i6 i7 i8
  go_wp2_with fail
  refine wp_region_held_drew (S := fun wx => FX w f so sk a b c d i e s wx) (by kernel_rfl) (HD.out) (fun hS => ?_)
  refine wpAnyH_take (i := 0) (v := infV a b c d i e s) rfl (by kernel_rfl) (by kernel_rfl) (by kernel_rfl) (fun _ _ _ h => h) (Or.inl ⟨by rfl, fun w hSw => by obtain ⟨f0, f1, f2, f3, f4, f5, f6, f7, i0, i1, i2, i3, i4, i5, i6, i7, i8⟩ := hSw.cells; go_simp⟩) hS ?_
  simp only [Act.put, List.getElem_toArray, List.getElem_cons_succ, List.getElem_cons_zero, List.setIfInBounds_toArray, List.set_cons_zero, List.set_cons_succ]
  refine wpAnyH_ready (rs := [1]) (by kernel_rfl) (by simp) ?_
  refine AllReadyH.cons rfl (fun K hK => ?_) AllReadyH.nil
  go_simp
  refine (K1.out _ hS).mono ?_
  rintro en w4 ⟨rfl, h4⟩
  refine hK.out _ _ h4.out (fun hSw4 => ?_)
  clear hK K
  try simp only [Act.put, List.getElem_toArray, List.getElem_cons_succ, List.getElem_cons_zero, List.setIfInBounds_toArray, List.set_cons_zero, List.set_cons_succ]
  refine wpAnyH_take (i := 2) (v := .bool false) rfl (by kernel_rfl) (by kernel_rfl) (by kernel_rfl) (fun _ _ _ h => h) (Or.inl ⟨by rfl, fun w hSw => by go_simp⟩) hSw4 ?_
  simp only [Act.put, List.getElem_toArray, List.getElem_cons_succ, List.getElem_cons_zero, List.setIfInBounds_toArray, List.set_cons_zero, List.set_cons_succ]
  refine wpAnyH_take (i := 3) (v := undef) rfl (by kernel_rfl) (by kernel_rfl) (by kernel_rfl) (fun _ _ _ h => h) (Or.inr ⟨by rfl, rfl⟩) hSw4 ?_
  simp only [Act.put, List.getElem_toArray, List.getElem_cons_succ, List.getElem_cons_zero, List.setIfInBounds_toArray, List.set_cons_zero, List.set_cons_succ]
  refine wpAnyH_take (i := 4) (v := undef) rfl (by kernel_rfl) (by kernel_rfl) (by kernel_rfl) (fun _ _ _ h => h) (Or.inr ⟨by rfl, rfl⟩) hSw4 ?_
  simp only [Act.put, List.getElem_toArray, List.getElem_cons_succ, List.getElem_cons_zero, List.setIfInBounds_toArray, List.set_cons_zero, List.set_cons_succ]
  refine wpAnyH_take (i := 5) (v := undef) rfl (by kernel_rfl) (by kernel_rfl) (by kernel_rfl) (fun _ _ _ h => h) (Or.inr ⟨by rfl, rfl⟩) hSw4 ?_
  simp only [Act.put, List.getElem_toArray, List.getElem_cons_succ, List.getElem_cons_zero, List.setIfInBounds_toArray, List.set_cons_zero, List.set_cons_succ]
  refine wpAnyH_take (i := 6) (v := undef) rfl (by kernel_rfl) (by kernel_rfl) (by kernel_rfl) (fun _ _ _ h => h) (Or.inr ⟨by rfl, rfl⟩) hSw4 ?_
  simp only [Act.put, List.getElem_toArray, List.getElem_cons_succ, List.getElem_cons_zero, List.setIfInBounds_toArray, List.set_cons_zero, List.set_cons_succ]
  refine wpAnyH_take (i := 7) (v := undef) rfl (by kernel_rfl) (by kernel_rfl) (by kernel_rfl) (fun _ _ _ h => h) (Or.inr ⟨by rfl, rfl⟩) hSw4 ?_
  simp only [Act.put, List.getElem_toArray, List.getElem_cons_succ, List.getElem_cons_zero, List.setIfInBounds_toArray, List.set_cons_zero, List.set_cons_succ]
  refine wpAnyH_take (i := 8) (v := .bool false) rfl (by kernel_rfl) (by kernel_rfl) (by kernel_rfl) (fun _ _ _ h => h) (Or.inl ⟨by rfl, fun w hSw => by go_simp⟩) hSw4 ?_
  simp only [Act.put, List.getElem_toArray, List.getElem_cons_succ, List.getElem_cons_zero, List.setIfInBounds_toArray, List.set_cons_zero, List.set_cons_succ]
  refine wpAnyH_take (i := 9) (v := .bool false) rfl (by kernel_rfl) (by kernel_rfl) (by kernel_rfl) (fun _ _ _ h => h) (Or.inl ⟨by rfl, fun w hSw => by go_simp⟩) hSw4 ?_
  simp only [Act.put, List.getElem_toArray, List.getElem_cons_succ, List.getElem_cons_zero, List.setIfInBounds_toArray, List.set_cons_zero, List.set_cons_succ]
  refine wpAnyH_take (i := 10) (v := undef) rfl (by kernel_rfl) (by kernel_rfl) (by kernel_rfl) (fun _ _ _ h => h) (Or.inr ⟨by rfl, rfl⟩) hSw4 ?_
  simp only [Act.put, List.getElem_toArray, List.getElem_cons_succ, List.getElem_cons_zero, List.setIfInBounds_toArray, List.set_cons_zero, List.set_cons_succ]
  refine wpAnyH_take (i := 11) (v := undef) rfl (by kernel_rfl) (by kernel_rfl) (by kernel_rfl) (fun _ _ _ h => h) (Or.inr ⟨by rfl, rfl⟩) hSw4 ?_
  simp only [Act.put, List.getElem_toArray, List.getElem_cons_succ, List.getElem_cons_zero, List.setIfInBounds_toArray, List.set_cons_zero, List.set_cons_succ]
  refine wpAnyH_take (i := 12) (v := undef) rfl (by kernel_rfl) (by kernel_rfl) (by kernel_rfl) (fun _ _ _ h => h) (Or.inr ⟨by rfl, rfl⟩) hSw4 ?_
  simp only [Act.put, List.getElem_toArray, List.getElem_cons_succ, List.getElem_cons_zero, List.setIfInBounds_toArray, List.set_cons_zero, List.set_cons_succ]
  refine wpAnyH_take (i := 13) (v := .bool false) rfl (by kernel_rfl) (by kernel_rfl) (by kernel_rfl) (fun _ _ _ h => h) (Or.inl ⟨by rfl, fun w hSw => by go_simp⟩) hSw4 ?_
  simp only [Act.put, List.getElem_toArray, List.getElem_cons_succ, List.getElem_cons_zero, List.setIfInBounds_toArray, List.set_cons_zero, List.set_cons_succ]
  refine wpAnyH_take (i := 14) (v := .bool false) rfl (by kernel_rfl) (by kernel_rfl) (by kernel_rfl) (fun _ _ _ h => h) (Or.inl ⟨by rfl, fun w hSw => by go_simp⟩) hSw4 ?_
  simp only [Act.put, List.getElem_toArray, List.getElem_cons_succ, List.getElem_cons_zero, List.setIfInBounds_toArray, List.set_cons_zero, List.set_cons_succ]
  refine wpAnyH_take (i := 15) (v := undef) rfl (by kernel_rfl) (by kernel_rfl) (by kernel_rfl) (fun _ _ _ h => h) (Or.inr ⟨by rfl, rfl⟩) hSw4 ?_
  simp only [Act.put, List.getElem_toArray, List.getElem_cons_succ, List.getElem_cons_zero, List.setIfInBounds_toArray, List.set_cons_zero, List.set_cons_succ]
  refine wpAnyH_take (i := 16) (v := undef) rfl (by kernel_rfl) (by kernel_rfl) (by kernel_rfl) (fun _ _ _ h => h) (Or.inr ⟨by rfl, rfl⟩) hSw4 ?_
  simp only [Act.put, List.getElem_toArray, List.getElem_cons_succ, List.getElem_cons_zero, List.setIfInBounds_toArray, List.set_cons_zero, List.set_cons_succ]
  refine wpAnyH_take (i := 17) (v := undef) rfl (by kernel_rfl) (by kernel_rfl) (by kernel_rfl) (fun _ _ _ h => h) (Or.inr ⟨by rfl, rfl⟩) hSw4 ?_
  simp only [Act.put, List.getElem_toArray, List.getElem_cons_succ, List.getElem_cons_zero, List.setIfInBounds_toArray, List.set_cons_zero, List.set_cons_succ]
  refine wpAnyH_take (i := 18) (v := .bool false) rfl (by kernel_rfl) (by kernel_rfl) (by kernel_rfl) (fun _ _ _ h => h) (Or.inl ⟨by rfl, fun w hSw => by go_simp⟩) hSw4 ?_
  simp only [Act.put, List.getElem_toArray, List.getElem_cons_succ, List.getElem_cons_zero, List.setIfInBounds_toArray, List.set_cons_zero, List.set_cons_succ]
  refine wpAnyH_take (i := 19) (v := .bool false) rfl (by kernel_rfl) (by kernel_rfl) (by kernel_rfl) (fun _ _ _ h => h) (Or.inl ⟨by rfl, fun w hSw => by go_simp⟩) hSw4 ?_
  simp only [Act.put, List.getElem_toArray, List.getElem_cons_succ, List.getElem_cons_zero, List.setIfInBounds_toArray, List.set_cons_zero, List.set_cons_succ]
  refine wpAnyH_take (i := 20) (v := undef) rfl (by kernel_rfl) (by kernel_rfl) (by kernel_rfl) (fun _ _ _ h => h) (Or.inr ⟨by rfl, rfl⟩) hSw4 ?_
  simp only [Act.put, List.getElem_toArray, List.getElem_cons_succ, List.getElem_cons_zero, List.setIfInBounds_toArray, List.set_cons_zero, List.set_cons_succ]
  refine wpAnyH_take (i := 21) (v := undef) rfl (by kernel_rfl) (by kernel_rfl) (by kernel_rfl) (fun _ _ _ h => h) (Or.inr ⟨by rfl, rfl⟩) hSw4 ?_
  simp only [Act.put, List.getElem_toArray, List.getElem_cons_succ, List.getElem_cons_zero, List.setIfInBounds_toArray, List.set_cons_zero, List.set_cons_succ]
  refine wpAnyH_take (i := 22) (v := undef) rfl (by kernel_rfl) (by kernel_rfl) (by kernel_rfl) (fun _ _ _ h => h) (Or.inr ⟨by rfl, rfl⟩) hSw4 ?_
  simp only [Act.put, List.getElem_toArray, List.getElem_cons_succ, List.getElem_cons_zero, List.setIfInBounds_toArray, List.set_cons_zero, List.set_cons_succ]
  refine wpAnyH_take (i := 23) (v := .bool false) rfl (by kernel_rfl) (by kernel_rfl) (by kernel_rfl) (fun _ _ _ h => h) (Or.inl ⟨by rfl, fun w hSw => by go_simp⟩) hSw4 ?_
  simp only [Act.put, List.getElem_toArray, List.getElem_cons_succ, List.getElem_cons_zero, List.setIfInBounds_toArray, List.set_cons_zero, List.set_cons_succ]
  refine wpAnyH_take (i := 24) (v := .bool false) rfl (by kernel_rfl) (by kernel_rfl) (by kernel_rfl) (fun _ _ _ h => h) (Or.inl ⟨by rfl, fun w hSw => by go_simp⟩) hSw4 ?_
  simp only [Act.put, List.getElem_toArray, List.getElem_cons_succ, List.getElem_cons_zero, List.setIfInBounds_toArray, List.set_cons_zero, List.set_cons_succ]
  refine wpAnyH_take (i := 25) (v := undef) rfl (by kernel_rfl) (by kernel_rfl) (by kernel_rfl) (fun _ _ _ h => h) (Or.inr ⟨by rfl, rfl⟩) hSw4 ?_
  simp only [Act.put, List.getElem_toArray, List.getElem_cons_succ, List.getElem_cons_zero, List.setIfInBounds_toArray, List.set_cons_zero, List.set_cons_succ]
  refine wpAnyH_take (i := 26) (v := undef) rfl (by kernel_rfl) (by kernel_rfl) (by kernel_rfl) (fun _ _ _ h => h) (Or.inr ⟨by rfl, rfl⟩) hSw4 ?_
  simp only [Act.put, List.getElem_toArray, List.getElem_cons_succ, List.getElem_cons_zero, List.setIfInBounds_toArray, List.set_cons_zero, List.set_cons_succ]
  refine wpAnyH_take (i := 27) (v := undef) rfl (by kernel_rfl) (by kernel_rfl) (by kernel_rfl) (fun _ _ _ h => h) (Or.inr ⟨by rfl, rfl⟩) hSw4 ?_
  simp only [Act.put, List.getElem_toArray, List.getElem_cons_succ, List.getElem_cons_zero, List.setIfInBounds_toArray, List.set_cons_zero, List.set_cons_succ]
  refine wpAnyH_take (i := 28) (v := undef) rfl (by kernel_rfl) (by kernel_rfl) (by kernel_rfl) (fun _ _ _ h => h) (Or.inr ⟨by rfl, rfl⟩) hSw4 ?_
  simp only [Act.put, List.getElem_toArray, List.getElem_cons_succ, List.getElem_cons_zero, List.setIfInBounds_toArray, List.set_cons_zero, List.set_cons_succ]
  refine wpAnyH_take (i := 29) (v := undef) rfl (by kernel_rfl) (by kernel_rfl) (by kernel_rfl) (fun _ _ _ h => h) (Or.inr ⟨by rfl, rfl⟩) hSw4 ?_
  simp only [Act.put, List.getElem_toArray, List.getElem_cons_succ, List.getElem_cons_zero, List.setIfInBounds_toArray, List.set_cons_zero, List.set_cons_succ]
  refine wpAnyH_take (i := 30) (v := undef) rfl (by kernel_rfl) (by kernel_rfl) (by kernel_rfl) (fun _ _ _ h => h) (Or.inr ⟨by rfl, rfl⟩) hSw4 ?_
  simp only [Act.put, List.getElem_toArray, List.getElem_cons_succ, List.getElem_cons_zero, List.setIfInBounds_toArray, List.set_cons_zero, List.set_cons_succ]
  refine wpAnyH_take (i := 31) (v := .bool false) rfl (by kernel_rfl) (by kernel_rfl) (by kernel_rfl) (fun _ _ _ h => h) (Or.inl ⟨by rfl, fun w hSw => by go_simp⟩) hSw4 ?_
  simp only [Act.put, List.getElem_toArray, List.getElem_cons_succ, List.getElem_cons_zero, List.setIfInBounds_toArray, List.set_cons_zero, List.set_cons_succ]
  refine wpAnyH_take (i := 32) (v := .bool false) rfl (by kernel_rfl) (by kernel_rfl) (by kernel_rfl) (fun _ _ _ h => h) (Or.inl ⟨by rfl, fun w hSw => by go_simp⟩) hSw4 ?_
  simp only [Act.put, List.getElem_toArray, List.getElem_cons_succ, List.getElem_cons_zero, List.setIfInBounds_toArray, List.set_cons_zero, List.set_cons_succ]
  refine wpAnyH_done (by kernel_rfl) ?_ _
  go_wp2_with fail
  go_ret
  exact ⟨rfl, h4.out.below⟩
 ·skip
  by_cases g1 : ¬ (f.mo = 0 ∨ (i.ch = 2 ∧ 1 ≤ f.mo ∧ f.mo ≤ 3))
  ·rw [bb_no hbb (fun h => g1 (by have := h.2.2.2; omega))]
   clear hbb
   have K1 : Hid (∀ wx, Hid (FX w f so sk a b c d i e s wx) → Calls Tryz.prog 121 #[infV a b c d i e s] wx fun en w' => en = .returned (.bool true) ∧ Hid (FX w f so sk a b c d i e s w')) := fun wx hx => (f_may a b c d i e s true (tt_iff (Classical.not_not.1 g0)) wx).mono fun en w' hh => ⟨hh.1, hx.out.next hh.2⟩
   have K2 : Hid (∀ wx, Hid (FX w f so sk a b c d i e s wx) → Calls Tryz.prog 122 #[.int .i64 f.mo, .int .i64 i.ch] wx fun en w' => en = .returned (.bool false) ∧ Hid (FX w f so sk a b c d i e s w')) := fun wx hx => ((f_mode f.mo i.ch false (ff_iff (g1)) wx)).mono fun en w' hh => ⟨hh.1, by rw [hh.2]; exact hx⟩
   have HA : Hid (FX w f so sk a b c d i e s ((w.alloc (.cells (fmC f so sk) 41)).alloc (.cells (infC a b c d i e s) 38))) := FX.new w f so sk a b c d i e s
   go_enter Tryz.func63, Tryz.ntmps63
   go_upto_region 1 with fail
   generalize hwa : World.alloc _ _ = wa at *
   clear hwa
   obtain ⟨f0, f1, f2, f3, f4, f5, f6, f7, i0, i1, i2, i3, i4, i5, i6, i7, i8⟩ := HA.out.cells
   have HD : Hid (FX w f so sk a b c d i e s wa.drew) := HA.out.drew
   clear HA f0 f1 f2 f3 f4 f5 f6 f7 i0 i1 i2 i3 i4 i5 i6 i7 i8
   go_wp2_with fail
   refine wp_region_held_drew (S := fun wx => FX w f so sk a b c d i e s wx) (by kernel_rfl) (HD.out) (fun hS => ?_)
   refine wpAnyH_take (i := 0) (v := infV a b c d i e s) rfl (by kernel_rfl) (by kernel_rfl) (by kernel_rfl) (fun _ _ _ h => h) (Or.inl ⟨by rfl, fun w hSw => by obtain ⟨f0, f1, f2, f3, f4, f5, f6, f7, i0, i1, i2, i3, i4, i5, i6, i7, i8⟩ := hSw.cells; go_simp⟩) hS ?_
   simp only [Act.put, List.getElem_toArray, List.getElem_cons_succ, List.getElem_cons_zero, List.setIfInBounds_toArray, List.set_cons_zero, List.set_cons_succ]
   refine wpAnyH_ready (rs := [1]) (by kernel_rfl) (by simp) ?_
   refine AllReadyH.cons rfl (fun K hK => ?_) AllReadyH.nil
   go_simp
   refine (K1.out _ hS).mono ?_
   rintro en w4 ⟨rfl, h4⟩
   refine hK.out _ _ h4.out (fun hSw4 => ?_)
   clear hK K
   try simp only [Act.put, List.getElem_toArray, List.getElem_cons_succ, List.getElem_cons_zero, List.setIfInBounds_toArray, List.set_cons_zero, List.set_cons_succ]
   refine wpAnyH_take (i := 2) (v := .bool true) rfl (by kernel_rfl) (by kernel_rfl) (by kernel_rfl) (fun _ _ _ h => h) (Or.inl ⟨by rfl, fun w hSw => by go_simp⟩) hSw4 ?_
   simp only [Act.put, List.getElem_toArray, List.getElem_cons_succ, List.getElem_cons_zero, List.setIfInBounds_toArray, List.set_cons_zero, List.set_cons_succ]
   refine wpAnyH_take (i := 3) (v := .pointer (some ⟨w.heap.size, 6, none⟩)) rfl (by kernel_rfl) (by kernel_rfl) (by kernel_rfl) (fun _ _ _ h => h) (Or.inl ⟨by rfl, fun w hSw => by go_simp⟩) hSw4 ?_
   simp only [Act.put, List.getElem_toArray, List.getElem_cons_succ, List.getElem_cons_zero, List.setIfInBounds_toArray, List.set_cons_zero, List.set_cons_succ]
   refine wpAnyH_take (i := 4) (v := .int .i64 f.mo) rfl (by kernel_rfl) (by kernel_rfl) (by kernel_rfl) (fun _ _ _ h => h) (Or.inl ⟨by rfl, fun w hSw => by obtain ⟨f0, f1, f2, f3, f4, f5, f6, f7, i0, i1, i2, i3, i4, i5, i6, i7, i8⟩ := hSw.cells; go_simp⟩) hSw4 ?_
   simp only [Act.put, List.getElem_toArray, List.getElem_cons_succ, List.getElem_cons_zero, List.setIfInBounds_toArray, List.set_cons_zero, List.set_cons_succ]
   refine wpAnyH_take (i := 5) (v := .pointer (some ⟨w.heap.size + 1, 5, none⟩)) rfl (by kernel_rfl) (by kernel_rfl) (by kernel_rfl) (fun _ _ _ h => h) (Or.inl ⟨by rfl, fun w hSw => by go_simp⟩) hSw4 ?_
   simp only [Act.put, List.getElem_toArray, List.getElem_cons_succ, List.getElem_cons_zero, List.setIfInBounds_toArray, List.set_cons_zero, List.set_cons_succ]
   refine wpAnyH_take (i := 6) (v := .int .i64 i.ch) rfl (by kernel_rfl) (by kernel_rfl) (by kernel_rfl) (fun _ _ _ h => h) (Or.inl ⟨by rfl, fun w hSw => by obtain ⟨f0, f1, f2, f3, f4, f5, f6, f7, i0, i1, i2, i3, i4, i5, i6, i7, i8⟩ := hSw.cells; go_simp⟩) hSw4 ?_
   simp only [Act.put, List.getElem_toArray, List.getElem_cons_succ, List.getElem_cons_zero, List.setIfInBounds_toArray, List.set_cons_zero, List.set_cons_succ]
   refine wpAnyH_ready (rs := [7]) (by kernel_rfl) (by simp) ?_
   refine AllReadyH.cons rfl (fun K hK => ?_) AllReadyH.nil
   go_simp
   refine (K2.out _ hSw4).mono ?_
   rintro en w5 ⟨rfl, h5⟩
   refine hK.out _ _ h5.out (fun hSw5 => ?_)
   clear hK K
   try simp only [Act.put, List.getElem_toArray, List.getElem_cons_succ, List.getElem_cons_zero, List.setIfInBounds_toArray, List.set_cons_zero, List.set_cons_succ]
   refine wpAnyH_take (i := 8) (v := .bool false) rfl (by kernel_rfl) (by kernel_rfl) (by kernel_rfl) (fun _ _ _ h => h) (Or.inl ⟨by rfl, fun w hSw => by go_simp⟩) hSw5 ?_
   simp only [Act.put, List.getElem_toArray, List.getElem_cons_succ, List.getElem_cons_zero, List.setIfInBounds_toArray, List.set_cons_zero, List.set_cons_succ]
   refine wpAnyH_take (i := 9) (v := .bool false) rfl (by kernel_rfl) (by kernel_rfl) (by kernel_rfl) (fun _ _ _ h => h) (Or.inl ⟨by rfl, fun w hSw => by go_simp⟩) hSw5 ?_
   simp only [Act.put, List.getElem_toArray, List.getElem_cons_succ, List.getElem_cons_zero, List.setIfInBounds_toArray, List.set_cons_zero, List.set_cons_succ]
   refine wpAnyH_take (i := 10) (v := undef) rfl (by kernel_rfl) (by kernel_rfl) (by kernel_rfl) (fun _ _ _ h => h) (Or.inr ⟨by rfl, rfl⟩) hSw5 ?_
   simp only [Act.put, List.getElem_toArray, List.getElem_cons_succ, List.getElem_cons_zero, List.setIfInBounds_toArray, List.set_cons_zero, List.set_cons_succ]
   refine wpAnyH_take (i := 11) (v := undef) rfl (by kernel_rfl) (by kernel_rfl) (by kernel_rfl) (fun _ _ _ h => h) (Or.inr ⟨by rfl, rfl⟩) hSw5 ?_
   simp only [Act.put, List.getElem_toArray, List.getElem_cons_succ, List.getElem_cons_zero, List.setIfInBounds_toArray, List.set_cons_zero, List.set_cons_succ]
   refine wpAnyH_take (i := 12) (v := undef) rfl (by kernel_rfl) (by kernel_rfl) (by kernel_rfl) (fun _ _ _ h => h) (Or.inr ⟨by rfl, rfl⟩) hSw5 ?_
   simp only [Act.put, List.getElem_toArray, List.getElem_cons_succ, List.getElem_cons_zero, List.setIfInBounds_toArray, List.set_cons_zero, List.set_cons_succ]
   refine wpAnyH_take (i := 13) (v := .bool false) rfl (by kernel_rfl) (by kernel_rfl) (by kernel_rfl) (fun _ _ _ h => h) (Or.inl ⟨by rfl, fun w hSw => by go_simp⟩) hSw5 ?_
   simp only [Act.put, List.getElem_toArray, List.getElem_cons_succ, List.getElem_cons_zero, List.setIfInBounds_toArray, List.set_cons_zero, List.set_cons_succ]
   refine wpAnyH_take (i := 14) (v := .bool false) rfl (by kernel_rfl) (by kernel_rfl) (by kernel_rfl) (fun _ _ _ h => h) (Or.inl ⟨by rfl, fun w hSw => by go_simp⟩) hSw5 ?_
   simp only [Act.put, List.getElem_toArray, List.getElem_cons_succ, List.getElem_cons_zero, List.setIfInBounds_toArray, List.set_cons_zero, List.set_cons_succ]
   refine wpAnyH_take (i := 15) (v := undef) rfl (by kernel_rfl) (by kernel_rfl) (by kernel_rfl) (fun _ _ _ h => h) (Or.inr ⟨by rfl, rfl⟩) hSw5 ?_
   simp only [Act.put, List.getElem_toArray, List.getElem_cons_succ, List.getElem_cons_zero, List.setIfInBounds_toArray, List.set_cons_zero, List.set_cons_succ]
   refine wpAnyH_take (i := 16) (v := undef) rfl (by kernel_rfl) (by kernel_rfl) (by kernel_rfl) (fun _ _ _ h => h) (Or.inr ⟨by rfl, rfl⟩) hSw5 ?_
   simp only [Act.put, List.getElem_toArray, List.getElem_cons_succ, List.getElem_cons_zero, List.setIfInBounds_toArray, List.set_cons_zero, List.set_cons_succ]
   refine wpAnyH_take (i := 17) (v := undef) rfl (by kernel_rfl) (by kernel_rfl) (by kernel_rfl) (fun _ _ _ h => h) (Or.inr ⟨by rfl, rfl⟩) hSw5 ?_
   simp only [Act.put, List.getElem_toArray, List.getElem_cons_succ, List.getElem_cons_zero, List.setIfInBounds_toArray, List.set_cons_zero, List.set_cons_succ]
   refine wpAnyH_take (i := 18) (v := .bool false) rfl (by kernel_rfl) (by kernel_rfl) (by kernel_rfl) (fun _ _ _ h => h) (Or.inl ⟨by rfl, fun w hSw => by go_simp⟩) hSw5 ?_
   simp only [Act.put, List.getElem_toArray, List.getElem_cons_succ, List.getElem_cons_zero, List.setIfInBounds_toArray, List.set_cons_zero, List.set_cons_succ]
   refine wpAnyH_take (i := 19) (v := .bool false) rfl (by kernel_rfl) (by kernel_rfl) (by kernel_rfl) (fun _ _ _ h => h) (Or.inl ⟨by rfl, fun w hSw => by go_simp⟩) hSw5 ?_
   simp only [Act.put, List.getElem_toArray, List.getElem_cons_succ, List.getElem_cons_zero, List.setIfInBounds_toArray, List.set_cons_zero, List.set_cons_succ]
   refine wpAnyH_take (i := 20) (v := undef) rfl (by kernel_rfl) (by kernel_rfl) (by kernel_rfl) (fun _ _ _ h => h) (Or.inr ⟨by rfl, rfl⟩) hSw5 ?_
   simp only [Act.put, List.getElem_toArray, List.getElem_cons_succ, List.getElem_cons_zero, List.setIfInBounds_toArray, List.set_cons_zero, List.set_cons_succ]
   refine wpAnyH_take (i := 21) (v := undef) rfl (by kernel_rfl) (by kernel_rfl) (by kernel_rfl) (fun _ _ _ h => h) (Or.inr ⟨by rfl, rfl⟩) hSw5 ?_
   simp only [Act.put, List.getElem_toArray, List.getElem_cons_succ, List.getElem_cons_zero, List.setIfInBounds_toArray, List.set_cons_zero, List.set_cons_succ]
   refine wpAnyH_take (i := 22) (v := undef) rfl (by kernel_rfl) (by kernel_rfl) (by kernel_rfl) (fun _ _ _ h => h) (Or.inr ⟨by rfl, rfl⟩) hSw5 ?_
   simp only [Act.put, List.getElem_toArray, List.getElem_cons_succ, List.getElem_cons_zero, List.setIfInBounds_toArray, List.set_cons_zero, List.set_cons_succ]
   refine wpAnyH_take (i := 23) (v := .bool false) rfl (by kernel_rfl) (by kernel_rfl) (by kernel_rfl) (fun _ _ _ h => h) (Or.inl ⟨by rfl, fun w hSw => by go_simp⟩) hSw5 ?_
   simp only [Act.put, List.getElem_toArray, List.getElem_cons_succ, List.getElem_cons_zero, List.setIfInBounds_toArray, List.set_cons_zero, List.set_cons_succ]
   refine wpAnyH_take (i := 24) (v := .bool false) rfl (by kernel_rfl) (by kernel_rfl) (by kernel_rfl) (fun _ _ _ h => h) (Or.inl ⟨by rfl, fun w hSw => by go_simp⟩) hSw5 ?_
   simp only [Act.put, List.getElem_toArray, List.getElem_cons_succ, List.getElem_cons_zero, List.setIfInBounds_toArray, List.set_cons_zero, List.set_cons_succ]
   refine wpAnyH_take (i := 25) (v := undef) rfl (by kernel_rfl) (by kernel_rfl) (by kernel_rfl) (fun _ _ _ h => h) (Or.inr ⟨by rfl, rfl⟩) hSw5 ?_
   simp only [Act.put, List.getElem_toArray, List.getElem_cons_succ, List.getElem_cons_zero, List.setIfInBounds_toArray, List.set_cons_zero, List.set_cons_succ]
   refine wpAnyH_take (i := 26) (v := undef) rfl (by kernel_rfl) (by kernel_rfl) (by kernel_rfl) (fun _ _ _ h => h) (Or.inr ⟨by rfl, rfl⟩) hSw5 ?_
   simp only [Act.put, List.getElem_toArray, List.getElem_cons_succ, List.getElem_cons_zero, List.setIfInBounds_toArray, List.set_cons_zero, List.set_cons_succ]
   refine wpAnyH_take (i := 27) (v := undef) rfl (by kernel_rfl) (by kernel_rfl) (by kernel_rfl) (fun _ _ _ h => h) (Or.inr ⟨by rfl, rfl⟩) hSw5 ?_
   simp only [Act.put, List.getElem_toArray, List.getElem_cons_succ, List.getElem_cons_zero, List.setIfInBounds_toArray, List.set_cons_zero, List.set_cons_succ]
   refine wpAnyH_take (i := 28) (v := undef) rfl (by kernel_rfl) (by kernel_rfl) (by kernel_rfl) (fun _ _ _ h => h) (Or.inr ⟨by rfl, rfl⟩) hSw5 ?_
   simp only [Act.put, List.getElem_toArray, List.getElem_cons_succ, List.getElem_cons_zero, List.setIfInBounds_toArray, List.set_cons_zero, List.set_cons_succ]
   refine wpAnyH_take (i := 29) (v := undef) rfl (by kernel_rfl) (by kernel_rfl) (by kernel_rfl) (fun _ _ _ h => h) (Or.inr ⟨by rfl, rfl⟩) hSw5 ?_
   simp only [Act.put, List.getElem_toArray, List.getElem_cons_succ, List.getElem_cons_zero, List.setIfInBounds_toArray, List.set_cons_zero, List.set_cons_succ]
   refine wpAnyH_take (i := 30) (v := undef) rfl (by kernel_rfl) (by kernel_rfl) (by kernel_rfl) (fun _ _ _ h => h) (Or.inr ⟨by rfl, rfl⟩) hSw5 ?_
   simp only [Act.put, List.getElem_toArray, List.getElem_cons_succ, List.getElem_cons_zero, List.setIfInBounds_toArray, List.set_cons_zero, List.set_cons_succ]
   refine wpAnyH_take (i := 31) (v := .bool false) rfl (by kernel_rfl) (by kernel_rfl) (by kernel_rfl) (fun _ _ _ h => h) (Or.inl ⟨by rfl, fun w hSw => by go_simp⟩) hSw5 ?_
   simp only [Act.put, List.getElem_toArray, List.getElem_cons_succ, List.getElem_cons_zero, List.setIfInBounds_toArray, List.set_cons_zero, List.set_cons_succ]
   refine wpAnyH_take (i := 32) (v := .bool false) rfl (by kernel_rfl) (by kernel_rfl) (by kernel_rfl) (fun _ _ _ h => h) (Or.inl ⟨by rfl, fun w hSw => by go_simp⟩) hSw5 ?_
   simp only [Act.put, List.getElem_toArray, List.getElem_cons_succ, List.getElem_cons_zero, List.setIfInBounds_toArray, List.set_cons_zero, List.set_cons_succ]
   refine wpAnyH_done (by kernel_rfl) ?_ _
   go_wp2_with fail
   go_ret
   exact ⟨rfl, h5.out.below⟩
  ·skip
   by_cases g2 : f.size < 1
   ·rw [bb_no hbb (fun h => by have := h.2.1; omega)]
    clear hbb
    have K1 : Hid (∀ wx, Hid (FX w f so sk a b c d i e s wx) → Calls Tryz.prog 121 #[infV a b c d i e s] wx fun en w' => en = .returned (.bool true) ∧ Hid (FX w f so sk a b c d i e s w')) := fun wx hx => (f_may a b c d i e s true (tt_iff (Classical.not_not.1 g0)) wx).mono fun en w' hh => ⟨hh.1, hx.out.next hh.2⟩
    have K2 : Hid (∀ wx, Hid (FX w f so sk a b c d i e s wx) → Calls Tryz.prog 122 #[.int .i64 f.mo, .int .i64 i.ch] wx fun en w' => en = .returned (.bool true) ∧ Hid (FX w f so sk a b c d i e s w')) := fun wx hx => ((f_mode f.mo i.ch true (tt_iff (Classical.not_not.1 g1)) wx)).mono fun en w' hh => ⟨hh.1, by rw [hh.2]; exact hx⟩
    have HA : Hid (FX w f so sk a b c d i e s ((w.alloc (.cells (fmC f so sk) 41)).alloc (.cells (infC a b c d i e s) 38))) := FX.new w f so sk a b c d i e s
    go_enter Tryz.func63, Tryz.ntmps63
    go_upto_region 1 with fail
    generalize hwa : World.alloc _ _ = wa at *
    clear hwa
    obtain ⟨f0, f1, f2, f3, f4, f5, f6, f7, i0, i1, i2, i3, i4, i5, i6, i7, i8⟩ := HA.out.cells
    have hd1 : decide (1 ≤ f.size) = false := decide_eq_false (by omega)
    have HD : Hid (FX w f so sk a b c d i e s wa.drew) := HA.out.drew
    clear HA f0 f1 f2 f3 f4 f5 f6 f7 i0 i1 i2 i3 i4 i5 i6 i7 i8
    go_wp2_with fail
    refine wp_region_held_drew (S := fun wx => FX w f so sk a b c d i e s wx) (by kernel_rfl) (HD.out) (fun hS => ?_)
    refine wpAnyH_take (i := 0) (v := infV a b c d i e s) rfl (by kernel_rfl) (by kernel_rfl) (by kernel_rfl) (fun _ _ _ h => h) (Or.inl ⟨by rfl, fun w hSw => by obtain ⟨f0, f1, f2, f3, f4, f5, f6, f7, i0, i1, i2, i3, i4, i5, i6, i7, i8⟩ := hSw.cells; go_simp⟩) hS ?_
    simp only [Act.put, List.getElem_toArray, List.getElem_cons_succ, List.getElem_cons_zero, List.setIfInBounds_toArray, List.set_cons_zero, List.set_cons_succ]
    refine wpAnyH_ready (rs := [1]) (by kernel_rfl) (by simp) ?_
    refine AllReadyH.cons rfl (fun K hK => ?_) AllReadyH.nil
    go_simp
    refine (K1.out _ hS).mono ?_
    rintro en w4 ⟨rfl, h4⟩
    refine hK.out _ _ h4.out (fun hSw4 => ?_)
    clear hK K
    try simp only [Act.put, List.getElem_toArray, List.getElem_cons_succ, List.getElem_cons_zero, List.setIfInBounds_toArray, List.set_cons_zero, List.set_cons_succ]
    refine wpAnyH_take (i := 2) (v := .bool true) rfl (by kernel_rfl) (by kernel_rfl) (by kernel_rfl) (fun _ _ _ h => h) (Or.inl ⟨by rfl, fun w hSw => by go_simp⟩) hSw4 ?_
    simp only [Act.put, List.getElem_toArray, List.getElem_cons_succ, List.getElem_cons_zero, List.setIfInBounds_toArray, List.set_cons_zero, List.set_cons_succ]
    refine wpAnyH_take (i := 3) (v := .pointer (some ⟨w.heap.size, 6, none⟩)) rfl (by kernel_rfl) (by kernel_rfl) (by kernel_rfl) (fun _ _ _ h => h) (Or.inl ⟨by rfl, fun w hSw => by go_simp⟩) hSw4 ?_
    simp only [Act.put, List.getElem_toArray, List.getElem_cons_succ, List.getElem_cons_zero, List.setIfInBounds_toArray, List.set_cons_zero, List.set_cons_succ]
    refine wpAnyH_take (i := 4) (v := .int .i64 f.mo) rfl (by kernel_rfl) (by kernel_rfl) (by kernel_rfl) (fun _ _ _ h => h) (Or.inl ⟨by rfl, fun w hSw => by obtain ⟨f0, f1, f2, f3, f4, f5, f6, f7, i0, i1, i2, i3, i4, i5, i6, i7, i8⟩ := hSw.cells; go_simp⟩) hSw4 ?_
    simp only [Act.put, List.getElem_toArray, List.getElem_cons_succ, List.getElem_cons_zero, List.setIfInBounds_toArray, List.set_cons_zero, List.set_cons_succ]
    refine wpAnyH_take (i := 5) (v := .pointer (some ⟨w.heap.size + 1, 5, none⟩)) rfl (by kernel_rfl) (by kernel_rfl) (by kernel_rfl) (fun _ _ _ h => h) (Or.inl ⟨by rfl, fun w hSw => by go_simp⟩) hSw4 ?_
    simp only [Act.put, List.getElem_toArray, List.getElem_cons_succ, List.getElem_cons_zero, List.setIfInBounds_toArray, List.set_cons_zero, List.set_cons_succ]
    refine wpAnyH_take (i := 6) (v := .int .i64 i.ch) rfl (by kernel_rfl) (by kernel_rfl) (by kernel_rfl) (fun _ _ _ h => h) (Or.inl ⟨by rfl, fun w hSw => by obtain ⟨f0, f1, f2, f3, f4, f5, f6, f7, i0, i1, i2, i3, i4, i5, i6, i7, i8⟩ := hSw.cells; go_simp⟩) hSw4 ?_
    simp only [Act.put, List.getElem_toArray, List.getElem_cons_succ, List.getElem_cons_zero, List.setIfInBounds_toArray, List.set_cons_zero, List.set_cons_succ]
    refine wpAnyH_ready (rs := [7]) (by kernel_rfl) (by simp) ?_
    refine AllReadyH.cons rfl (fun K hK => ?_) AllReadyH.nil
    go_simp
    refine (K2.out _ hSw4).mono ?_
    rintro en w5 ⟨rfl, h5⟩
    refine hK.out _ _ h5.out (fun hSw5 => ?_)
    clear hK K
    try simp only [Act.put, List.getElem_toArray, List.getElem_cons_succ, List.getElem_cons_zero, List.setIfInBounds_toArray, List.set_cons_zero, List.set_cons_succ]
    refine wpAnyH_take (i := 8) (v := .bool true) rfl (by kernel_rfl) (by kernel_rfl) (by kernel_rfl) (fun _ _ _ h => h) (Or.inl ⟨by rfl, fun w hSw => by go_simp⟩) hSw5 ?_
    simp only [Act.put, List.getElem_toArray, List.getElem_cons_succ, List.getElem_cons_zero, List.setIfInBounds_toArray, List.set_cons_zero, List.set_cons_succ]
    refine wpAnyH_take (i := 9) (v := .bool true) rfl (by kernel_rfl) (by kernel_rfl) (by kernel_rfl) (fun _ _ _ h => h) (Or.inl ⟨by rfl, fun w hSw => by go_simp⟩) hSw5 ?_
    simp only [Act.put, List.getElem_toArray, List.getElem_cons_succ, List.getElem_cons_zero, List.setIfInBounds_toArray, List.set_cons_zero, List.set_cons_succ]
    refine wpAnyH_take (i := 10) (v := .pointer (some ⟨w.heap.size, 2, none⟩)) rfl (by kernel_rfl) (by kernel_rfl) (by kernel_rfl) (fun _ _ _ h => h) (Or.inl ⟨by rfl, fun w hSw => by go_simp⟩) hSw5 ?_
    simp only [Act.put, List.getElem_toArray, List.getElem_cons_succ, List.getElem_cons_zero, List.setIfInBounds_toArray, List.set_cons_zero, List.set_cons_succ]
    refine wpAnyH_take (i := 11) (v := .int .i64 f.size) rfl (by kernel_rfl) (by kernel_rfl) (by kernel_rfl) (fun _ _ _ h => h) (Or.inl ⟨by rfl, fun w hSw => by obtain ⟨f0, f1, f2, f3, f4, f5, f6, f7, i0, i1, i2, i3, i4, i5, i6, i7, i8⟩ := hSw.cells; go_simp⟩) hSw5 ?_
    simp only [Act.put, List.getElem_toArray, List.getElem_cons_succ, List.getElem_cons_zero, List.setIfInBounds_toArray, List.set_cons_zero, List.set_cons_succ]
    refine wpAnyH_take (i := 12) (v := .bool false) rfl (by kernel_rfl) (by kernel_rfl) (by kernel_rfl) (fun _ _ _ h => h) (Or.inl ⟨by rfl, fun w hSw => by go_simp⟩) hSw5 ?_
    simp only [Act.put, List.getElem_toArray, List.getElem_cons_succ, List.getElem_cons_zero, List.setIfInBounds_toArray, List.set_cons_zero, List.set_cons_succ]
    refine wpAnyH_take (i := 13) (v := .bool false) rfl (by kernel_rfl) (by kernel_rfl) (by kernel_rfl) (fun _ _ _ h => h) (Or.inl ⟨by rfl, fun w hSw => by go_simp⟩) hSw5 ?_
    simp only [Act.put, List.getElem_toArray, List.getElem_cons_succ, List.getElem_cons_zero, List.setIfInBounds_toArray, List.set_cons_zero, List.set_cons_succ]
    refine wpAnyH_take (i := 14) (v := .bool false) rfl (by kernel_rfl) (by kernel_rfl) (by kernel_rfl) (fun _ _ _ h => h) (Or.inl ⟨by rfl, fun w hSw => by go_simp⟩) hSw5 ?_
    simp only [Act.put, List.getElem_toArray, List.getElem_cons_succ, List.getElem_cons_zero, List.setIfInBounds_toArray, List.set_cons_zero, List.set_cons_succ]
    refine wpAnyH_take (i := 15) (v := undef) rfl (by kernel_rfl) (by kernel_rfl) (by kernel_rfl) (fun _ _ _ h => h) (Or.inr ⟨by rfl, rfl⟩) hSw5 ?_
    simp only [Act.put, List.getElem_toArray, List.getElem_cons_succ, List.getElem_cons_zero, List.setIfInBounds_toArray, List.set_cons_zero, List.set_cons_succ]
    refine wpAnyH_take (i := 16) (v := undef) rfl (by kernel_rfl) (by kernel_rfl) (by kernel_rfl) (fun _ _ _ h => h) (Or.inr ⟨by rfl, rfl⟩) hSw5 ?_
    simp only [Act.put, List.getElem_toArray, List.getElem_cons_succ, List.getElem_cons_zero, List.setIfInBounds_toArray, List.set_cons_zero, List.set_cons_succ]
    refine wpAnyH_take (i := 17) (v := undef) rfl (by kernel_rfl) (by kernel_rfl) (by kernel_rfl) (fun _ _ _ h => h) (Or.inr ⟨by rfl, rfl⟩) hSw5 ?_
    simp only [Act.put, List.getElem_toArray, List.getElem_cons_succ, List.getElem_cons_zero, List.setIfInBounds_toArray, List.set_cons_zero, List.set_cons_succ]
    refine wpAnyH_take (i := 18) (v := .bool false) rfl (by kernel_rfl) (by kernel_rfl) (by kernel_rfl) (fun _ _ _ h => h) (Or.inl ⟨by rfl, fun w hSw => by go_simp⟩) hSw5 ?_
    simp only [Act.put, List.getElem_toArray, List.getElem_cons_succ, List.getElem_cons_zero, List.setIfInBounds_toArray, List.set_cons_zero, List.set_cons_succ]
    refine wpAnyH_take (i := 19) (v := .bool false) rfl (by kernel_rfl) (by kernel_rfl) (by kernel_rfl) (fun _ _ _ h => h) (Or.inl ⟨by rfl, fun w hSw => by go_simp⟩) hSw5 ?_
    simp only [Act.put, List.getElem_toArray, List.getElem_cons_succ, List.getElem_cons_zero, List.setIfInBounds_toArray, List.set_cons_zero, List.set_cons_succ]
    refine wpAnyH_take (i := 20) (v := undef) rfl (by kernel_rfl) (by kernel_rfl) (by kernel_rfl) (fun _ _ _ h => h) (Or.inr ⟨by rfl, rfl⟩) hSw5 ?_
    simp only [Act.put, List.getElem_toArray, List.getElem_cons_succ, List.getElem_cons_zero, List.setIfInBounds_toArray, List.set_cons_zero, List.set_cons_succ]
    refine wpAnyH_take (i := 21) (v := undef) rfl (by kernel_rfl) (by kernel_rfl) (by kernel_rfl) (fun _ _ _ h => h) (Or.inr ⟨by rfl, rfl⟩) hSw5 ?_
    simp only [Act.put, List.getElem_toArray, List.getElem_cons_succ, List.getElem_cons_zero, List.setIfInBounds_toArray, List.set_cons_zero, List.set_cons_succ]
    refine wpAnyH_take (i := 22) (v := undef) rfl (by kernel_rfl) (by kernel_rfl) (by kernel_rfl) (fun _ _ _ h => h) (Or.inr ⟨by rfl, rfl⟩) hSw5 ?_
    simp only [Act.put, List.getElem_toArray, List.getElem_cons_succ, List.getElem_cons_zero, List.setIfInBounds_toArray, List.set_cons_zero, List.set_cons_succ]
    refine wpAnyH_take (i := 23) (v := .bool false) rfl (by kernel_rfl) (by kernel_rfl) (by kernel_rfl) (fun _ _ _ h => h) (Or.inl ⟨by rfl, fun w hSw => by go_simp⟩) hSw5 ?_
    simp only [Act.put, List.getElem_toArray, List.getElem_cons_succ, List.getElem_cons_zero, List.setIfInBounds_toArray, List.set_cons_zero, List.set_cons_succ]
    refine wpAnyH_take (i := 24) (v := .bool false) rfl (by kernel_rfl) (by kernel_rfl) (by kernel_rfl) (fun _ _ _ h => h) (Or.inl ⟨by rfl, fun w hSw => by go_simp⟩) hSw5 ?_
    simp only [Act.put, List.getElem_toArray, List.getElem_cons_succ, List.getElem_cons_zero, List.setIfInBounds_toArray, List.set_cons_zero, List.set_cons_succ]
    refine wpAnyH_take (i := 25) (v := undef) rfl (by kernel_rfl) (by kernel_rfl) (by kernel_rfl) (fun _ _ _ h => h) (Or.inr ⟨by rfl, rfl⟩) hSw5 ?_
    simp only [Act.put, List.getElem_toArray, List.getElem_cons_succ, List.getElem_cons_zero, List.setIfInBounds_toArray, List.set_cons_zero, List.set_cons_succ]
    refine wpAnyH_take (i := 26) (v := undef) rfl (by kernel_rfl) (by kernel_rfl) (by kernel_rfl) (fun _ _ _ h => h) (Or.inr ⟨by rfl, rfl⟩) hSw5 ?_
    simp only [Act.put, List.getElem_toArray, List.getElem_cons_succ, List.getElem_cons_zero, List.setIfInBounds_toArray, List.set_cons_zero, List.set_cons_succ]
    refine wpAnyH_take (i := 27) (v := undef) rfl (by kernel_rfl) (by kernel_rfl) (by kernel_rfl) (fun _ _ _ h => h) (Or.inr ⟨by rfl, rfl⟩) hSw5 ?_
    simp only [Act.put, List.getElem_toArray, List.getElem_cons_succ, List.getElem_cons_zero, List.setIfInBounds_toArray, List.set_cons_zero, List.set_cons_succ]
    refine wpAnyH_take (i := 28) (v := undef) rfl (by kernel_rfl) (by kernel_rfl) (by kernel_rfl) (fun _ _ _ h => h) (Or.inr ⟨by rfl, rfl⟩) hSw5 ?_
    simp only [Act.put, List.getElem_toArray, List.getElem_cons_succ, List.getElem_cons_zero, List.setIfInBounds_toArray, List.set_cons_zero, List.set_cons_succ]
    refine wpAnyH_take (i := 29) (v := undef) rfl (by kernel_rfl) (by kernel_rfl) (by kernel_rfl) (fun _ _ _ h => h) (Or.inr ⟨by rfl, rfl⟩) hSw5 ?_
    simp only [Act.put, List.getElem_toArray, List.getElem_cons_succ, List.getElem_cons_zero, List.setIfInBounds_toArray, List.set_cons_zero, List.set_cons_succ]
    refine wpAnyH_take (i := 30) (v := undef) rfl (by kernel_rfl) (by kernel_rfl) (by kernel_rfl) (fun _ _ _ h => h) (Or.inr ⟨by rfl, rfl⟩) hSw5 ?_
    simp only [Act.put, List.getElem_toArray, List.getElem_cons_succ, List.getElem_cons_zero, List.setIfInBounds_toArray, List.set_cons_zero, List.set_cons_succ]
    refine wpAnyH_take (i := 31) (v := .bool false) rfl (by kernel_rfl) (by kernel_rfl) (by kernel_rfl) (fun _ _ _ h => h) (Or.inl ⟨by rfl, fun w hSw => by go_simp⟩) hSw5 ?_
    simp only [Act.put, List.getElem_toArray, List.getElem_cons_succ, List.getElem_cons_zero, List.setIfInBounds_toArray, List.set_cons_zero, List.set_cons_succ]
    refine wpAnyH_take (i := 32) (v := .bool false) rfl (by kernel_rfl) (by kernel_rfl) (by kernel_rfl) (fun _ _ _ h => h) (Or.inl ⟨by rfl, fun w hSw => by go_simp⟩) hSw5 ?_
    simp only [Act.put, List.getElem_toArray, List.getElem_cons_succ, List.getElem_cons_zero, List.setIfInBounds_toArray, List.set_cons_zero, List.set_cons_succ]
    refine wpAnyH_done (by kernel_rfl) ?_ _
    go_wp2_with fail
    go_ret
    exact ⟨rfl, h5.out.below⟩
   ·skip
    by_cases g3 : 4608 < f.size
    ·rw [bb_no hbb (fun h => by have := h.2.1; omega)]
     clear hbb
     have K1 : Hid (∀ wx, Hid (FX w f so sk a b c d i e s wx) → Calls Tryz.prog 121 #[infV a b c d i e s] wx fun en w' => en = .returned (.bool true) ∧ Hid (FX w f so sk a b c d i e s w')) := fun wx hx => (f_may a b c d i e s true (tt_iff (Classical.not_not.1 g0)) wx).mono fun en w' hh => ⟨hh.1, hx.out.next hh.2⟩
     have K2 : Hid (∀ wx, Hid (FX w f so sk a b c d i e s wx) → Calls Tryz.prog 122 #[.int .i64 f.mo, .int .i64 i.ch] wx fun en w' => en = .returned (.bool true) ∧ Hid (FX w f so sk a b c d i e s w')) := fun wx hx => ((f_mode f.mo i.ch true (tt_iff (Classical.not_not.1 g1)) wx)).mono fun en w' hh => ⟨hh.1, by rw [hh.2]; exact hx⟩
     have HA : Hid (FX w f so sk a b c d i e s ((w.alloc (.cells (fmC f so sk) 41)).alloc (.cells (infC a b c d i e s) 38))) := FX.new w f so sk a b c d i e s
     go_enter Tryz.func63, Tryz.ntmps63
     go_upto_region 1 with fail
     generalize hwa : World.alloc _ _ = wa at *
     clear hwa
     obtain ⟨f0, f1, f2, f3, f4, f5, f6, f7, i0, i1, i2, i3, i4, i5, i6, i7, i8⟩ := HA.out.cells
     have hd1 : decide (1 ≤ f.size) = true := decide_eq_true (by omega)
     have hd2 : decide (f.size ≤ 4608) = false := decide_eq_false (by omega)
     have HD : Hid (FX w f so sk a b c d i e s wa.drew) := HA.out.drew
     clear HA f0 f1 f2 f3 f4 f5 f6 f7 i0 i1 i2 i3 i4 i5 i6 i7 i8
     go_wp2_with fail
     refine wp_region_held_drew (S := fun wx => FX w f so sk a b c d i e s wx) (by kernel_rfl) (HD.out) (fun hS => ?_)
     refine wpAnyH_take (i := 0) (v := infV a b c d i e s) rfl (by kernel_rfl) (by kernel_rfl) (by kernel_rfl) (fun _ _ _ h => h) (Or.inl ⟨by rfl, fun w hSw => by obtain ⟨f0, f1, f2, f3, f4, f5, f6, f7, i0, i1, i2, i3, i4, i5, i6, i7, i8⟩ := hSw.cells; go_simp⟩) hS ?_
     simp only [Act.put, List.getElem_toArray, List.getElem_cons_succ, List.getElem_cons_zero, List.setIfInBounds_toArray, List.set_cons_zero, List.set_cons_succ]
     refine wpAnyH_ready (rs := [1]) (by kernel_rfl) (by simp) ?_
     refine AllReadyH.cons rfl (fun K hK => ?_) AllReadyH.nil
     go_simp
     refine (K1.out _ hS).mono ?_
     rintro en w4 ⟨rfl, h4⟩
     refine hK.out _ _ h4.out (fun hSw4 => ?_)
     clear hK K
     try simp only [Act.put, List.getElem_toArray, List.getElem_cons_succ, List.getElem_cons_zero, List.setIfInBounds_toArray, List.set_cons_zero, List.set_cons_succ]
     refine wpAnyH_take (i := 2) (v := .bool true) rfl (by kernel_rfl) (by kernel_rfl) (by kernel_rfl) (fun _ _ _ h => h) (Or.inl ⟨by rfl, fun w hSw => by go_simp⟩) hSw4 ?_
     simp only [Act.put, List.getElem_toArray, List.getElem_cons_succ, List.getElem_cons_zero, List.setIfInBounds_toArray, List.set_cons_zero, List.set_cons_succ]
     refine wpAnyH_take (i := 3) (v := .pointer (some ⟨w.heap.size, 6, none⟩)) rfl (by kernel_rfl) (by kernel_rfl) (by kernel_rfl) (fun _ _ _ h => h) (Or.inl ⟨by rfl, fun w hSw => by go_simp⟩) hSw4 ?_
     simp only [Act.put, List.getElem_toArray, List.getElem_cons_succ, List.getElem_cons_zero, List.setIfInBounds_toArray, List.set_cons_zero, List.set_cons_succ]
     refine wpAnyH_take (i := 4) (v := .int .i64 f.mo) rfl (by kernel_rfl) (by kernel_rfl) (by kernel_rfl) (fun _ _ _ h => h) (Or.inl ⟨by rfl, fun w hSw => by obtain ⟨f0, f1, f2, f3, f4, f5, f6, f7, i0, i1, i2, i3, i4, i5, i6, i7, i8⟩ := hSw.cells; go_simp⟩) hSw4 ?_
     simp only [Act.put, List.getElem_toArray, List.getElem_cons_succ, List.getElem_cons_zero, List.setIfInBounds_toArray, List.set_cons_zero, List.set_cons_succ]
     refine wpAnyH_take (i := 5) (v := .pointer (some ⟨w.heap.size + 1, 5, none⟩)) rfl (by kernel_rfl) (by kernel_rfl) (by kernel_rfl) (fun _ _ _ h => h) (Or.inl ⟨by rfl, fun w hSw => by go_simp⟩) hSw4 ?_
     simp only [Act.put, List.getElem_toArray, List.getElem_cons_succ, List.getElem_cons_zero, List.setIfInBounds_toArray, List.set_cons_zero, List.set_cons_succ]
     refine wpAnyH_take (i := 6) (v := .int .i64 i.ch) rfl (by kernel_rfl) (by kernel_rfl) (by kernel_rfl) (fun _ _ _ h => h) (Or.inl ⟨by rfl, fun w hSw => by obtain ⟨f0, f1, f2, f3, f4, f5, f6, f7, i0, i1, i2, i3, i4, i5, i6, i7, i8⟩ := hSw.cells; go_simp⟩) hSw4 ?_
     simp only [Act.put, List.getElem_toArray, List.getElem_cons_succ, List.getElem_cons_zero, List.setIfInBounds_toArray, List.set_cons_zero, List.set_cons_succ]
     refine wpAnyH_ready (rs := [7]) (by kernel_rfl) (by simp) ?_
     refine AllReadyH.cons rfl (fun K hK => ?_) AllReadyH.nil
     go_simp
     refine (K2.out _ hSw4).mono ?_
     rintro en w5 ⟨rfl, h5⟩
     refine hK.out _ _ h5.out (fun hSw5 => ?_)
     clear hK K
     try simp only [Act.put, List.getElem_toArray, List.getElem_cons_succ, List.getElem_cons_zero, List.setIfInBounds_toArray, List.set_cons_zero, List.set_cons_succ]
     refine wpAnyH_take (i := 8) (v := .bool true) rfl (by kernel_rfl) (by kernel_rfl) (by kernel_rfl) (fun _ _ _ h => h) (Or.inl ⟨by rfl, fun w hSw => by go_simp⟩) hSw5 ?_
     simp only [Act.put, List.getElem_toArray, List.getElem_cons_succ, List.getElem_cons_zero, List.setIfInBounds_toArray, List.set_cons_zero, List.set_cons_succ]
     refine wpAnyH_take (i := 9) (v := .bool true) rfl (by kernel_rfl) (by kernel_rfl) (by kernel_rfl) (fun _ _ _ h => h) (Or.inl ⟨by rfl, fun w hSw => by go_simp⟩) hSw5 ?_
     simp only [Act.put, List.getElem_toArray, List.getElem_cons_succ, List.getElem_cons_zero, List.setIfInBounds_toArray, List.set_cons_zero, List.set_cons_succ]
     refine wpAnyH_take (i := 10) (v := .pointer (some ⟨w.heap.size, 2, none⟩)) rfl (by kernel_rfl) (by kernel_rfl) (by kernel_rfl) (fun _ _ _ h => h) (Or.inl ⟨by rfl, fun w hSw => by go_simp⟩) hSw5 ?_
     simp only [Act.put, List.getElem_toArray, List.getElem_cons_succ, List.getElem_cons_zero, List.setIfInBounds_toArray, List.set_cons_zero, List.set_cons_succ]
     refine wpAnyH_take (i := 11) (v := .int .i64 f.size) rfl (by kernel_rfl) (by kernel_rfl) (by kernel_rfl) (fun _ _ _ h => h) (Or.inl ⟨by rfl, fun w hSw => by obtain ⟨f0, f1, f2, f3, f4, f5, f6, f7, i0, i1, i2, i3, i4, i5, i6, i7, i8⟩ := hSw.cells; go_simp⟩) hSw5 ?_
     simp only [Act.put, List.getElem_toArray, List.getElem_cons_succ, List.getElem_cons_zero, List.setIfInBounds_toArray, List.set_cons_zero, List.set_cons_succ]
     refine wpAnyH_take (i := 12) (v := .bool true) rfl (by kernel_rfl) (by kernel_rfl) (by kernel_rfl) (fun _ _ _ h => h) (Or.inl ⟨by rfl, fun w hSw => by go_simp⟩) hSw5 ?_
     simp only [Act.put, List.getElem_toArray, List.getElem_cons_succ, List.getElem_cons_zero, List.setIfInBounds_toArray, List.set_cons_zero, List.set_cons_succ]
     refine wpAnyH_take (i := 13) (v := .bool true) rfl (by kernel_rfl) (by kernel_rfl) (by kernel_rfl) (fun _ _ _ h => h) (Or.inl ⟨by rfl, fun w hSw => by go_simp⟩) hSw5 ?_
     simp only [Act.put, List.getElem_toArray, List.getElem_cons_succ, List.getElem_cons_zero, List.setIfInBounds_toArray, List.set_cons_zero, List.set_cons_succ]
     refine wpAnyH_take (i := 14) (v := .bool true) rfl (by kernel_rfl) (by kernel_rfl) (by kernel_rfl) (fun _ _ _ h => h) (Or.inl ⟨by rfl, fun w hSw => by go_simp⟩) hSw5 ?_
     simp only [Act.put, List.getElem_toArray, List.getElem_cons_succ, List.getElem_cons_zero, List.setIfInBounds_toArray, List.set_cons_zero, List.set_cons_succ]
     refine wpAnyH_take (i := 15) (v := .pointer (some ⟨w.heap.size, 2, none⟩)) rfl (by kernel_rfl) (by kernel_rfl) (by kernel_rfl) (fun _ _ _ h => h) (Or.inl ⟨by rfl, fun w hSw => by go_simp⟩) hSw5 ?_
     simp only [Act.put, List.getElem_toArray, List.getElem_cons_succ, List.getElem_cons_zero, List.setIfInBounds_toArray, List.set_cons_zero, List.set_cons_succ]
     refine wpAnyH_take (i := 16) (v := .int .i64 f.size) rfl (by kernel_rfl) (by kernel_rfl) (by kernel_rfl) (fun _ _ _ h => h) (Or.inl ⟨by rfl, fun w hSw => by obtain ⟨f0, f1, f2, f3, f4, f5, f6, f7, i0, i1, i2, i3, i4, i5, i6, i7, i8⟩ := hSw.cells; go_simp⟩) hSw5 ?_
     simp only [Act.put, List.getElem_toArray, List.getElem_cons_succ, List.getElem_cons_zero, List.setIfInBounds_toArray, List.set_cons_zero, List.set_cons_succ]
     refine wpAnyH_take (i := 17) (v := .bool false) rfl (by kernel_rfl) (by kernel_rfl) (by kernel_rfl) (fun _ _ _ h => h) (Or.inl ⟨by rfl, fun w hSw => by go_simp⟩) hSw5 ?_
     simp only [Act.put, List.getElem_toArray, List.getElem_cons_succ, List.getElem_cons_zero, List.setIfInBounds_toArray, List.set_cons_zero, List.set_cons_succ]
     refine wpAnyH_take (i := 18) (v := .bool false) rfl (by kernel_rfl) (by kernel_rfl) (by kernel_rfl) (fun _ _ _ h => h) (Or.inl ⟨by rfl, fun w hSw => by go_simp⟩) hSw5 ?_
     simp only [Act.put, List.getElem_toArray, List.getElem_cons_succ, List.getElem_cons_zero, List.setIfInBounds_toArray, List.set_cons_zero, List.set_cons_succ]
     refine wpAnyH_take (i := 19) (v := .bool false) rfl (by kernel_rfl) (by kernel_rfl) (by kernel_rfl) (fun _ _ _ h => h) (Or.inl ⟨by rfl, fun w hSw => by go_simp⟩) hSw5 ?_
     simp only [Act.put, List.getElem_toArray, List.getElem_cons_succ, List.getElem_cons_zero, List.setIfInBounds_toArray, List.set_cons_zero, List.set_cons_succ]
     refine wpAnyH_take (i := 20) (v := undef) rfl (by kernel_rfl) (by kernel_rfl) (by kernel_rfl) (fun _ _ _ h => h) (Or.inr ⟨by rfl, rfl⟩) hSw5 ?_
     simp only [Act.put, List.getElem_toArray, List.getElem_cons_succ, List.getElem_cons_zero, List.setIfInBounds_toArray, List.set_cons_zero, List.set_cons_succ]
     refine wpAnyH_take (i := 21) (v := undef) rfl (by kernel_rfl) (by kernel_rfl) (by kernel_rfl) (fun _ _ _ h => h) (Or.inr ⟨by rfl, rfl⟩) hSw5 ?_
     simp only [Act.put, List.getElem_toArray, List.getElem_cons_succ, List.getElem_cons_zero, List.setIfInBounds_toArray, List.set_cons_zero, List.set_cons_succ]
     refine wpAnyH_take (i := 22) (v := undef) rfl (by kernel_rfl) (by kernel_rfl) (by kernel_rfl) (fun _ _ _ h => h) (Or.inr ⟨by rfl, rfl⟩) hSw5 ?_
     simp only [Act.put, List.getElem_toArray, List.getElem_cons_succ, List.getElem_cons_zero, List.setIfInBounds_toArray, List.set_cons_zero, List.set_cons_succ]
     refine wpAnyH_take (i := 23) (v := .bool false) rfl (by kernel_rfl) (by kernel_rfl) (by kernel_rfl) (fun _ _ _ h => h) (Or.inl ⟨by rfl, fun w hSw => by go_simp⟩) hSw5 ?_
     simp only [Act.put, List.getElem_toArray, List.getElem_cons_succ, List.getElem_cons_zero, List.setIfInBounds_toArray, List.set_cons_zero, List.set_cons_succ]
     refine wpAnyH_take (i := 24) (v := .bool false) rfl (by kernel_rfl) (by kernel_rfl) (by kernel_rfl) (fun _ _ _ h => h) (Or.inl ⟨by rfl, fun w hSw => by go_simp⟩) hSw5 ?_
     simp only [Act.put, List.getElem_toArray, List.getElem_cons_succ, List.getElem_cons_zero, List.setIfInBounds_toArray, List.set_cons_zero, List.set_cons_succ]
     refine wpAnyH_take (i := 25) (v := undef) rfl (by kernel_rfl) (by kernel_rfl) (by kernel_rfl) (fun _ _ _ h => h) (Or.inr ⟨by rfl, rfl⟩) hSw5 ?_
     simp only [Act.put, List.getElem_toArray, List.getElem_cons_succ, List.getElem_cons_zero, List.setIfInBounds_toArray, List.set_cons_zero, List.set_cons_succ]
     refine wpAnyH_take (i := 26) (v := undef) rfl (by kernel_rfl) (by kernel_rfl) (by kernel_rfl) (fun _ _ _ h => h) (Or.inr ⟨by rfl, rfl⟩) hSw5 ?_
     simp only [Act.put, List.getElem_toArray, List.getElem_cons_succ, List.getElem_cons_zero, List.setIfInBounds_toArray, List.set_cons_zero, List.set_cons_succ]
     refine wpAnyH_take (i := 27) (v := undef) rfl (by kernel_rfl) (by kernel_rfl) (by kernel_rfl) (fun _ _ _ h => h) (Or.inr ⟨by rfl, rfl⟩) hSw5 ?_
     simp only [Act.put, List.getElem_toArray, List.getElem_cons_succ, List.getElem_cons_zero, List.setIfInBounds_toArray, List.set_cons_zero, List.set_cons_succ]
     refine wpAnyH_take (i := 28) (v := undef) rfl (by kernel_rfl) (by kernel_rfl) (by kernel_rfl) (fun _ _ _ h => h) (Or.inr ⟨by rfl, rfl⟩) hSw5 ?_
     simp only [Act.put, List.getElem_toArray, List.getElem_cons_succ, List.getElem_cons_zero, List.setIfInBounds_toArray, List.set_cons_zero, List.set_cons_succ]
     refine wpAnyH_take (i := 29) (v := undef) rfl (by kernel_rfl) (by kernel_rfl) (by kernel_rfl) (fun _ _ _ h => h) (Or.inr ⟨by rfl, rfl⟩) hSw5 ?_
     simp only [Act.put, List.getElem_toArray, List.getElem_cons_succ, List.getElem_cons_zero, List.setIfInBounds_toArray, List.set_cons_zero, List.set_cons_succ]
     refine wpAnyH_take (i := 30) (v := undef) rfl (by kernel_rfl) (by kernel_rfl) (by kernel_rfl) (fun _ _ _ h => h) (Or.inr ⟨by rfl, rfl⟩) hSw5 ?_
     simp only [Act.put, List.getElem_toArray, List.getElem_cons_succ, List.getElem_cons_zero, List.setIfInBounds_toArray, List.set_cons_zero, List.set_cons_succ]
     refine wpAnyH_take (i := 31) (v := .bool false) rfl (by kernel_rfl) (by kernel_rfl) (by kernel_rfl) (fun _ _ _ h => h) (Or.inl ⟨by rfl, fun w hSw => by go_simp⟩) hSw5 ?_
     simp only [Act.put, List.getElem_toArray, List.getElem_cons_succ, List.getElem_cons_zero, List.setIfInBounds_toArray, List.set_cons_zero, List.set_cons_succ]
     refine wpAnyH_take (i := 32) (v := .bool false) rfl (by kernel_rfl) (by kernel_rfl) (by kernel_rfl) (fun _ _ _ h => h) (Or.inl ⟨by rfl, fun w hSw => by go_simp⟩) hSw5 ?_
     simp only [Act.put, List.getElem_toArray, List.getElem_cons_succ, List.getElem_cons_zero, List.setIfInBounds_toArray, List.set_cons_zero, List.set_cons_succ]
     refine wpAnyH_done (by kernel_rfl) ?_ _
     go_wp2_with fail
     go_ret
     exact ⟨rfl, h5.out.below⟩
    ·skip
     by_cases g4 : f.num < 0
     ·rw [bb_no hbb (fun h => by have := h.2.2.1; omega)]
      clear hbb
      have K1 : Hid (∀ wx, Hid (FX w f so sk a b c d i e s wx) → Calls Tryz.prog 121 #[infV a b c d i e s] wx fun en w' => en = .returned (.bool true) ∧ Hid (FX w f so sk a b c d i e s w')) := fun wx hx => (f_may a b c d i e s true (tt_iff (Classical.not_not.1 g0)) wx).mono fun en w' hh => ⟨hh.1, hx.out.next hh.2⟩
      have K2 : Hid (∀ wx, Hid (FX w f so sk a b c d i e s wx) → Calls Tryz.prog 122 #[.int .i64 f.mo, .int .i64 i.ch] wx fun en w' => en = .returned (.bool true) ∧ Hid (FX w f so sk a b c d i e s w')) := fun wx hx => ((f_mode f.mo i.ch true (tt_iff (Classical.not_not.1 g1)) wx)).mono fun en w' hh => ⟨hh.1, by rw [hh.2]; exact hx⟩
      have HA : Hid (FX w f so sk a b c d i e s ((w.alloc (.cells (fmC f so sk) 41)).alloc (.cells (infC a b c d i e s) 38))) := FX.new w f so sk a b c d i e s
      go_enter Tryz.func63, Tryz.ntmps63
      go_upto_region 1 with fail
      generalize hwa : World.alloc _ _ = wa at *
      clear hwa
      obtain ⟨f0, f1, f2, f3, f4, f5, f6, f7, i0, i1, i2, i3, i4, i5, i6, i7, i8⟩ := HA.out.cells
      have hd1 : decide (1 ≤ f.size) = true := decide_eq_true (by omega)
      have hd2 : decide (f.size ≤ 4608) = true := decide_eq_true (by omega)
      have hd3 : decide (0 ≤ f.num) = false := decide_eq_false (by omega)
      have HD : Hid (FX w f so sk a b c d i e s wa.drew) := HA.out.drew
      clear HA f0 f1 f2 f3 f4 f5 f6 f7 i0 i1 i2 i3 i4 i5 i6 i7 i8
      go_wp2_with fail
      refine wp_region_held_drew (S := fun wx => FX w f so sk a b c d i e s wx) (by kernel_rfl) (HD.out) (fun hS => ?_)
      refine wpAnyH_take (i := 0) (v := infV a b c d i e s) rfl (by kernel_rfl) (by kernel_rfl) (by kernel_rfl) (fun _ _ _ h => h) (Or.inl ⟨by rfl, fun w hSw => by obtain ⟨f0, f1, f2, f3, f4, f5, f6, f7, i0, i1, i2, i3, i4, i5, i6, i7, i8⟩ := hSw.cells; go_simp⟩) hS ?_
      simp only [Act.put, List.getElem_toArray, List.getElem_cons_succ, List.getElem_cons_zero, List.setIfInBounds_toArray, List.set_cons_zero, List.set_cons_succ]
      refine wpAnyH_ready (rs := [1]) (by kernel_rfl) (by simp) ?_
      refine AllReadyH.cons rfl (fun K hK => ?_) AllReadyH.nil
      go_simp
      refine (K1.out _ hS).mono ?_
      rintro en w4 ⟨rfl, h4⟩
      refine hK.out _ _ h4.out (fun hSw4 => ?_)
      clear hK K
      try simp only [Act.put, List.getElem_toArray, List.getElem_cons_succ, List.getElem_cons_zero, List.setIfInBounds_toArray, List.set_cons_zero, List.set_cons_succ]
      refine wpAnyH_take (i := 2) (v := .bool true) rfl (by kernel_rfl) (by kernel_rfl) (by kernel_rfl) (fun _ _ _ h => h) (Or.inl ⟨by rfl, fun w hSw => by go_simp⟩) hSw4 ?_
      simp only [Act.put, List.getElem_toArray, List.getElem_cons_succ, List.getElem_cons_zero, List.setIfInBounds_toArray, List.set_cons_zero, List.set_cons_succ]
      refine wpAnyH_take (i := 3) (v := .pointer (some ⟨w.heap.size, 6, none⟩)) rfl (by kernel_rfl) (by kernel_rfl) (by kernel_rfl) (fun _ _ _ h => h) (Or.inl ⟨by rfl, fun w hSw => by go_simp⟩) hSw4 ?_
      simp only [Act.put, List.getElem_toArray, List.getElem_cons_succ, List.getElem_cons_zero, List.setIfInBounds_toArray, List.set_cons_zero, List.set_cons_succ]
      refine wpAnyH_take (i := 4) (v := .int .i64 f.mo) rfl (by kernel_rfl) (by kernel_rfl) (by kernel_rfl) (fun _ _ _ h => h) (Or.inl ⟨by rfl, fun w hSw => by obtain ⟨f0, f1, f2, f3, f4, f5, f6, f7, i0, i1, i2, i3, i4, i5, i6, i7, i8⟩ := hSw.cells; go_simp⟩) hSw4 ?_
      simp only [Act.put, List.getElem_toArray, List.getElem_cons_succ, List.getElem_cons_zero, List.setIfInBounds_toArray, List.set_cons_zero, List.set_cons_succ]
      refine wpAnyH_take (i := 5) (v := .pointer (some ⟨w.heap.size + 1, 5, none⟩)) rfl (by kernel_rfl) (by kernel_rfl) (by kernel_rfl) (fun _ _ _ h => h) (Or.inl ⟨by rfl, fun w hSw => by go_simp⟩) hSw4 ?_
      simp only [Act.put, List.getElem_toArray, List.getElem_cons_succ, List.getElem_cons_zero, List.setIfInBounds_toArray, List.set_cons_zero, List.set_cons_succ]
      refine wpAnyH_take (i := 6) (v := .int .i64 i.ch) rfl (by kernel_rfl) (by kernel_rfl) (by kernel_rfl) (fun _ _ _ h => h) (Or.inl ⟨by rfl, fun w hSw => by obtain ⟨f0, f1, f2, f3, f4, f5, f6, f7, i0, i1, i2, i3, i4, i5, i6, i7, i8⟩ := hSw.cells; go_simp⟩) hSw4 ?_
      simp only [Act.put, List.getElem_toArray, List.getElem_cons_succ, List.getElem_cons_zero, List.setIfInBounds_toArray, List.set_cons_zero, List.set_cons_succ]
      refine wpAnyH_ready (rs := [7]) (by kernel_rfl) (by simp) ?_
      refine AllReadyH.cons rfl (fun K hK => ?_) AllReadyH.nil
      go_simp
      refine (K2.out _ hSw4).mono ?_
      rintro en w5 ⟨rfl, h5⟩
      refine hK.out _ _ h5.out (fun hSw5 => ?_)
      clear hK K
      try simp only [Act.put, List.getElem_toArray, List.getElem_cons_succ, List.getElem_cons_zero, List.setIfInBounds_toArray, List.set_cons_zero, List.set_cons_succ]
      refine wpAnyH_take (i := 8) (v := .bool true) rfl (by kernel_rfl) (by kernel_rfl) (by kernel_rfl) (fun _ _ _ h => h) (Or.inl ⟨by rfl, fun w hSw => by go_simp⟩) hSw5 ?_
      simp only [Act.put, List.getElem_toArray, List.getElem_cons_succ, List.getElem_cons_zero, List.setIfInBounds_toArray, List.set_cons_zero, List.set_cons_succ]
      refine wpAnyH_take (i := 9) (v := .bool true) rfl (by kernel_rfl) (by kernel_rfl) (by kernel_rfl) (fun _ _ _ h => h) (Or.inl ⟨by rfl, fun w hSw => by go_simp⟩) hSw5 ?_
      simp only [Act.put, List.getElem_toArray, List.getElem_cons_succ, List.getElem_cons_zero, List.setIfInBounds_toArray, List.set_cons_zero, List.set_cons_succ]
      refine wpAnyH_take (i := 10) (v := .pointer (some ⟨w.heap.size, 2, none⟩)) rfl (by kernel_rfl) (by kernel_rfl) (by kernel_rfl) (fun _ _ _ h => h) (Or.inl ⟨by rfl, fun w hSw => by go_simp⟩) hSw5 ?_
      simp only [Act.put, List.getElem_toArray, List.getElem_cons_succ, List.getElem_cons_zero, List.setIfInBounds_toArray, List.set_cons_zero, List.set_cons_succ]
      refine wpAnyH_take (i := 11) (v := .int .i64 f.size) rfl (by kernel_rfl) (by kernel_rfl) (by kernel_rfl) (fun _ _ _ h => h) (Or.inl ⟨by rfl, fun w hSw => by obtain ⟨f0, f1, f2, f3, f4, f5, f6, f7, i0, i1, i2, i3, i4, i5, i6, i7, i8⟩ := hSw.cells; go_simp⟩) hSw5 ?_
      simp only [Act.put, List.getElem_toArray, List.getElem_cons_succ, List.getElem_cons_zero, List.setIfInBounds_toArray, List.set_cons_zero, List.set_cons_succ]
      refine wpAnyH_take (i := 12) (v := .bool true) rfl (by kernel_rfl) (by kernel_rfl) (by kernel_rfl) (fun _ _ _ h => h) (Or.inl ⟨by rfl, fun w hSw => by go_simp⟩) hSw5 ?_
      simp only [Act.put, List.getElem_toArray, List.getElem_cons_succ, List.getElem_cons_zero, List.setIfInBounds_toArray, List.set_cons_zero, List.set_cons_succ]
      refine wpAnyH_take (i := 13) (v := .bool true) rfl (by kernel_rfl) (by kernel_rfl) (by kernel_rfl) (fun _ _ _ h => h) (Or.inl ⟨by rfl, fun w hSw => by go_simp⟩) hSw5 ?_
      simp only [Act.put, List.getElem_toArray, List.getElem_cons_succ, List.getElem_cons_zero, List.setIfInBounds_toArray, List.set_cons_zero, List.set_cons_succ]
      refine wpAnyH_take (i := 14) (v := .bool true) rfl (by kernel_rfl) (by kernel_rfl) (by kernel_rfl) (fun _ _ _ h => h) (Or.inl ⟨by rfl, fun w hSw => by go_simp⟩) hSw5 ?_
      simp only [Act.put, List.getElem_toArray, List.getElem_cons_succ, List.getElem_cons_zero, List.setIfInBounds_toArray, List.set_cons_zero, List.set_cons_succ]
      refine wpAnyH_take (i := 15) (v := .pointer (some ⟨w.heap.size, 2, none⟩)) rfl (by kernel_rfl) (by kernel_rfl) (by kernel_rfl) (fun _ _ _ h => h) (Or.inl ⟨by rfl, fun w hSw => by go_simp⟩) hSw5 ?_
      simp only [Act.put, List.getElem_toArray, List.getElem_cons_succ, List.getElem_cons_zero, List.setIfInBounds_toArray, List.set_cons_zero, List.set_cons_succ]
      refine wpAnyH_take (i := 16) (v := .int .i64 f.size) rfl (by kernel_rfl) (by kernel_rfl) (by kernel_rfl) (fun _ _ _ h => h) (Or.inl ⟨by rfl, fun w hSw => by obtain ⟨f0, f1, f2, f3, f4, f5, f6, f7, i0, i1, i2, i3, i4, i5, i6, i7, i8⟩ := hSw.cells; go_simp⟩) hSw5 ?_
      simp only [Act.put, List.getElem_toArray, List.getElem_cons_succ, List.getElem_cons_zero, List.setIfInBounds_toArray, List.set_cons_zero, List.set_cons_succ]
      refine wpAnyH_take (i := 17) (v := .bool true) rfl (by kernel_rfl) (by kernel_rfl) (by kernel_rfl) (fun _ _ _ h => h) (Or.inl ⟨by rfl, fun w hSw => by go_simp⟩) hSw5 ?_
      simp only [Act.put, List.getElem_toArray, List.getElem_cons_succ, List.getElem_cons_zero, List.setIfInBounds_toArray, List.set_cons_zero, List.set_cons_succ]
      refine wpAnyH_take (i := 18) (v := .bool true) rfl (by kernel_rfl) (by kernel_rfl) (by kernel_rfl) (fun _ _ _ h => h) (Or.inl ⟨by rfl, fun w hSw => by go_simp⟩) hSw5 ?_
      simp only [Act.put, List.getElem_toArray, List.getElem_cons_succ, List.getElem_cons_zero, List.setIfInBounds_toArray, List.set_cons_zero, List.set_cons_succ]
      refine wpAnyH_take (i := 19) (v := .bool true) rfl (by kernel_rfl) (by kernel_rfl) (by kernel_rfl) (fun _ _ _ h => h) (Or.inl ⟨by rfl, fun w hSw => by go_simp⟩) hSw5 ?_
      simp only [Act.put, List.getElem_toArray, List.getElem_cons_succ, List.getElem_cons_zero, List.setIfInBounds_toArray, List.set_cons_zero, List.set_cons_succ]
      refine wpAnyH_take (i := 20) (v := .pointer (some ⟨w.heap.size, 1, none⟩)) rfl (by kernel_rfl) (by kernel_rfl) (by kernel_rfl) (fun _ _ _ h => h) (Or.inl ⟨by rfl, fun w hSw => by go_simp⟩) hSw5 ?_
      simp only [Act.put, List.getElem_toArray, List.getElem_cons_succ, List.getElem_cons_zero, List.setIfInBounds_toArray, List.set_cons_zero, List.set_cons_succ]
      refine wpAnyH_take (i := 21) (v := .int .i64 f.num) rfl (by kernel_rfl) (by kernel_rfl) (by kernel_rfl) (fun _ _ _ h => h) (Or.inl ⟨by rfl, fun w hSw => by obtain ⟨f0, f1, f2, f3, f4, f5, f6, f7, i0, i1, i2, i3, i4, i5, i6, i7, i8⟩ := hSw.cells; go_simp⟩) hSw5 ?_
      simp only [Act.put, List.getElem_toArray, List.getElem_cons_succ, List.getElem_cons_zero, List.setIfInBounds_toArray, List.set_cons_zero, List.set_cons_succ]
      refine wpAnyH_take (i := 22) (v := .bool false) rfl (by kernel_rfl) (by kernel_rfl) (by kernel_rfl) (fun _ _ _ h => h) (Or.inl ⟨by rfl, fun w hSw => by go_simp⟩) hSw5 ?_
      simp only [Act.put, List.getElem_toArray, List.getElem_cons_succ, List.getElem_cons_zero, List.setIfInBounds_toArray, List.set_cons_zero, List.set_cons_succ]
      refine wpAnyH_take (i := 23) (v := .bool false) rfl (by kernel_rfl) (by kernel_rfl) (by kernel_rfl) (fun _ _ _ h => h) (Or.inl ⟨by rfl, fun w hSw => by go_simp⟩) hSw5 ?_
      simp only [Act.put, List.getElem_toArray, List.getElem_cons_succ, List.getElem_cons_zero, List.setIfInBounds_toArray, List.set_cons_zero, List.set_cons_succ]
      refine wpAnyH_take (i := 24) (v := .bool false) rfl (by kernel_rfl) (by kernel_rfl) (by kernel_rfl) (fun _ _ _ h => h) (Or.inl ⟨by rfl, fun w hSw => by go_simp⟩) hSw5 ?_
      simp only [Act.put, List.getElem_toArray, List.getElem_cons_succ, List.getElem_cons_zero, List.setIfInBounds_toArray, List.set_cons_zero, List.set_cons_succ]
      refine wpAnyH_take (i := 25) (v := undef) rfl (by kernel_rfl) (by kernel_rfl) (by kernel_rfl) (fun _ _ _ h => h) (Or.inr ⟨by rfl, rfl⟩) hSw5 ?_
      simp only [Act.put, List.getElem_toArray, List.getElem_cons_succ, List.getElem_cons_zero, List.setIfInBounds_toArray, List.set_cons_zero, List.set_cons_succ]
      refine wpAnyH_take (i := 26) (v := undef) rfl (by kernel_rfl) (by kernel_rfl) (by kernel_rfl) (fun _ _ _ h => h) (Or.inr ⟨by rfl, rfl⟩) hSw5 ?_
      simp only [Act.put, List.getElem_toArray, List.getElem_cons_succ, List.getElem_cons_zero, List.setIfInBounds_toArray, List.set_cons_zero, List.set_cons_succ]
      refine wpAnyH_take (i := 27) (v := undef) rfl (by kernel_rfl) (by kernel_rfl) (by kernel_rfl) (fun _ _ _ h => h) (Or.inr ⟨by rfl, rfl⟩) hSw5 ?_
      simp only [Act.put, List.getElem_toArray, List.getElem_cons_succ, List.getElem_cons_zero, List.setIfInBounds_toArray, List.set_cons_zero, List.set_cons_succ]
      refine wpAnyH_take (i := 28) (v := undef) rfl (by kernel_rfl) (by kernel_rfl) (by kernel_rfl) (fun _ _ _ h => h) (Or.inr ⟨by rfl, rfl⟩) hSw5 ?_
      simp only [Act.put, List.getElem_toArray, List.getElem_cons_succ, List.getElem_cons_zero, List.setIfInBounds_toArray, List.set_cons_zero, List.set_cons_succ]
      refine wpAnyH_take (i := 29) (v := undef) rfl (by kernel_rfl) (by kernel_rfl) (by kernel_rfl) (fun _ _ _ h => h) (Or.inr ⟨by rfl, rfl⟩) hSw5 ?_
      simp only [Act.put, List.getElem_toArray, List.getElem_cons_succ, List.getElem_cons_zero, List.setIfInBounds_toArray, List.set_cons_zero, List.set_cons_succ]
      refine wpAnyH_take (i := 30) (v := undef) rfl (by kernel_rfl) (by kernel_rfl) (by kernel_rfl) (fun _ _ _ h => h) (Or.inr ⟨by rfl, rfl⟩) hSw5 ?_
      simp only [Act.put, List.getElem_toArray, List.getElem_cons_succ, List.getElem_cons_zero, List.setIfInBounds_toArray, List.set_cons_zero, List.set_cons_succ]
      refine wpAnyH_take (i := 31) (v := .bool false) rfl (by kernel_rfl) (by kernel_rfl) (by kernel_rfl) (fun _ _ _ h => h) (Or.inl ⟨by rfl, fun w hSw => by go_simp⟩) hSw5 ?_
      simp only [Act.put, List.getElem_toArray, List.getElem_cons_succ, List.getElem_cons_zero, List.setIfInBounds_toArray, List.set_cons_zero, List.set_cons_succ]
      refine wpAnyH_take (i := 32) (v := .bool false) rfl (by kernel_rfl) (by kernel_rfl) (by kernel_rfl) (fun _ _ _ h => h) (Or.inl ⟨by rfl, fun w hSw => by go_simp⟩) hSw5 ?_
      simp only [Act.put, List.getElem_toArray, List.getElem_cons_succ, List.getElem_cons_zero, List.setIfInBounds_toArray, List.set_cons_zero, List.set_cons_succ]
      refine wpAnyH_done (by kernel_rfl) ?_ _
      go_wp2_with fail
      go_ret
      exact ⟨rfl, h5.out.below⟩
     ·skip
      by_cases g5 : ¬ f.num ≤ (if f.v then 68719476735 else 2147483647)
      ·rw [bb_no hbb (fun h => g5 h.2.2.1.2)]
       clear hbb
       have K1 : Hid (∀ wx, Hid (FX w f so sk a b c d i e s wx) → Calls Tryz.prog 121 #[infV a b c d i e s] wx fun en w' => en = .returned (.bool true) ∧ Hid (FX w f so sk a b c d i e s w')) := fun wx hx => (f_may a b c d i e s true (tt_iff (Classical.not_not.1 g0)) wx).mono fun en w' hh => ⟨hh.1, hx.out.next hh.2⟩
       have K2 : Hid (∀ wx, Hid (FX w f so sk a b c d i e s wx) → Calls Tryz.prog 122 #[.int .i64 f.mo, .int .i64 i.ch] wx fun en w' => en = .returned (.bool true) ∧ Hid (FX w f so sk a b c d i e s w')) := fun wx hx => ((f_mode f.mo i.ch true (tt_iff (Classical.not_not.1 g1)) wx)).mono fun en w' hh => ⟨hh.1, by rw [hh.2]; exact hx⟩
       have km := f_maxN f.v
       generalize hmx : (if f.v then (68719476735 : Int) else 2147483647) = mx at *
       have K3 : Hid (∀ wx, Hid (FX w f so sk a b c d i e s wx) → Calls Tryz.prog 123 #[.bool f.v] wx fun en w' => en = .returned (.int .i64 mx) ∧ Hid (FX w f so sk a b c d i e s w')) := fun wx hx => ((km wx)).mono fun en w' hh => ⟨hh.1, by rw [hh.2]; exact hx⟩
       clear km
       have hmx2 : decide (f.num ≤ mx) = false := decide_eq_false g5
       clear g5 hmx
       have HA : Hid (FX w f so sk a b c d i e s ((w.alloc (.cells (fmC f so sk) 41)).alloc (.cells (infC a b c d i e s) 38))) := FX.new w f so sk a b c d i e s
       go_enter Tryz.func63, Tryz.ntmps63
       go_upto_region 1 with fail
       generalize hwa : World.alloc _ _ = wa at *
       clear hwa
       obtain ⟨f0, f1, f2, f3, f4, f5, f6, f7, i0, i1, i2, i3, i4, i5, i6, i7, i8⟩ := HA.out.cells
       have HC : Hid (∀ wx, Hid (FX w f so sk a b c d i e s wx) → wx.cell? ⟨w.heap.size, 0, none⟩ = some (.bool f.v) ∧ wx.cell? ⟨w.heap.size, 1, none⟩ = some (.int .i64 f.num) ∧ wx.cell? ⟨w.heap.size, 2, none⟩ = some (.int .i64 f.size) ∧ wx.cell? ⟨w.heap.size, 3, none⟩ = some (.int .i64 f.sc) ∧ wx.cell? ⟨w.heap.size, 4, none⟩ = some (.int .i64 f.rc) ∧ wx.cell? ⟨w.heap.size, 5, none⟩ = some (.int .i64 f.wc) ∧ wx.cell? ⟨w.heap.size, 6, none⟩ = some (.int .i64 f.mo) ∧ wx.cell? ⟨w.heap.size, 7, none⟩ = some (.slice so f.S.length sk) ∧ wx.cell? ⟨w.heap.size + 1, 0, none⟩ = some (.int .i64 a) ∧ wx.cell? ⟨w.heap.size + 1, 1, none⟩ = some (.int .i64 b) ∧ wx.cell? ⟨w.heap.size + 1, 2, none⟩ = some (.int .i64 c) ∧ wx.cell? ⟨w.heap.size + 1, 3, none⟩ = some (.int .i64 d) ∧ wx.cell? ⟨w.heap.size + 1, 4, none⟩ = some (.int .i64 i.rate) ∧ wx.cell? ⟨w.heap.size + 1, 5, none⟩ = some (.int .i64 i.ch) ∧ wx.cell? ⟨w.heap.size + 1, 6, none⟩ = some (.int .i64 i.wd) ∧ wx.cell? ⟨w.heap.size + 1, 7, none⟩ = some (.int .i64 e) ∧ wx.cell? ⟨w.heap.size + 1, 8, none⟩ = some (.string s)) := fun wx h => h.out.cells
       have HD : Hid (FX w f so sk a b c d i e s wa.drew) := HA.out.drew
       clear HA f0 f1 f2 f3 f4 f5 f6 f7 i0 i1 i2 i3 i4 i5 i6 i7 i8
       go_wp2_with fail
       go_region_held3 (fun wx => wx.cell? ⟨w.heap.size, 0, none⟩ = some (.bool f.v) ∧ wx.cell? ⟨w.heap.size, 1, none⟩ = some (.int .i64 f.num) ∧ wx.cell? ⟨w.heap.size, 2, none⟩ = some (.int .i64 f.size) ∧ wx.cell? ⟨w.heap.size, 3, none⟩ = some (.int .i64 f.sc) ∧ wx.cell? ⟨w.heap.size, 4, none⟩ = some (.int .i64 f.rc) ∧ wx.cell? ⟨w.heap.size, 5, none⟩ = some (.int .i64 f.wc) ∧ wx.cell? ⟨w.heap.size, 6, none⟩ = some (.int .i64 f.mo) ∧ wx.cell? ⟨w.heap.size, 7, none⟩ = some (.slice so f.S.length sk) ∧ wx.cell? ⟨w.heap.size + 1, 0, none⟩ = some (.int .i64 a) ∧ wx.cell? ⟨w.heap.size + 1, 1, none⟩ = some (.int .i64 b) ∧ wx.cell? ⟨w.heap.size + 1, 2, none⟩ = some (.int .i64 c) ∧ wx.cell? ⟨w.heap.size + 1, 3, none⟩ = some (.int .i64 d) ∧ wx.cell? ⟨w.heap.size + 1, 4, none⟩ = some (.int .i64 i.rate) ∧ wx.cell? ⟨w.heap.size + 1, 5, none⟩ = some (.int .i64 i.ch) ∧ wx.cell? ⟨w.heap.size + 1, 6, none⟩ = some (.int .i64 i.wd) ∧ wx.cell? ⟨w.heap.size + 1, 7, none⟩ = some (.int .i64 e) ∧ wx.cell? ⟨w.heap.size + 1, 8, none⟩ = some (.string s)) (exact HC.out _ (by assumption))
        (first
         | (go_at_call 121; refine (K1.out _ (by assumption)).mono ?_; rintro e w4 ⟨rfl, h4⟩)
         | (go_at_call 122; refine (K2.out _ (by assumption)).mono ?_; rintro e w5 ⟨rfl, h5⟩)
         | (go_at_call 123; refine (K3.out _ (by assumption)).mono ?_; rintro e w6 ⟨rfl, h6⟩))
       go_wp2_with fail
       go_ret
       exact ⟨rfl, h6.out.below⟩
      ·skip
       rw [bb_yes hbb (⟨Classical.not_not.1 g0, by omega, ⟨by omega, Classical.not_not.1 g5⟩, by have := Classical.not_not.1 g1; omega⟩)]
       clear hbb
       have K1 : Hid (∀ wx, Hid (FX w f so sk a b c d i e s wx) → Calls Tryz.prog 121 #[infV a b c d i e s] wx fun en w' => en = .returned (.bool true) ∧ Hid (FX w f so sk a b c d i e s w')) := fun wx hx => (f_may a b c d i e s true (tt_iff (Classical.not_not.1 g0)) wx).mono fun en w' hh => ⟨hh.1, hx.out.next hh.2⟩
       have K2 : Hid (∀ wx, Hid (FX w f so sk a b c d i e s wx) → Calls Tryz.prog 122 #[.int .i64 f.mo, .int .i64 i.ch] wx fun en w' => en = .returned (.bool true) ∧ Hid (FX w f so sk a b c d i e s w')) := fun wx hx => ((f_mode f.mo i.ch true (tt_iff (Classical.not_not.1 g1)) wx)).mono fun en w' hh => ⟨hh.1, by rw [hh.2]; exact hx⟩
       have km := f_maxN f.v
       generalize hmx : (if f.v then (68719476735 : Int) else 2147483647) = mx at *
       have K3 : Hid (∀ wx, Hid (FX w f so sk a b c d i e s wx) → Calls Tryz.prog 123 #[.bool f.v] wx fun en w' => en = .returned (.int .i64 mx) ∧ Hid (FX w f so sk a b c d i e s w')) := fun wx hx => ((km wx)).mono fun en w' hh => ⟨hh.1, by rw [hh.2]; exact hx⟩
       clear km
       have hmx2 : decide (f.num ≤ mx) = true := decide_eq_true (Classical.not_not.1 g5)
       clear g5 hmx
       have HA : Hid (FX w f so sk a b c d i e s ((w.alloc (.cells (fmC f so sk) 41)).alloc (.cells (infC a b c d i e s) 38))) := FX.new w f so sk a b c d i e s
       go_enter Tryz.func63, Tryz.ntmps63
       go_upto_region 1 with fail
       generalize hwa : World.alloc _ _ = wa at *
       clear hwa
       obtain ⟨f0, f1, f2, f3, f4, f5, f6, f7, i0, i1, i2, i3, i4, i5, i6, i7, i8⟩ := HA.out.cells
       have HC : Hid (∀ wx, Hid (FX w f so sk a b c d i e s wx) → wx.cell? ⟨w.heap.size, 0, none⟩ = some (.bool f.v) ∧ wx.cell? ⟨w.heap.size, 1, none⟩ = some (.int .i64 f.num) ∧ wx.cell? ⟨w.heap.size, 2, none⟩ = some (.int .i64 f.size) ∧ wx.cell? ⟨w.heap.size, 3, none⟩ = some (.int .i64 f.sc) ∧ wx.cell? ⟨w.heap.size, 4, none⟩ = some (.int .i64 f.rc) ∧ wx.cell? ⟨w.heap.size, 5, none⟩ = some (.int .i64 f.wc) ∧ wx.cell? ⟨w.heap.size, 6, none⟩ = some (.int .i64 f.mo) ∧ wx.cell? ⟨w.heap.size, 7, none⟩ = some (.slice so f.S.length sk) ∧ wx.cell? ⟨w.heap.size + 1, 0, none⟩ = some (.int .i64 a) ∧ wx.cell? ⟨w.heap.size + 1, 1, none⟩ = some (.int .i64 b) ∧ wx.cell? ⟨w.heap.size + 1, 2, none⟩ = some (.int .i64 c) ∧ wx.cell? ⟨w.heap.size + 1, 3, none⟩ = some (.int .i64 d) ∧ wx.cell? ⟨w.heap.size + 1, 4, none⟩ = some (.int .i64 i.rate) ∧ wx.cell? ⟨w.heap.size + 1, 5, none⟩ = some (.int .i64 i.ch) ∧ wx.cell? ⟨w.heap.size + 1, 6, none⟩ = some (.int .i64 i.wd) ∧ wx.cell? ⟨w.heap.size + 1, 7, none⟩ = some (.int .i64 e) ∧ wx.cell? ⟨w.heap.size + 1, 8, none⟩ = some (.string s)) := fun wx h => h.out.cells
       have HD : Hid (FX w f so sk a b c d i e s wa.drew) := HA.out.drew
       clear HA f0 f1 f2 f3 f4 f5 f6 f7 i0 i1 i2 i3 i4 i5 i6 i7 i8
       go_wp2_with fail
       go_region_held3 (fun wx => wx.cell? ⟨w.heap.size, 0, none⟩ = some (.bool f.v) ∧ wx.cell? ⟨w.heap.size, 1, none⟩ = some (.int .i64 f.num) ∧ wx.cell? ⟨w.heap.size, 2, none⟩ = some (.int .i64 f.size) ∧ wx.cell? ⟨w.heap.size, 3, none⟩ = some (.int .i64 f.sc) ∧ wx.cell? ⟨w.heap.size, 4, none⟩ = some (.int .i64 f.rc) ∧ wx.cell? ⟨w.heap.size, 5, none⟩ = some (.int .i64 f.wc) ∧ wx.cell? ⟨w.heap.size, 6, none⟩ = some (.int .i64 f.mo) ∧ wx.cell? ⟨w.heap.size, 7, none⟩ = some (.slice so f.S.length sk) ∧ wx.cell? ⟨w.heap.size + 1, 0, none⟩ = some (.int .i64 a) ∧ wx.cell? ⟨w.heap.size + 1, 1, none⟩ = some (.int .i64 b) ∧ wx.cell? ⟨w.heap.size + 1, 2, none⟩ = some (.int .i64 c) ∧ wx.cell? ⟨w.heap.size + 1, 3, none⟩ = some (.int .i64 d) ∧ wx.cell? ⟨w.heap.size + 1, 4, none⟩ = some (.int .i64 i.rate) ∧ wx.cell? ⟨w.heap.size + 1, 5, none⟩ = some (.int .i64 i.ch) ∧ wx.cell? ⟨w.heap.size + 1, 6, none⟩ = some (.int .i64 i.wd) ∧ wx.cell? ⟨w.heap.size + 1, 7, none⟩ = some (.int .i64 e) ∧ wx.cell? ⟨w.heap.size + 1, 8, none⟩ = some (.string s)) (exact HC.out _ (by assumption))
        (first
         | (go_at_call 121; refine (K1.out _ (by assumption)).mono ?_; rintro e w4 ⟨rfl, h4⟩)
         | (go_at_call 122; refine (K2.out _ (by assumption)).mono ?_; rintro e w5 ⟨rfl, h5⟩)
         | (go_at_call 123; refine (K3.out _ (by assumption)).mono ?_; rintro e w6 ⟨rfl, h6⟩))
       go_wp2_with fail
       go_ret
       exact ⟨rfl, h6.out.below⟩
theorem f_said (f : Fm) (so : Option Addr) (sk : Nat) (a b c d : Int) (i : Inf) (e : Int) (s : ByteArray) (hsz : 1 ≤ f.size ∧ f.size ≤ 4608) (hr : 1 ≤ i.rate ∧ i.rate ≤ 9223372036854775807) (hw : 4 ≤ i.wd ∧ i.wd ≤ 24) (bb : Bool) (hbb : bb = true ↔ (saysZ f ∧ saysR f i ∧ saysW f i)) (w : World) (hL : Lay w) : Calls Tryz.prog 64 #[fmV f so sk, infV a b c d i e s] w fun en w' => en = .returned (.bool bb) ∧ Below w.heap.size w w' := by
 by_cases g0 : ¬ sayZ f.sc f.size
 ·rw [bb_no hbb (fun h => g0 h.1)]
  have K1 : Hid (∀ wx, Hid (FX w f so sk a b c d i e s wx) → Calls Tryz.prog 124 #[.int .i64 f.sc, .int .i64 f.size] wx fun en w' => en = .returned (.bool false) ∧ Hid (FX w f so sk a b c d i e s w')) := fun wx hx => ((f_sayZ f.sc f.size hsz false (ff_iff (g0)) wx (hL.below hx.out.below))).mono fun en w' hh => ⟨hh.1, by rw [hh.2]; exact hx⟩
  clear hbb hL
  have HA : Hid (FX w f so sk a b c d i e s ((w.alloc (.cells (fmC f so sk) 41)).alloc (.cells (infC a b c d i e s) 38))) := FX.new w f so sk a b c d i e s
  go_enter Tryz.func64, Tryz.ntmps64
  go_upto_region 1 with fail
  generalize hwa : World.alloc _ _ = wa at *
  clear hwa
  obtain ⟨f0, f1, f2, f3, f4, f5, f6, f7, i0, i1, i2, i3, i4, i5, i6, i7, i8⟩ := HA.out.cells
  go_wp2_with fail
  refine (K1.out _ HA).mono ?_
  rintro en w1 ⟨rfl, HB1⟩
  clear HA f0 f1 f2 f3 f4 f5 f6 f7 i0 i1 i2 i3 i4 i5 i6 i7 i8
  obtain ⟨f0, f1, f2, f3, f4, f5, f6, f7, i0, i1, i2, i3, i4, i5, i6, i7, i8⟩ := HB1.out.cells
  go_wp2_with fail
  go_ret
  exact ⟨rfl, HB1.out.below⟩
 ·skip
  by_cases g1 : ¬ sayR f.rc i.rate
  ·rw [bb_no hbb (fun h => g1 h.2.1)]
   have K1 : Hid (∀ wx, Hid (FX w f so sk a b c d i e s wx) → Calls Tryz.prog 124 #[.int .i64 f.sc, .int .i64 f.size] wx fun en w' => en = .returned (.bool true) ∧ Hid (FX w f so sk a b c d i e s w')) := fun wx hx => ((f_sayZ f.sc f.size hsz true (tt_iff (Classical.not_not.1 g0)) wx (hL.below hx.out.below))).mono fun en w' hh => ⟨hh.1, by rw [hh.2]; exact hx⟩
   have K2 : Hid (∀ wx, Hid (FX w f so sk a b c d i e s wx) → Calls Tryz.prog 125 #[.int .i64 f.rc, .int .i64 i.rate] wx fun en w' => en = .returned (.bool false) ∧ Hid (FX w f so sk a b c d i e s w')) := fun wx hx => ((f_sayR f.rc i.rate hr false (ff_iff (g1)) wx (hL.below hx.out.below))).mono fun en w' hh => ⟨hh.1, by rw [hh.2]; exact hx⟩
   clear hbb hL
   have HA : Hid (FX w f so sk a b c d i e s ((w.alloc (.cells (fmC f so sk) 41)).alloc (.cells (infC a b c d i e s) 38))) := FX.new w f so sk a b c d i e s
   go_enter Tryz.func64, Tryz.ntmps64
   go_upto_region 1 with fail
   generalize hwa : World.alloc _ _ = wa at *
   clear hwa
   obtain ⟨f0, f1, f2, f3, f4, f5, f6, f7, i0, i1, i2, i3, i4, i5, i6, i7, i8⟩ := HA.out.cells
   go_wp2_with fail
   refine (K1.out _ HA).mono ?_
   rintro en w1 ⟨rfl, HB1⟩
   clear HA f0 f1 f2 f3 f4 f5 f6 f7 i0 i1 i2 i3 i4 i5 i6 i7 i8
   obtain ⟨f0, f1, f2, f3, f4, f5, f6, f7, i0, i1, i2, i3, i4, i5, i6, i7, i8⟩ := HB1.out.cells
   go_wp2_with fail
   refine (K2.out _ HB1).mono ?_
   rintro en w2 ⟨rfl, HB2⟩
   clear HB1 f0 f1 f2 f3 f4 f5 f6 f7 i0 i1 i2 i3 i4 i5 i6 i7 i8
   obtain ⟨f0, f1, f2, f3, f4, f5, f6, f7, i0, i1, i2, i3, i4, i5, i6, i7, i8⟩ := HB2.out.cells
   go_wp2_with fail
   go_ret
   exact ⟨rfl, HB2.out.below⟩
  ·skip
   by_cases g2 : ¬ sayW f.wc i.wd
   ·rw [bb_no hbb (fun h => g2 h.2.2)]
    have K1 : Hid (∀ wx, Hid (FX w f so sk a b c d i e s wx) → Calls Tryz.prog 124 #[.int .i64 f.sc, .int .i64 f.size] wx fun en w' => en = .returned (.bool true) ∧ Hid (FX w f so sk a b c d i e s w')) := fun wx hx => ((f_sayZ f.sc f.size hsz true (tt_iff (Classical.not_not.1 g0)) wx (hL.below hx.out.below))).mono fun en w' hh => ⟨hh.1, by rw [hh.2]; exact hx⟩
    have K2 : Hid (∀ wx, Hid (FX w f so sk a b c d i e s wx) → Calls Tryz.prog 125 #[.int .i64 f.rc, .int .i64 i.rate] wx fun en w' => en = .returned (.bool true) ∧ Hid (FX w f so sk a b c d i e s w')) := fun wx hx => ((f_sayR f.rc i.rate hr true (tt_iff (Classical.not_not.1 g1)) wx (hL.below hx.out.below))).mono fun en w' hh => ⟨hh.1, by rw [hh.2]; exact hx⟩
    have K3 : Hid (∀ wx, Hid (FX w f so sk a b c d i e s wx) → Calls Tryz.prog 126 #[.int .i64 f.wc, .int .i64 i.wd] wx fun en w' => en = .returned (.bool false) ∧ Hid (FX w f so sk a b c d i e s w')) := fun wx hx => ((f_sayW f.wc i.wd hw false (ff_iff (g2)) wx (hL.below hx.out.below))).mono fun en w' hh => ⟨hh.1, by rw [hh.2]; exact hx⟩
    clear hbb hL
    have HA : Hid (FX w f so sk a b c d i e s ((w.alloc (.cells (fmC f so sk) 41)).alloc (.cells (infC a b c d i e s) 38))) := FX.new w f so sk a b c d i e s
    go_enter Tryz.func64, Tryz.ntmps64
    go_upto_region 1 with fail
    generalize hwa : World.alloc _ _ = wa at *
    clear hwa
    obtain ⟨f0, f1, f2, f3, f4, f5, f6, f7, i0, i1, i2, i3, i4, i5, i6, i7, i8⟩ := HA.out.cells
    go_wp2_with fail
    refine (K1.out _ HA).mono ?_
    rintro en w1 ⟨rfl, HB1⟩
    clear HA f0 f1 f2 f3 f4 f5 f6 f7 i0 i1 i2 i3 i4 i5 i6 i7 i8
    obtain ⟨f0, f1, f2, f3, f4, f5, f6, f7, i0, i1, i2, i3, i4, i5, i6, i7, i8⟩ := HB1.out.cells
    go_wp2_with fail
    refine (K2.out _ HB1).mono ?_
    rintro en w2 ⟨rfl, HB2⟩
    clear HB1 f0 f1 f2 f3 f4 f5 f6 f7 i0 i1 i2 i3 i4 i5 i6 i7 i8
    obtain ⟨f0, f1, f2, f3, f4, f5, f6, f7, i0, i1, i2, i3, i4, i5, i6, i7, i8⟩ := HB2.out.cells
    go_wp2_with fail
    refine (K3.out _ HB2).mono ?_
    rintro en w3 ⟨rfl, HB3⟩
    clear HB2 f0 f1 f2 f3 f4 f5 f6 f7 i0 i1 i2 i3 i4 i5 i6 i7 i8
    obtain ⟨f0, f1, f2, f3, f4, f5, f6, f7, i0, i1, i2, i3, i4, i5, i6, i7, i8⟩ := HB3.out.cells
    go_wp2_with fail
    go_ret
    exact ⟨rfl, HB3.out.below⟩
   ·skip
    rw [bb_yes hbb (⟨Classical.not_not.1 g0, Classical.not_not.1 g1, Classical.not_not.1 g2⟩)]
    have K1 : Hid (∀ wx, Hid (FX w f so sk a b c d i e s wx) → Calls Tryz.prog 124 #[.int .i64 f.sc, .int .i64 f.size] wx fun en w' => en = .returned (.bool true) ∧ Hid (FX w f so sk a b c d i e s w')) := fun wx hx => ((f_sayZ f.sc f.size hsz true (tt_iff (Classical.not_not.1 g0)) wx (hL.below hx.out.below))).mono fun en w' hh => ⟨hh.1, by rw [hh.2]; exact hx⟩
    have K2 : Hid (∀ wx, Hid (FX w f so sk a b c d i e s wx) → Calls Tryz.prog 125 #[.int .i64 f.rc, .int .i64 i.rate] wx fun en w' => en = .returned (.bool true) ∧ Hid (FX w f so sk a b c d i e s w')) := fun wx hx => ((f_sayR f.rc i.rate hr true (tt_iff (Classical.not_not.1 g1)) wx (hL.below hx.out.below))).mono fun en w' hh => ⟨hh.1, by rw [hh.2]; exact hx⟩
    have K3 : Hid (∀ wx, Hid (FX w f so sk a b c d i e s wx) → Calls Tryz.prog 126 #[.int .i64 f.wc, .int .i64 i.wd] wx fun en w' => en = .returned (.bool true) ∧ Hid (FX w f so sk a b c d i e s w')) := fun wx hx => ((f_sayW f.wc i.wd hw true (tt_iff (Classical.not_not.1 g2)) wx (hL.below hx.out.below))).mono fun en w' hh => ⟨hh.1, by rw [hh.2]; exact hx⟩
    clear hbb hL
    have HA : Hid (FX w f so sk a b c d i e s ((w.alloc (.cells (fmC f so sk) 41)).alloc (.cells (infC a b c d i e s) 38))) := FX.new w f so sk a b c d i e s
    go_enter Tryz.func64, Tryz.ntmps64
    go_upto_region 1 with fail
    generalize hwa : World.alloc _ _ = wa at *
    clear hwa
    obtain ⟨f0, f1, f2, f3, f4, f5, f6, f7, i0, i1, i2, i3, i4, i5, i6, i7, i8⟩ := HA.out.cells
    go_wp2_with fail
    refine (K1.out _ HA).mono ?_
    rintro en w1 ⟨rfl, HB1⟩
    clear HA f0 f1 f2 f3 f4 f5 f6 f7 i0 i1 i2 i3 i4 i5 i6 i7 i8
    obtain ⟨f0, f1, f2, f3, f4, f5, f6, f7, i0, i1, i2, i3, i4, i5, i6, i7, i8⟩ := HB1.out.cells
    go_wp2_with fail
    refine (K2.out _ HB1).mono ?_
    rintro en w2 ⟨rfl, HB2⟩
    clear HB1 f0 f1 f2 f3 f4 f5 f6 f7 i0 i1 i2 i3 i4 i5 i6 i7 i8
    obtain ⟨f0, f1, f2, f3, f4, f5, f6, f7, i0, i1, i2, i3, i4, i5, i6, i7, i8⟩ := HB2.out.cells
    go_wp2_with fail
    refine (K3.out _ HB2).mono ?_
    rintro en w3 ⟨rfl, HB3⟩
    clear HB2 f0 f1 f2 f3 f4 f5 f6 f7 i0 i1 i2 i3 i4 i5 i6 i7 i8
    obtain ⟨f0, f1, f2, f3, f4, f5, f6, f7, i0, i1, i2, i3, i4, i5, i6, i7, i8⟩ := HB3.out.cells
    go_wp2_with fail
    go_ret
    exact ⟨rfl, HB3.out.below⟩
def difN (m : Int) : Int := if m = 1 then 1 else if m = 3 then 1 else if m = 2 then 0 else -1
theorem f_dif (m : Int) (w : World) : Calls Tryz.prog 155 #[.int .i64 m] w fun en w' => en = .returned (.int .i64 (difN m)) ∧ w' = w := by
 by_cases g1 : m = 1
 ·have HV : Hid (difN m = 1) := by show _ = _; unfold difN; rw [if_pos g1]
  rw [HV.out]
  clear HV
  have hk1 : (m == 1) = true := by rw [beq_iff_eq]; omega
  have hk3 : (m == 3) = false := by rw [beq_eq_false_iff_ne]; omega
  have hk2 : (m == 2) = false := by rw [beq_eq_false_iff_ne]; omega
  go_enter Tryz.func155, Tryz.ntmps155
  go_wp2_with fail
  go_ret
  exact ⟨rfl, rfl⟩
 ·skip
  by_cases g3 : m = 3
  ·have HV : Hid (difN m = 1) := by show _ = _; unfold difN; rw [if_neg g1, if_pos g3]
   rw [HV.out]
   clear HV
   have hk1 : (m == 1) = false := by rw [beq_eq_false_iff_ne]; omega
   have hk3 : (m == 3) = true := by rw [beq_iff_eq]; omega
   have hk2 : (m == 2) = false := by rw [beq_eq_false_iff_ne]; omega
   go_enter Tryz.func155, Tryz.ntmps155
   go_wp2_with fail
   go_ret
   exact ⟨rfl, rfl⟩
  ·skip
   by_cases g2 : m = 2
   ·have HV : Hid (difN m = 0) := by show _ = _; unfold difN; rw [if_neg g1, if_neg g3, if_pos g2]
    rw [HV.out]
    clear HV
    have hk1 : (m == 1) = false := by rw [beq_eq_false_iff_ne]; omega
    have hk3 : (m == 3) = false := by rw [beq_eq_false_iff_ne]; omega
    have hk2 : (m == 2) = true := by rw [beq_iff_eq]; omega
    go_enter Tryz.func155, Tryz.ntmps155
    go_wp2_with fail
    go_ret
    exact ⟨rfl, rfl⟩
   ·skip
    have HV : Hid (difN m = -1) := by show _ = _; unfold difN; rw [if_neg g1, if_neg g3, if_neg g2]
    rw [HV.out]
    clear HV
    have hk1 : (m == 1) = false := by rw [beq_eq_false_iff_ne]; omega
    have hk3 : (m == 3) = false := by rw [beq_eq_false_iff_ne]; omega
    have hk2 : (m == 2) = false := by rw [beq_eq_false_iff_ne]; omega
    go_enter Tryz.func155, Tryz.ntmps155
    go_wp2_with fail
    go_ret
    exact ⟨rfl, rfl⟩
theorem wdA_dif (i : Inf) (m : Int) (c : Nat) : wdA i m c = if (c : Int) = difN m then i.wd + 1 else i.wd := by
 unfold wdA difN
 by_cases g1 : m = 1
 ·rw [if_pos g1]
  by_cases h : c = 1
  ·rw [if_pos (.inl ⟨h, .inl g1⟩), if_pos (by omega)]
  ·rw [if_neg (by omega), if_neg (by omega)]
 ·by_cases g3 : m = 3
  ·rw [if_neg g1, if_pos g3]
   by_cases h : c = 1
   ·rw [if_pos (.inl ⟨h, .inr g3⟩), if_pos (by omega)]
   ·rw [if_neg (by omega), if_neg (by omega)]
  ·by_cases g2 : m = 2
   ·rw [if_neg g1, if_neg g3, if_pos g2]
    by_cases h : c = 0
    ·rw [if_pos (.inr ⟨h, g2⟩), if_pos (by omega)]
    ·rw [if_neg (by omega), if_neg (by omega)]
   ·rw [if_neg g1, if_neg g3, if_neg g2, if_neg (by omega), if_neg (by omega)]
theorem f_subW (i : Inf) (m : Int) (c : Nat) (hw : 4 ≤ i.wd ∧ i.wd ≤ 24) (w : World) : Calls Tryz.prog 105 #[.int .i64 m, .int .i64 (c : Int), .int .i64 i.wd] w fun en w' => en = .returned (.int .i64 (wdA i m c)) ∧ w' = w := by
 have kd := f_dif m
 rw [wdA_dif]
 by_cases g : (c : Int) = difN m
 ·rw [if_pos g]
  have hk : ((c : Int) == difN m) = true := by rw [beq_iff_eq]; exact g
  clear g
  generalize difN m = q at *
  go_enter Tryz.func105, Tryz.ntmps105
  go_wp2_with fail
  refine (kd _).mono ?_
  rintro e wc0 ⟨rfl, hwc0⟩
  subst hwc0
  go_wp2_with fail
  go_ret
  exact ⟨by first | rfl | go_num | simp, rfl⟩
 ·rw [if_neg g]
  have hk : ((c : Int) == difN m) = false := by rw [beq_eq_false_iff_ne]; exact g
  clear g
  generalize difN m = q at *
  go_enter Tryz.func105, Tryz.ntmps105
  go_wp2_with fail
  refine (kd _).mono ?_
  rintro e wc0 ⟨rfl, hwc0⟩
  subst hwc0
  go_wp2_with fail
  go_ret
  exact ⟨rfl, rfl⟩
end Go.Proofs.YthgpleelpeacjaaGreatDoor
