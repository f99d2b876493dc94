/- Own text. -/
import Derived.Test.YthgpleelpeacjaaGreatDoorF14
set_option linter.unusedSimpArgs false
set_option linter.unusedVariables false
set_option maxRecDepth 20000
set_option maxHeartbeats 12800000
namespace Go.Proofs.YthgpleelpeacjaaGreatDoor
open Go.RowKit
theorem s_may (q : Sb) (ca : Option Addr) (cc : Nat) (pa : Option Addr) (pc : Nat) (ea : Option Addr) (ec : Nat) (b : Int) (bb : Bool) (hbb : bb = true ↔ (kdA q ∨ kdF q b ∨ kdL q b)) (w : World) (hq : SbAt w q ca pa ea) : Calls Tryz.prog 128 #[subV q ca cc pa pc ea ec, .int .i64 b] w fun e w' => e = .returned (.bool bb) ∧ Below w.heap.size w w' := by
 by_cases k0 : q.k = 0
 ·skip
  by_cases g0 : ¬ q.o = 0
  ·rw [bb_no hbb (fun h => by have h2 : kdA q := (h.elim id (fun h => by rcases h with h | h <;> (have := h.1; omega))); exact g0 h2.2.2.1)]
   clear hbb
   have hk0 : (q.k == 0) = true := by rw [beq_iff_eq]; omega
   have hk1 : (q.k == 1) = false := by rw [beq_eq_false_iff_ne]; omega
   have hk2 : (q.k == 2) = false := by rw [beq_eq_false_iff_ne]; omega
   have hk3 : (q.k == 3) = false := by rw [beq_eq_false_iff_ne]; omega
   have hbo : (q.o == 0) = false := by rw [beq_eq_false_iff_ne]; omega
   clear hq
   have HA : Hid (SX w q ca cc pa pc ea ec (w.alloc (.cells (subC q ca cc pa pc ea ec) 27))) := SX.new w q ca cc pa pc ea ec
   go_enter Tryz.func128, Tryz.ntmps128
   go_upto_region 1 with fail
   generalize hwa : World.alloc _ _ = wa at *
   clear hwa
   obtain ⟨x0, x1, x2, x3, x4, x5, x6, x7, x8, x9⟩ := sub_cells HA.out.box
   go_wp2_with fail
   go_ret
   exact ⟨rfl, HA.out.below⟩
  ·skip
   by_cases g1 : ¬ bareOk q
   ·rw [bb_no hbb (fun h => by have h2 : kdA q := (h.elim id (fun h => by rcases h with h | h <;> (have := h.1; omega))); exact g1 h2.2.1)]
    clear hbb
    have hk0 : (q.k == 0) = true := by rw [beq_iff_eq]; omega
    have hk1 : (q.k == 1) = false := by rw [beq_eq_false_iff_ne]; omega
    have hk2 : (q.k == 2) = false := by rw [beq_eq_false_iff_ne]; omega
    have hk3 : (q.k == 3) = false := by rw [beq_eq_false_iff_ne]; omega
    have hbo : (q.o == 0) = true := by rw [beq_iff_eq]; omega
    have K1 : Hid (∀ wx a, a = subV q ca cc pa pc ea ec → Below w.heap.size w wx → Calls Tryz.prog 170 #[a] wx fun e w' => e = .returned (.bool false) ∧ Below wx.heap.size wx w') := fun wx a ha hb => by rw [ha]; exact s_noCoefs q ca cc pa pc ea ec false (ff_iff g1) wx hq.C.len
    clear hq
    have HA : Hid (SX w q ca cc pa pc ea ec (w.alloc (.cells (subC q ca cc pa pc ea ec) 27))) := SX.new w q ca cc pa pc ea ec
    go_enter Tryz.func128, Tryz.ntmps128
    go_upto_region 1 with fail
    generalize hwa : World.alloc _ _ = wa at *
    clear hwa
    obtain ⟨x0, x1, x2, x3, x4, x5, x6, x7, x8, x9⟩ := sub_cells HA.out.box
    go_wp2_with fail
    refine (K1.out _ _ (by simp [k0, Classical.not_not.1 g0]) HA.out.below).mono ?_
    rintro e wx_HA0 ⟨rfl, hb⟩
    have HA0 : Hid (SX w q ca cc pa pc ea ec wx_HA0) := HA.out.next hb
    clear hb HA x0 x1 x2 x3 x4 x5 x6 x7 x8 x9
    obtain ⟨x0, x1, x2, x3, x4, x5, x6, x7, x8, x9⟩ := sub_cells HA0.out.box
    go_wp2_with fail
    go_ret
    exact ⟨rfl, HA0.out.below⟩
   ·skip
    by_cases g2 : ¬ q.R = ⟨0, 0, [], []⟩
    ·rw [bb_no hbb (fun h => by have h2 : kdA q := (h.elim id (fun h => by rcases h with h | h <;> (have := h.1; omega))); exact g2 h2.2.2.2)]
     clear hbb
     have hk0 : (q.k == 0) = true := by rw [beq_iff_eq]; omega
     have hk1 : (q.k == 1) = false := by rw [beq_eq_false_iff_ne]; omega
     have hk2 : (q.k == 2) = false := by rw [beq_eq_false_iff_ne]; omega
     have hk3 : (q.k == 3) = false := by rw [beq_eq_false_iff_ne]; omega
     have hbo : (q.o == 0) = true := by rw [beq_iff_eq]; omega
     have K1 : Hid (∀ wx a, a = subV q ca cc pa pc ea ec → Below w.heap.size w wx → Calls Tryz.prog 170 #[a] wx fun e w' => e = .returned (.bool true) ∧ Below wx.heap.size wx w') := fun wx a ha hb => by rw [ha]; exact s_noCoefs q ca cc pa pc ea ec true (tt_iff (Classical.not_not.1 g1)) wx hq.C.len
     have K2 : Hid (∀ wx a, a = subV q ca cc pa pc ea ec → Below w.heap.size w wx → Calls Tryz.prog 171 #[a] wx fun e w' => e = .returned (.bool false) ∧ Below wx.heap.size wx w') := fun wx a ha hb => by rw [ha]; exact s_noRice q ca cc pa pc ea ec false (ff_iff g2) wx hq.R.P.len hq.R.E.len
     clear hq
     have HA : Hid (SX w q ca cc pa pc ea ec (w.alloc (.cells (subC q ca cc pa pc ea ec) 27))) := SX.new w q ca cc pa pc ea ec
     go_enter Tryz.func128, Tryz.ntmps128
     go_upto_region 1 with fail
     generalize hwa : World.alloc _ _ = wa at *
     clear hwa
     obtain ⟨x0, x1, x2, x3, x4, x5, x6, x7, x8, x9⟩ := sub_cells HA.out.box
     go_wp2_with fail
     refine (K1.out _ _ (by simp [k0, Classical.not_not.1 g0]) HA.out.below).mono ?_
     rintro e wx_HA0 ⟨rfl, hb⟩
     have HA0 : Hid (SX w q ca cc pa pc ea ec wx_HA0) := HA.out.next hb
     clear hb HA x0 x1 x2 x3 x4 x5 x6 x7 x8 x9
     obtain ⟨x0, x1, x2, x3, x4, x5, x6, x7, x8, x9⟩ := sub_cells HA0.out.box
     go_wp2_with fail
     refine (K2.out _ _ (by simp [k0, Classical.not_not.1 g0]) HA0.out.below).mono ?_
     rintro e wx_HA1 ⟨rfl, hb⟩
     have HA1 : Hid (SX w q ca cc pa pc ea ec wx_HA1) := HA0.out.next hb
     clear hb HA0 x0 x1 x2 x3 x4 x5 x6 x7 x8 x9
     obtain ⟨x0, x1, x2, x3, x4, x5, x6, x7, x8, x9⟩ := sub_cells HA1.out.box
     go_wp2_with fail
     go_ret
     exact ⟨rfl, HA1.out.below⟩
    ·skip
     rw [bb_yes hbb (.inl ⟨by omega, Classical.not_not.1 g1, by omega, Classical.not_not.1 g2⟩)]
     clear hbb
     have hk0 : (q.k == 0) = true := by rw [beq_iff_eq]; omega
     have hk1 : (q.k == 1) = false := by rw [beq_eq_false_iff_ne]; omega
     have hk2 : (q.k == 2) = false := by rw [beq_eq_false_iff_ne]; omega
     have hk3 : (q.k == 3) = false := by rw [beq_eq_false_iff_ne]; omega
     have hbo : (q.o == 0) = true := by rw [beq_iff_eq]; omega
     have K1 : Hid (∀ wx a, a = subV q ca cc pa pc ea ec → Below w.heap.size w wx → Calls Tryz.prog 170 #[a] wx fun e w' => e = .returned (.bool true) ∧ Below wx.heap.size wx w') := fun wx a ha hb => by rw [ha]; exact s_noCoefs q ca cc pa pc ea ec true (tt_iff (Classical.not_not.1 g1)) wx hq.C.len
     have K2 : Hid (∀ wx a, a = subV q ca cc pa pc ea ec → Below w.heap.size w wx → Calls Tryz.prog 171 #[a] wx fun e w' => e = .returned (.bool true) ∧ Below wx.heap.size wx w') := fun wx a ha hb => by rw [ha]; exact s_noRice q ca cc pa pc ea ec true (tt_iff (Classical.not_not.1 g2)) wx hq.R.P.len hq.R.E.len
     clear hq
     have HA : Hid (SX w q ca cc pa pc ea ec (w.alloc (.cells (subC q ca cc pa pc ea ec) 27))) := SX.new w q ca cc pa pc ea ec
     go_enter Tryz.func128, Tryz.ntmps128
     go_upto_region 1 with fail
     generalize hwa : World.alloc _ _ = wa at *
     clear hwa
     obtain ⟨x0, x1, x2, x3, x4, x5, x6, x7, x8, x9⟩ := sub_cells HA.out.box
     go_wp2_with fail
     refine (K1.out _ _ (by simp [k0, Classical.not_not.1 g0]) HA.out.below).mono ?_
     rintro e wx_HA0 ⟨rfl, hb⟩
     have HA0 : Hid (SX w q ca cc pa pc ea ec wx_HA0) := HA.out.next hb
     clear hb HA x0 x1 x2 x3 x4 x5 x6 x7 x8 x9
     obtain ⟨x0, x1, x2, x3, x4, x5, x6, x7, x8, x9⟩ := sub_cells HA0.out.box
     go_wp2_with fail
     refine (K2.out _ _ (by simp [k0, Classical.not_not.1 g0]) HA0.out.below).mono ?_
     rintro e wx_HA1 ⟨rfl, hb⟩
     have HA1 : Hid (SX w q ca cc pa pc ea ec wx_HA1) := HA0.out.next hb
     clear hb HA0 x0 x1 x2 x3 x4 x5 x6 x7 x8 x9
     obtain ⟨x0, x1, x2, x3, x4, x5, x6, x7, x8, x9⟩ := sub_cells HA1.out.box
     go_wp2_with fail
     go_ret
     exact ⟨rfl, HA1.out.below⟩
 by_cases k1 : q.k = 1
 ·skip
  by_cases g0 : ¬ q.o = 0
  ·rw [bb_no hbb (fun h => by have h2 : kdA q := (h.elim id (fun h => by rcases h with h | h <;> (have := h.1; omega))); exact g0 h2.2.2.1)]
   clear hbb
   have hk0 : (q.k == 0) = false := by rw [beq_eq_false_iff_ne]; omega
   have hk1 : (q.k == 1) = true := by rw [beq_iff_eq]; omega
   have hk2 : (q.k == 2) = false := by rw [beq_eq_false_iff_ne]; omega
   have hk3 : (q.k == 3) = false := by rw [beq_eq_false_iff_ne]; omega
   have hbo : (q.o == 0) = false := by rw [beq_eq_false_iff_ne]; omega
   clear hq
   have HA : Hid (SX w q ca cc pa pc ea ec (w.alloc (.cells (subC q ca cc pa pc ea ec) 27))) := SX.new w q ca cc pa pc ea ec
   go_enter Tryz.func128, Tryz.ntmps128
   go_upto_region 1 with fail
   generalize hwa : World.alloc _ _ = wa at *
   clear hwa
   obtain ⟨x0, x1, x2, x3, x4, x5, x6, x7, x8, x9⟩ := sub_cells HA.out.box
   go_wp2_with fail
   go_ret
   exact ⟨rfl, HA.out.below⟩
  ·skip
   by_cases g1 : ¬ bareOk q
   ·rw [bb_no hbb (fun h => by have h2 : kdA q := (h.elim id (fun h => by rcases h with h | h <;> (have := h.1; omega))); exact g1 h2.2.1)]
    clear hbb
    have hk0 : (q.k == 0) = false := by rw [beq_eq_false_iff_ne]; omega
    have hk1 : (q.k == 1) = true := by rw [beq_iff_eq]; omega
    have hk2 : (q.k == 2) = false := by rw [beq_eq_false_iff_ne]; omega
    have hk3 : (q.k == 3) = false := by rw [beq_eq_false_iff_ne]; omega
    have hbo : (q.o == 0) = true := by rw [beq_iff_eq]; omega
    have K1 : Hid (∀ wx a, a = subV q ca cc pa pc ea ec → Below w.heap.size w wx → Calls Tryz.prog 170 #[a] wx fun e w' => e = .returned (.bool false) ∧ Below wx.heap.size wx w') := fun wx a ha hb => by rw [ha]; exact s_noCoefs q ca cc pa pc ea ec false (ff_iff g1) wx hq.C.len
    clear hq
    have HA : Hid (SX w q ca cc pa pc ea ec (w.alloc (.cells (subC q ca cc pa pc ea ec) 27))) := SX.new w q ca cc pa pc ea ec
    go_enter Tryz.func128, Tryz.ntmps128
    go_upto_region 1 with fail
    generalize hwa : World.alloc _ _ = wa at *
    clear hwa
    obtain ⟨x0, x1, x2, x3, x4, x5, x6, x7, x8, x9⟩ := sub_cells HA.out.box
    go_wp2_with fail
    refine (K1.out _ _ (by simp [k1, Classical.not_not.1 g0]) HA.out.below).mono ?_
    rintro e wx_HA0 ⟨rfl, hb⟩
    have HA0 : Hid (SX w q ca cc pa pc ea ec wx_HA0) := HA.out.next hb
    clear hb HA x0 x1 x2 x3 x4 x5 x6 x7 x8 x9
    obtain ⟨x0, x1, x2, x3, x4, x5, x6, x7, x8, x9⟩ := sub_cells HA0.out.box
    go_wp2_with fail
    go_ret
    exact ⟨rfl, HA0.out.below⟩
   ·skip
    by_cases g2 : ¬ q.R = ⟨0, 0, [], []⟩
    ·rw [bb_no hbb (fun h => by have h2 : kdA q := (h.elim id (fun h => by rcases h with h | h <;> (have := h.1; omega))); exact g2 h2.2.2.2)]
     clear hbb
     have hk0 : (q.k == 0) = false := by rw [beq_eq_false_iff_ne]; omega
     have hk1 : (q.k == 1) = true := by rw [beq_iff_eq]; omega
     have hk2 : (q.k == 2) = false := by rw [beq_eq_false_iff_ne]; omega
     have hk3 : (q.k == 3) = false := by rw [beq_eq_false_iff_ne]; omega
     have hbo : (q.o == 0) = true := by rw [beq_iff_eq]; omega
     have K1 : Hid (∀ wx a, a = subV q ca cc pa pc ea ec → Below w.heap.size w wx → Calls Tryz.prog 170 #[a] wx fun e w' => e = .returned (.bool true) ∧ Below wx.heap.size wx w') := fun wx a ha hb => by rw [ha]; exact s_noCoefs q ca cc pa pc ea ec true (tt_iff (Classical.not_not.1 g1)) wx hq.C.len
     have K2 : Hid (∀ wx a, a = subV q ca cc pa pc ea ec → Below w.heap.size w wx → Calls Tryz.prog 171 #[a] wx fun e w' => e = .returned (.bool false) ∧ Below wx.heap.size wx w') := fun wx a ha hb => by rw [ha]; exact s_noRice q ca cc pa pc ea ec false (ff_iff g2) wx hq.R.P.len hq.R.E.len
     clear hq
     have HA : Hid (SX w q ca cc pa pc ea ec (w.alloc (.cells (subC q ca cc pa pc ea ec) 27))) := SX.new w q ca cc pa pc ea ec
     go_enter Tryz.func128, Tryz.ntmps128
     go_upto_region 1 with fail
     generalize hwa : World.alloc _ _ = wa at *
     clear hwa
     obtain ⟨x0, x1, x2, x3, x4, x5, x6, x7, x8, x9⟩ := sub_cells HA.out.box
     go_wp2_with fail
     refine (K1.out _ _ (by simp [k1, Classical.not_not.1 g0]) HA.out.below).mono ?_
     rintro e wx_HA0 ⟨rfl, hb⟩
     have HA0 : Hid (SX w q ca cc pa pc ea ec wx_HA0) := HA.out.next hb
     clear hb HA x0 x1 x2 x3 x4 x5 x6 x7 x8 x9
     obtain ⟨x0, x1, x2, x3, x4, x5, x6, x7, x8, x9⟩ := sub_cells HA0.out.box
     go_wp2_with fail
     refine (K2.out _ _ (by simp [k1, Classical.not_not.1 g0]) HA0.out.below).mono ?_
     rintro e wx_HA1 ⟨rfl, hb⟩
     have HA1 : Hid (SX w q ca cc pa pc ea ec wx_HA1) := HA0.out.next hb
     clear hb HA0 x0 x1 x2 x3 x4 x5 x6 x7 x8 x9
     obtain ⟨x0, x1, x2, x3, x4, x5, x6, x7, x8, x9⟩ := sub_cells HA1.out.box
     go_wp2_with fail
     go_ret
     exact ⟨rfl, HA1.out.below⟩
    ·skip
     rw [bb_yes hbb (.inl ⟨by omega, Classical.not_not.1 g1, by omega, Classical.not_not.1 g2⟩)]
     clear hbb
     have hk0 : (q.k == 0) = false := by rw [beq_eq_false_iff_ne]; omega
     have hk1 : (q.k == 1) = true := by rw [beq_iff_eq]; omega
     have hk2 : (q.k == 2) = false := by rw [beq_eq_false_iff_ne]; omega
     have hk3 : (q.k == 3) = false := by rw [beq_eq_false_iff_ne]; omega
     have hbo : (q.o == 0) = true := by rw [beq_iff_eq]; omega
     have K1 : Hid (∀ wx a, a = subV q ca cc pa pc ea ec → Below w.heap.size w wx → Calls Tryz.prog 170 #[a] wx fun e w' => e = .returned (.bool true) ∧ Below wx.heap.size wx w') := fun wx a ha hb => by rw [ha]; exact s_noCoefs q ca cc pa pc ea ec true (tt_iff (Classical.not_not.1 g1)) wx hq.C.len
     have K2 : Hid (∀ wx a, a = subV q ca cc pa pc ea ec → Below w.heap.size w wx → Calls Tryz.prog 171 #[a] wx fun e w' => e = .returned (.bool true) ∧ Below wx.heap.size wx w') := fun wx a ha hb => by rw [ha]; exact s_noRice q ca cc pa pc ea ec true (tt_iff (Classical.not_not.1 g2)) wx hq.R.P.len hq.R.E.len
     clear hq
     have HA : Hid (SX w q ca cc pa pc ea ec (w.alloc (.cells (subC q ca cc pa pc ea ec) 27))) := SX.new w q ca cc pa pc ea ec
     go_enter Tryz.func128, Tryz.ntmps128
     go_upto_region 1 with fail
     generalize hwa : World.alloc _ _ = wa at *
     clear hwa
     obtain ⟨x0, x1, x2, x3, x4, x5, x6, x7, x8, x9⟩ := sub_cells HA.out.box
     go_wp2_with fail
     refine (K1.out _ _ (by simp [k1, Classical.not_not.1 g0]) HA.out.below).mono ?_
     rintro e wx_HA0 ⟨rfl, hb⟩
     have HA0 : Hid (SX w q ca cc pa pc ea ec wx_HA0) := HA.out.next hb
     clear hb HA x0 x1 x2 x3 x4 x5 x6 x7 x8 x9
     obtain ⟨x0, x1, x2, x3, x4, x5, x6, x7, x8, x9⟩ := sub_cells HA0.out.box
     go_wp2_with fail
     refine (K2.out _ _ (by simp [k1, Classical.not_not.1 g0]) HA0.out.below).mono ?_
     rintro e wx_HA1 ⟨rfl, hb⟩
     have HA1 : Hid (SX w q ca cc pa pc ea ec wx_HA1) := HA0.out.next hb
     clear hb HA0 x0 x1 x2 x3 x4 x5 x6 x7 x8 x9
     obtain ⟨x0, x1, x2, x3, x4, x5, x6, x7, x8, x9⟩ := sub_cells HA1.out.box
     go_wp2_with fail
     go_ret
     exact ⟨rfl, HA1.out.below⟩
 by_cases k2 : q.k = 2
 ·skip
  by_cases g0 : ¬ ordOk q.k q.o b
  ·rw [bb_no hbb (fun h => by have h2 : kdF q b := (h.elim (fun h => by have := h.1; omega) (fun h => h.elim id (fun h => by have := h.1; omega))); exact g0 (by have := h2.2.2; omega))]
   clear hbb
   have hk0 : (q.k == 0) = false := by rw [beq_eq_false_iff_ne]; omega
   have hk1 : (q.k == 1) = false := by rw [beq_eq_false_iff_ne]; omega
   have hk2 : (q.k == 2) = true := by rw [beq_iff_eq]; omega
   have hk3 : (q.k == 3) = false := by rw [beq_eq_false_iff_ne]; omega
   have K0 : Hid (∀ wx a, a = subV q ca cc pa pc ea ec → Below w.heap.size w wx → Calls Tryz.prog 172 #[a, .int .i64 b] wx fun e w' => e = .returned (.bool false) ∧ Below wx.heap.size wx w') := fun wx a ha hb => by rw [ha]; exact s_order q ca cc pa pc ea ec b false (ff_iff g0) wx
   clear hq
   have HA : Hid (SX w q ca cc pa pc ea ec (w.alloc (.cells (subC q ca cc pa pc ea ec) 27))) := SX.new w q ca cc pa pc ea ec
   go_enter Tryz.func128, Tryz.ntmps128
   go_upto_region 1 with fail
   generalize hwa : World.alloc _ _ = wa at *
   clear hwa
   obtain ⟨x0, x1, x2, x3, x4, x5, x6, x7, x8, x9⟩ := sub_cells HA.out.box
   go_wp2_with fail
   refine (K0.out _ _ (by simp [k2]) HA.out.below).mono ?_
   rintro e wx_HA0 ⟨rfl, hb⟩
   have HA0 : Hid (SX w q ca cc pa pc ea ec wx_HA0) := HA.out.next hb
   clear hb HA x0 x1 x2 x3 x4 x5 x6 x7 x8 x9
   obtain ⟨x0, x1, x2, x3, x4, x5, x6, x7, x8, x9⟩ := sub_cells HA0.out.box
   go_wp2_with fail
   go_ret
   exact ⟨rfl, HA0.out.below⟩
  ·skip
   by_cases g1 : ¬ bareOk q
   ·rw [bb_no hbb (fun h => by have h2 : kdF q b := (h.elim (fun h => by have := h.1; omega) (fun h => h.elim id (fun h => by have := h.1; omega))); exact g1 h2.2.1)]
    clear hbb
    have hk0 : (q.k == 0) = false := by rw [beq_eq_false_iff_ne]; omega
    have hk1 : (q.k == 1) = false := by rw [beq_eq_false_iff_ne]; omega
    have hk2 : (q.k == 2) = true := by rw [beq_iff_eq]; omega
    have hk3 : (q.k == 3) = false := by rw [beq_eq_false_iff_ne]; omega
    have K0 : Hid (∀ wx a, a = subV q ca cc pa pc ea ec → Below w.heap.size w wx → Calls Tryz.prog 172 #[a, .int .i64 b] wx fun e w' => e = .returned (.bool true) ∧ Below wx.heap.size wx w') := fun wx a ha hb => by rw [ha]; exact s_order q ca cc pa pc ea ec b true (tt_iff (Classical.not_not.1 g0)) wx
    have K1 : Hid (∀ wx a, a = subV q ca cc pa pc ea ec → Below w.heap.size w wx → Calls Tryz.prog 170 #[a] wx fun e w' => e = .returned (.bool false) ∧ Below wx.heap.size wx w') := fun wx a ha hb => by rw [ha]; exact s_noCoefs q ca cc pa pc ea ec false (ff_iff g1) wx hq.C.len
    clear hq
    have HA : Hid (SX w q ca cc pa pc ea ec (w.alloc (.cells (subC q ca cc pa pc ea ec) 27))) := SX.new w q ca cc pa pc ea ec
    go_enter Tryz.func128, Tryz.ntmps128
    go_upto_region 1 with fail
    generalize hwa : World.alloc _ _ = wa at *
    clear hwa
    obtain ⟨x0, x1, x2, x3, x4, x5, x6, x7, x8, x9⟩ := sub_cells HA.out.box
    go_wp2_with fail
    refine (K0.out _ _ (by simp [k2]) HA.out.below).mono ?_
    rintro e wx_HA0 ⟨rfl, hb⟩
    have HA0 : Hid (SX w q ca cc pa pc ea ec wx_HA0) := HA.out.next hb
    clear hb HA x0 x1 x2 x3 x4 x5 x6 x7 x8 x9
    obtain ⟨x0, x1, x2, x3, x4, x5, x6, x7, x8, x9⟩ := sub_cells HA0.out.box
    go_wp2_with fail
    refine (K1.out _ _ (by simp [k2]) HA0.out.below).mono ?_
    rintro e wx_HA1 ⟨rfl, hb⟩
    have HA1 : Hid (SX w q ca cc pa pc ea ec wx_HA1) := HA0.out.next hb
    clear hb HA0 x0 x1 x2 x3 x4 x5 x6 x7 x8 x9
    obtain ⟨x0, x1, x2, x3, x4, x5, x6, x7, x8, x9⟩ := sub_cells HA1.out.box
    go_wp2_with fail
    go_ret
    exact ⟨rfl, HA1.out.below⟩
   ·skip
    by_cases g2 : ¬ chkOk q.R b q.o
    ·rw [bb_no hbb (fun h => by have h2 : kdF q b := (h.elim (fun h => by have := h.1; omega) (fun h => h.elim id (fun h => by have := h.1; omega))); exact g2 h2.2.2.2.2.2)]
     clear hbb
     have hk0 : (q.k == 0) = false := by rw [beq_eq_false_iff_ne]; omega
     have hk1 : (q.k == 1) = false := by rw [beq_eq_false_iff_ne]; omega
     have hk2 : (q.k == 2) = true := by rw [beq_iff_eq]; omega
     have hk3 : (q.k == 3) = false := by rw [beq_eq_false_iff_ne]; omega
     have K0 : Hid (∀ wx a, a = subV q ca cc pa pc ea ec → Below w.heap.size w wx → Calls Tryz.prog 172 #[a, .int .i64 b] wx fun e w' => e = .returned (.bool true) ∧ Below wx.heap.size wx w') := fun wx a ha hb => by rw [ha]; exact s_order q ca cc pa pc ea ec b true (tt_iff (Classical.not_not.1 g0)) wx
     have K1 : Hid (∀ wx a, a = subV q ca cc pa pc ea ec → Below w.heap.size w wx → Calls Tryz.prog 170 #[a] wx fun e w' => e = .returned (.bool true) ∧ Below wx.heap.size wx w') := fun wx a ha hb => by rw [ha]; exact s_noCoefs q ca cc pa pc ea ec true (tt_iff (Classical.not_not.1 g1)) wx hq.C.len
     have K2 : Hid (∀ wx a, a = subV q ca cc pa pc ea ec → Below w.heap.size w wx → Calls Tryz.prog 173 #[a, .int .i64 b] wx fun e w' => e = .returned (.bool false) ∧ Below wx.heap.size wx w') := fun wx a ha hb => by rw [ha]; exact s_rice q ca cc pa pc ea ec b false (ff_iff g2) wx (hq.R.below hb)
     clear hq
     have HA : Hid (SX w q ca cc pa pc ea ec (w.alloc (.cells (subC q ca cc pa pc ea ec) 27))) := SX.new w q ca cc pa pc ea ec
     go_enter Tryz.func128, Tryz.ntmps128
     go_upto_region 1 with fail
     generalize hwa : World.alloc _ _ = wa at *
     clear hwa
     obtain ⟨x0, x1, x2, x3, x4, x5, x6, x7, x8, x9⟩ := sub_cells HA.out.box
     go_wp2_with fail
     refine (K0.out _ _ (by simp [k2]) HA.out.below).mono ?_
     rintro e wx_HA0 ⟨rfl, hb⟩
     have HA0 : Hid (SX w q ca cc pa pc ea ec wx_HA0) := HA.out.next hb
     clear hb HA x0 x1 x2 x3 x4 x5 x6 x7 x8 x9
     obtain ⟨x0, x1, x2, x3, x4, x5, x6, x7, x8, x9⟩ := sub_cells HA0.out.box
     go_wp2_with fail
     refine (K1.out _ _ (by simp [k2]) HA0.out.below).mono ?_
     rintro e wx_HA1 ⟨rfl, hb⟩
     have HA1 : Hid (SX w q ca cc pa pc ea ec wx_HA1) := HA0.out.next hb
     clear hb HA0 x0 x1 x2 x3 x4 x5 x6 x7 x8 x9
     obtain ⟨x0, x1, x2, x3, x4, x5, x6, x7, x8, x9⟩ := sub_cells HA1.out.box
     go_wp2_with fail
     refine (K2.out _ _ (by simp [k2]) HA1.out.below).mono ?_
     rintro e wx_HA2 ⟨rfl, hb⟩
     have HA2 : Hid (SX w q ca cc pa pc ea ec wx_HA2) := HA1.out.next hb
     clear hb HA1 x0 x1 x2 x3 x4 x5 x6 x7 x8 x9
     obtain ⟨x0, x1, x2, x3, x4, x5, x6, x7, x8, x9⟩ := sub_cells HA2.out.box
     go_wp2_with fail
     go_ret
     exact ⟨rfl, HA2.out.below⟩
    ·skip
     rw [bb_yes hbb (by have h3 := Classical.not_not.1 g0; exact .inr (.inl ⟨by omega, Classical.not_not.1 g1, by omega, by omega, by omega, Classical.not_not.1 g2⟩))]
     clear hbb
     have hk0 : (q.k == 0) = false := by rw [beq_eq_false_iff_ne]; omega
     have hk1 : (q.k == 1) = false := by rw [beq_eq_false_iff_ne]; omega
     have hk2 : (q.k == 2) = true := by rw [beq_iff_eq]; omega
     have hk3 : (q.k == 3) = false := by rw [beq_eq_false_iff_ne]; omega
     have K0 : Hid (∀ wx a, a = subV q ca cc pa pc ea ec → Below w.heap.size w wx → Calls Tryz.prog 172 #[a, .int .i64 b] wx fun e w' => e = .returned (.bool true) ∧ Below wx.heap.size wx w') := fun wx a ha hb => by rw [ha]; exact s_order q ca cc pa pc ea ec b true (tt_iff (Classical.not_not.1 g0)) wx
     have K1 : Hid (∀ wx a, a = subV q ca cc pa pc ea ec → Below w.heap.size w wx → Calls Tryz.prog 170 #[a] wx fun e w' => e = .returned (.bool true) ∧ Below wx.heap.size wx w') := fun wx a ha hb => by rw [ha]; exact s_noCoefs q ca cc pa pc ea ec true (tt_iff (Classical.not_not.1 g1)) wx hq.C.len
     have K2 : Hid (∀ wx a, a = subV q ca cc pa pc ea ec → Below w.heap.size w wx → Calls Tryz.prog 173 #[a, .int .i64 b] wx fun e w' => e = .returned (.bool true) ∧ Below wx.heap.size wx w') := fun wx a ha hb => by rw [ha]; exact s_rice q ca cc pa pc ea ec b true (tt_iff (Classical.not_not.1 g2)) wx (hq.R.below hb)
     clear hq
     have HA : Hid (SX w q ca cc pa pc ea ec (w.alloc (.cells (subC q ca cc pa pc ea ec) 27))) := SX.new w q ca cc pa pc ea ec
     go_enter Tryz.func128, Tryz.ntmps128
     go_upto_region 1 with fail
     generalize hwa : World.alloc _ _ = wa at *
     clear hwa
     obtain ⟨x0, x1, x2, x3, x4, x5, x6, x7, x8, x9⟩ := sub_cells HA.out.box
     go_wp2_with fail
     refine (K0.out _ _ (by simp [k2]) HA.out.below).mono ?_
     rintro e wx_HA0 ⟨rfl, hb⟩
     have HA0 : Hid (SX w q ca cc pa pc ea ec wx_HA0) := HA.out.next hb
     clear hb HA x0 x1 x2 x3 x4 x5 x6 x7 x8 x9
     obtain ⟨x0, x1, x2, x3, x4, x5, x6, x7, x8, x9⟩ := sub_cells HA0.out.box
     go_wp2_with fail
     refine (K1.out _ _ (by simp [k2]) HA0.out.below).mono ?_
     rintro e wx_HA1 ⟨rfl, hb⟩
     have HA1 : Hid (SX w q ca cc pa pc ea ec wx_HA1) := HA0.out.next hb
     clear hb HA0 x0 x1 x2 x3 x4 x5 x6 x7 x8 x9
     obtain ⟨x0, x1, x2, x3, x4, x5, x6, x7, x8, x9⟩ := sub_cells HA1.out.box
     go_wp2_with fail
     refine (K2.out _ _ (by simp [k2]) HA1.out.below).mono ?_
     rintro e wx_HA2 ⟨rfl, hb⟩
     have HA2 : Hid (SX w q ca cc pa pc ea ec wx_HA2) := HA1.out.next hb
     clear hb HA1 x0 x1 x2 x3 x4 x5 x6 x7 x8 x9
     obtain ⟨x0, x1, x2, x3, x4, x5, x6, x7, x8, x9⟩ := sub_cells HA2.out.box
     go_wp2_with fail
     go_ret
     exact ⟨rfl, HA2.out.below⟩
 by_cases k3 : q.k = 3
 ·skip
  by_cases g0 : ¬ ordOk q.k q.o b
  ·rw [bb_no hbb (fun h => by have h2 : kdL q b := (h.elim (fun h => by have := h.1; omega) (fun h => h.elim (fun h => by have := h.1; omega) id)); exact g0 (by have := h2.2; omega))]
   clear hbb
   have hk0 : (q.k == 0) = false := by rw [beq_eq_false_iff_ne]; omega
   have hk1 : (q.k == 1) = false := by rw [beq_eq_false_iff_ne]; omega
   have hk2 : (q.k == 2) = false := by rw [beq_eq_false_iff_ne]; omega
   have hk3 : (q.k == 3) = true := by rw [beq_iff_eq]; omega
   have K0 : Hid (∀ wx a, a = subV q ca cc pa pc ea ec → Below w.heap.size w wx → Calls Tryz.prog 172 #[a, .int .i64 b] wx fun e w' => e = .returned (.bool false) ∧ Below wx.heap.size wx w') := fun wx a ha hb => by rw [ha]; exact s_order q ca cc pa pc ea ec b false (ff_iff g0) wx
   clear hq
   have HA : Hid (SX w q ca cc pa pc ea ec (w.alloc (.cells (subC q ca cc pa pc ea ec) 27))) := SX.new w q ca cc pa pc ea ec
   go_enter Tryz.func128, Tryz.ntmps128
   go_upto_region 1 with fail
   generalize hwa : World.alloc _ _ = wa at *
   clear hwa
   obtain ⟨x0, x1, x2, x3, x4, x5, x6, x7, x8, x9⟩ := sub_cells HA.out.box
   go_wp2_with fail
   refine (K0.out _ _ (by simp [k3]) HA.out.below).mono ?_
   rintro e wx_HA0 ⟨rfl, hb⟩
   have HA0 : Hid (SX w q ca cc pa pc ea ec wx_HA0) := HA.out.next hb
   clear hb HA x0 x1 x2 x3 x4 x5 x6 x7 x8 x9
   obtain ⟨x0, x1, x2, x3, x4, x5, x6, x7, x8, x9⟩ := sub_cells HA0.out.box
   go_wp2_with fail
   go_ret
   exact ⟨rfl, HA0.out.below⟩
  ·skip
   by_cases g1 : ¬ coefOk q
   ·rw [bb_no hbb (fun h => by have h2 : kdL q b := (h.elim (fun h => by have := h.1; omega) (fun h => h.elim (fun h => by have := h.1; omega) id)); obtain ⟨a0, a1, a2, a3, a4, a5, a6, a7, a8, a9, a10⟩ := h2; exact g1 ⟨⟨a4, a5⟩, ⟨a6, a7⟩, a8, a9⟩)]
    clear hbb
    have hk0 : (q.k == 0) = false := by rw [beq_eq_false_iff_ne]; omega
    have hk1 : (q.k == 1) = false := by rw [beq_eq_false_iff_ne]; omega
    have hk2 : (q.k == 2) = false := by rw [beq_eq_false_iff_ne]; omega
    have hk3 : (q.k == 3) = true := by rw [beq_iff_eq]; omega
    have K0 : Hid (∀ wx a, a = subV q ca cc pa pc ea ec → Below w.heap.size w wx → Calls Tryz.prog 172 #[a, .int .i64 b] wx fun e w' => e = .returned (.bool true) ∧ Below wx.heap.size wx w') := fun wx a ha hb => by rw [ha]; exact s_order q ca cc pa pc ea ec b true (tt_iff (Classical.not_not.1 g0)) wx
    have K1 : Hid (∀ wx a, a = subV q ca cc pa pc ea ec → Below w.heap.size w wx → Calls Tryz.prog 174 #[a] wx fun e w' => e = .returned (.bool false) ∧ Below wx.heap.size wx w') := fun wx a ha hb => by rw [ha]; exact s_coefs q ca cc pa pc ea ec false (ff_iff g1) wx (hq.C.below hb)
    clear hq
    have HA : Hid (SX w q ca cc pa pc ea ec (w.alloc (.cells (subC q ca cc pa pc ea ec) 27))) := SX.new w q ca cc pa pc ea ec
    go_enter Tryz.func128, Tryz.ntmps128
    go_upto_region 1 with fail
    generalize hwa : World.alloc _ _ = wa at *
    clear hwa
    obtain ⟨x0, x1, x2, x3, x4, x5, x6, x7, x8, x9⟩ := sub_cells HA.out.box
    go_wp2_with fail
    refine (K0.out _ _ (by simp [k3]) HA.out.below).mono ?_
    rintro e wx_HA0 ⟨rfl, hb⟩
    have HA0 : Hid (SX w q ca cc pa pc ea ec wx_HA0) := HA.out.next hb
    clear hb HA x0 x1 x2 x3 x4 x5 x6 x7 x8 x9
    obtain ⟨x0, x1, x2, x3, x4, x5, x6, x7, x8, x9⟩ := sub_cells HA0.out.box
    go_wp2_with fail
    refine (K1.out _ _ (by simp [k3]) HA0.out.below).mono ?_
    rintro e wx_HA1 ⟨rfl, hb⟩
    have HA1 : Hid (SX w q ca cc pa pc ea ec wx_HA1) := HA0.out.next hb
    clear hb HA0 x0 x1 x2 x3 x4 x5 x6 x7 x8 x9
    obtain ⟨x0, x1, x2, x3, x4, x5, x6, x7, x8, x9⟩ := sub_cells HA1.out.box
    go_wp2_with fail
    go_ret
    exact ⟨rfl, HA1.out.below⟩
   ·skip
    by_cases g2 : ¬ chkOk q.R b q.o
    ·rw [bb_no hbb (fun h => by have h2 : kdL q b := (h.elim (fun h => by have := h.1; omega) (fun h => h.elim (fun h => by have := h.1; omega) id)); obtain ⟨a0, a1, a2, a3, a4, a5, a6, a7, a8, a9, a10⟩ := h2; exact g2 a10)]
     clear hbb
     have hk0 : (q.k == 0) = false := by rw [beq_eq_false_iff_ne]; omega
     have hk1 : (q.k == 1) = false := by rw [beq_eq_false_iff_ne]; omega
     have hk2 : (q.k == 2) = false := by rw [beq_eq_false_iff_ne]; omega
     have hk3 : (q.k == 3) = true := by rw [beq_iff_eq]; omega
     have K0 : Hid (∀ wx a, a = subV q ca cc pa pc ea ec → Below w.heap.size w wx → Calls Tryz.prog 172 #[a, .int .i64 b] wx fun e w' => e = .returned (.bool true) ∧ Below wx.heap.size wx w') := fun wx a ha hb => by rw [ha]; exact s_order q ca cc pa pc ea ec b true (tt_iff (Classical.not_not.1 g0)) wx
     have K1 : Hid (∀ wx a, a = subV q ca cc pa pc ea ec → Below w.heap.size w wx → Calls Tryz.prog 174 #[a] wx fun e w' => e = .returned (.bool true) ∧ Below wx.heap.size wx w') := fun wx a ha hb => by rw [ha]; exact s_coefs q ca cc pa pc ea ec true (tt_iff (Classical.not_not.1 g1)) wx (hq.C.below hb)
     have K2 : Hid (∀ wx a, a = subV q ca cc pa pc ea ec → Below w.heap.size w wx → Calls Tryz.prog 173 #[a, .int .i64 b] wx fun e w' => e = .returned (.bool false) ∧ Below wx.heap.size wx w') := fun wx a ha hb => by rw [ha]; exact s_rice q ca cc pa pc ea ec b false (ff_iff g2) wx (hq.R.below hb)
     clear hq
     have HA : Hid (SX w q ca cc pa pc ea ec (w.alloc (.cells (subC q ca cc pa pc ea ec) 27))) := SX.new w q ca cc pa pc ea ec
     go_enter Tryz.func128, Tryz.ntmps128
     go_upto_region 1 with fail
     generalize hwa : World.alloc _ _ = wa at *
     clear hwa
     obtain ⟨x0, x1, x2, x3, x4, x5, x6, x7, x8, x9⟩ := sub_cells HA.out.box
     go_wp2_with fail
     refine (K0.out _ _ (by simp [k3]) HA.out.below).mono ?_
     rintro e wx_HA0 ⟨rfl, hb⟩
     have HA0 : Hid (SX w q ca cc pa pc ea ec wx_HA0) := HA.out.next hb
     clear hb HA x0 x1 x2 x3 x4 x5 x6 x7 x8 x9
     obtain ⟨x0, x1, x2, x3, x4, x5, x6, x7, x8, x9⟩ := sub_cells HA0.out.box
     go_wp2_with fail
     refine (K1.out _ _ (by simp [k3]) HA0.out.below).mono ?_
     rintro e wx_HA1 ⟨rfl, hb⟩
     have HA1 : Hid (SX w q ca cc pa pc ea ec wx_HA1) := HA0.out.next hb
     clear hb HA0 x0 x1 x2 x3 x4 x5 x6 x7 x8 x9
     obtain ⟨x0, x1, x2, x3, x4, x5, x6, x7, x8, x9⟩ := sub_cells HA1.out.box
     go_wp2_with fail
     refine (K2.out _ _ (by simp [k3]) HA1.out.below).mono ?_
     rintro e wx_HA2 ⟨rfl, hb⟩
     have HA2 : Hid (SX w q ca cc pa pc ea ec wx_HA2) := HA1.out.next hb
     clear hb HA1 x0 x1 x2 x3 x4 x5 x6 x7 x8 x9
     obtain ⟨x0, x1, x2, x3, x4, x5, x6, x7, x8, x9⟩ := sub_cells HA2.out.box
     go_wp2_with fail
     go_ret
     exact ⟨rfl, HA2.out.below⟩
    ·skip
     rw [bb_yes hbb (by have h3 := Classical.not_not.1 g0; have h4 := Classical.not_not.1 g1; exact .inr (.inr ⟨by omega, by omega, by omega, by omega, h4.1.1, h4.1.2, h4.2.1.1, h4.2.1.2, h4.2.2.1, h4.2.2.2, Classical.not_not.1 g2⟩))]
     clear hbb
     have hk0 : (q.k == 0) = false := by rw [beq_eq_false_iff_ne]; omega
     have hk1 : (q.k == 1) = false := by rw [beq_eq_false_iff_ne]; omega
     have hk2 : (q.k == 2) = false := by rw [beq_eq_false_iff_ne]; omega
     have hk3 : (q.k == 3) = true := by rw [beq_iff_eq]; omega
     have K0 : Hid (∀ wx a, a = subV q ca cc pa pc ea ec → Below w.heap.size w wx → Calls Tryz.prog 172 #[a, .int .i64 b] wx fun e w' => e = .returned (.bool true) ∧ Below wx.heap.size wx w') := fun wx a ha hb => by rw [ha]; exact s_order q ca cc pa pc ea ec b true (tt_iff (Classical.not_not.1 g0)) wx
     have K1 : Hid (∀ wx a, a = subV q ca cc pa pc ea ec → Below w.heap.size w wx → Calls Tryz.prog 174 #[a] wx fun e w' => e = .returned (.bool true) ∧ Below wx.heap.size wx w') := fun wx a ha hb => by rw [ha]; exact s_coefs q ca cc pa pc ea ec true (tt_iff (Classical.not_not.1 g1)) wx (hq.C.below hb)
     have K2 : Hid (∀ wx a, a = subV q ca cc pa pc ea ec → Below w.heap.size w wx → Calls Tryz.prog 173 #[a, .int .i64 b] wx fun e w' => e = .returned (.bool true) ∧ Below wx.heap.size wx w') := fun wx a ha hb => by rw [ha]; exact s_rice q ca cc pa pc ea ec b true (tt_iff (Classical.not_not.1 g2)) wx (hq.R.below hb)
     clear hq
     have HA : Hid (SX w q ca cc pa pc ea ec (w.alloc (.cells (subC q ca cc pa pc ea ec) 27))) := SX.new w q ca cc pa pc ea ec
     go_enter Tryz.func128, Tryz.ntmps128
     go_upto_region 1 with fail
     generalize hwa : World.alloc _ _ = wa at *
     clear hwa
     obtain ⟨x0, x1, x2, x3, x4, x5, x6, x7, x8, x9⟩ := sub_cells HA.out.box
     go_wp2_with fail
     refine (K0.out _ _ (by simp [k3]) HA.out.below).mono ?_
     rintro e wx_HA0 ⟨rfl, hb⟩
     have HA0 : Hid (SX w q ca cc pa pc ea ec wx_HA0) := HA.out.next hb
     clear hb HA x0 x1 x2 x3 x4 x5 x6 x7 x8 x9
     obtain ⟨x0, x1, x2, x3, x4, x5, x6, x7, x8, x9⟩ := sub_cells HA0.out.box
     go_wp2_with fail
     refine (K1.out _ _ (by simp [k3]) HA0.out.below).mono ?_
     rintro e wx_HA1 ⟨rfl, hb⟩
     have HA1 : Hid (SX w q ca cc pa pc ea ec wx_HA1) := HA0.out.next hb
     clear hb HA0 x0 x1 x2 x3 x4 x5 x6 x7 x8 x9
     obtain ⟨x0, x1, x2, x3, x4, x5, x6, x7, x8, x9⟩ := sub_cells HA1.out.box
     go_wp2_with fail
     refine (K2.out _ _ (by simp [k3]) HA1.out.below).mono ?_
     rintro e wx_HA2 ⟨rfl, hb⟩
     have HA2 : Hid (SX w q ca cc pa pc ea ec wx_HA2) := HA1.out.next hb
     clear hb HA1 x0 x1 x2 x3 x4 x5 x6 x7 x8 x9
     obtain ⟨x0, x1, x2, x3, x4, x5, x6, x7, x8, x9⟩ := sub_cells HA2.out.box
     go_wp2_with fail
     go_ret
     exact ⟨rfl, HA2.out.below⟩
 rw [bb_no hbb (fun h => by rcases h with h | h | h <;> (have := h.1; omega))]
 clear hbb
 have hk0 : (q.k == 0) = false := by rw [beq_eq_false_iff_ne]; omega
 have hk1 : (q.k == 1) = false := by rw [beq_eq_false_iff_ne]; omega
 have hk2 : (q.k == 2) = false := by rw [beq_eq_false_iff_ne]; omega
 have hk3 : (q.k == 3) = false := by rw [beq_eq_false_iff_ne]; omega
 clear hq
 have HA : Hid (SX w q ca cc pa pc ea ec (w.alloc (.cells (subC q ca cc pa pc ea ec) 27))) := SX.new w q ca cc pa pc ea ec
 go_enter Tryz.func128, Tryz.ntmps128
 go_upto_region 1 with fail
 generalize hwa : World.alloc _ _ = wa at *
 clear hwa
 obtain ⟨x0, x1, x2, x3, x4, x5, x6, x7, x8, x9⟩ := sub_cells HA.out.box
 go_wp2_with fail
 go_ret
 exact ⟨rfl, HA.out.below⟩
theorem s_sub_iff (q : Sb) (b v : Int) : subOk q b v ↔ ((1 ≤ b ∧ b ≤ 65535) ∧ (1 ≤ v ∧ v ≤ 33)) ∧ 0 ≤ q.w ∧ q.w < v ∧ (kdA q ∨ kdF q b ∨ kdL q b) :=
 ⟨fun h => ⟨⟨h.1, h.2.1⟩, h.2.2.1.1, h.2.2.1.2, h.2.2.2⟩, fun h => ⟨h.1.1, h.1.2, ⟨h.2.1, h.2.2.1⟩, h.2.2.2⟩⟩
theorem s_check (q : Sb) (ca : Option Addr) (cc : Nat) (pa : Option Addr) (pc : Nat) (ea : Option Addr) (ec : Nat) (b v r : Int) (hyes : subOk q b v → r = 0) (hno : ¬ subOk q b v → r = 60) (w : World) (hq : SbAt w q ca pa ea) : Calls Tryz.prog 66 #[subV q ca cc pa pc ea ec, .int .i64 b, .int .i64 v] w fun e w' => e = .returned (.int .i64 r) ∧ Below w.heap.size w w' := by
 by_cases g0 : ¬ ((1 ≤ b ∧ b ≤ 65535) ∧ (1 ≤ v ∧ v ≤ 33))
 ·rw [hno (fun h => g0 (((s_sub_iff q b v).1 h).1))]
  have K0 : Hid (∀ wx, Below w.heap.size w wx → Calls Tryz.prog 127 #[.int .i64 b, .int .i64 v] wx fun e w' => e = .returned (.bool false) ∧ Below wx.heap.size wx w') := fun wx hb => (s_areOf b v false (ff_iff g0) wx).mono fun e w' h => ⟨h.1, by rw [h.2]; exact Below.refl _ _⟩
  clear hq
  have HA : Hid (SX w q ca cc pa pc ea ec (w.alloc (.cells (subC q ca cc pa pc ea ec) 27))) := SX.new w q ca cc pa pc ea ec
  go_enter Tryz.func66, Tryz.ntmps66
  go_upto_region 1 with fail
  generalize hwa : World.alloc _ _ = wa at *
  clear hwa
  obtain ⟨x0, x1, x2, x3, x4, x5, x6, x7, x8, x9⟩ := sub_cells HA.out.box
  go_wp2_with fail
  refine (K0.out _ HA.out.below).mono ?_
  rintro e wx_HA0 ⟨rfl, hb⟩
  have HA0 : Hid (SX w q ca cc pa pc ea ec wx_HA0) := HA.out.next hb
  clear hb HA x0 x1 x2 x3 x4 x5 x6 x7 x8 x9
  obtain ⟨x0, x1, x2, x3, x4, x5, x6, x7, x8, x9⟩ := sub_cells HA0.out.box
  go_wp2_with fail
  go_ret
  exact ⟨rfl, HA0.out.below⟩
 ·skip
  by_cases g1 : ¬ 0 ≤ q.w
  ·rw [hno (fun h => g1 (((s_sub_iff q b v).1 h).2.1))]
   have K0 : Hid (∀ wx, Below w.heap.size w wx → Calls Tryz.prog 127 #[.int .i64 b, .int .i64 v] wx fun e w' => e = .returned (.bool true) ∧ Below wx.heap.size wx w') := fun wx hb => (s_areOf b v true (tt_iff (Classical.not_not.1 g0)) wx).mono fun e w' h => ⟨h.1, by rw [h.2]; exact Below.refl _ _⟩
   clear hq
   have hw : q.w < 0 := by omega
   have HA : Hid (SX w q ca cc pa pc ea ec (w.alloc (.cells (subC q ca cc pa pc ea ec) 27))) := SX.new w q ca cc pa pc ea ec
   go_enter Tryz.func66, Tryz.ntmps66
   go_upto_region 1 with fail
   generalize hwa : World.alloc _ _ = wa at *
   clear hwa
   obtain ⟨x0, x1, x2, x3, x4, x5, x6, x7, x8, x9⟩ := sub_cells HA.out.box
   go_wp2_with fail
   refine (K0.out _ HA.out.below).mono ?_
   rintro e wx_HA0 ⟨rfl, hb⟩
   have HA0 : Hid (SX w q ca cc pa pc ea ec wx_HA0) := HA.out.next hb
   clear hb HA x0 x1 x2 x3 x4 x5 x6 x7 x8 x9
   obtain ⟨x0, x1, x2, x3, x4, x5, x6, x7, x8, x9⟩ := sub_cells HA0.out.box
   go_wp2_with fail
   go_ret
   exact ⟨rfl, HA0.out.below⟩
  ·skip
   by_cases g2 : ¬ q.w < v
   ·rw [hno (fun h => g2 (((s_sub_iff q b v).1 h).2.2.1))]
    have K0 : Hid (∀ wx, Below w.heap.size w wx → Calls Tryz.prog 127 #[.int .i64 b, .int .i64 v] wx fun e w' => e = .returned (.bool true) ∧ Below wx.heap.size wx w') := fun wx hb => (s_areOf b v true (tt_iff (Classical.not_not.1 g0)) wx).mono fun e w' h => ⟨h.1, by rw [h.2]; exact Below.refl _ _⟩
    clear hq
    have hw : v ≤ q.w := by omega
    have hw0 : 0 ≤ q.w := by omega
    have HA : Hid (SX w q ca cc pa pc ea ec (w.alloc (.cells (subC q ca cc pa pc ea ec) 27))) := SX.new w q ca cc pa pc ea ec
    go_enter Tryz.func66, Tryz.ntmps66
    go_upto_region 1 with fail
    generalize hwa : World.alloc _ _ = wa at *
    clear hwa
    obtain ⟨x0, x1, x2, x3, x4, x5, x6, x7, x8, x9⟩ := sub_cells HA.out.box
    go_wp2_with fail
    refine (K0.out _ HA.out.below).mono ?_
    rintro e wx_HA0 ⟨rfl, hb⟩
    have HA0 : Hid (SX w q ca cc pa pc ea ec wx_HA0) := HA.out.next hb
    clear hb HA x0 x1 x2 x3 x4 x5 x6 x7 x8 x9
    obtain ⟨x0, x1, x2, x3, x4, x5, x6, x7, x8, x9⟩ := sub_cells HA0.out.box
    go_wp2_with fail
    go_ret
    exact ⟨rfl, HA0.out.below⟩
   ·skip
    by_cases g3 : ¬ (kdA q ∨ kdF q b ∨ kdL q b)
    ·rw [hno (fun h => g3 (((s_sub_iff q b v).1 h).2.2.2))]
     have K0 : Hid (∀ wx, Below w.heap.size w wx → Calls Tryz.prog 127 #[.int .i64 b, .int .i64 v] wx fun e w' => e = .returned (.bool true) ∧ Below wx.heap.size wx w') := fun wx hb => (s_areOf b v true (tt_iff (Classical.not_not.1 g0)) wx).mono fun e w' h => ⟨h.1, by rw [h.2]; exact Below.refl _ _⟩
     have K1 : Hid (∀ wx a, a = subV q ca cc pa pc ea ec → Below w.heap.size w wx → Calls Tryz.prog 128 #[a, .int .i64 b] wx fun e w' => e = .returned (.bool false) ∧ Below wx.heap.size wx w') := fun wx a ha hb => by rw [ha]; exact s_may q ca cc pa pc ea ec b false (ff_iff g3) wx (hq.below hb)
     clear hq
     have hw : q.w < v := by omega
     have hw0 : 0 ≤ q.w := by omega
     have HA : Hid (SX w q ca cc pa pc ea ec (w.alloc (.cells (subC q ca cc pa pc ea ec) 27))) := SX.new w q ca cc pa pc ea ec
     go_enter Tryz.func66, Tryz.ntmps66
     go_upto_region 1 with fail
     generalize hwa : World.alloc _ _ = wa at *
     clear hwa
     obtain ⟨x0, x1, x2, x3, x4, x5, x6, x7, x8, x9⟩ := sub_cells HA.out.box
     go_wp2_with fail
     refine (K0.out _ HA.out.below).mono ?_
     rintro e wx_HA0 ⟨rfl, hb⟩
     have HA0 : Hid (SX w q ca cc pa pc ea ec wx_HA0) := HA.out.next hb
     clear hb HA x0 x1 x2 x3 x4 x5 x6 x7 x8 x9
     obtain ⟨x0, x1, x2, x3, x4, x5, x6, x7, x8, x9⟩ := sub_cells HA0.out.box
     go_wp2_with fail
     refine (K1.out _ _ (by simp []) HA0.out.below).mono ?_
     rintro e wx_HA1 ⟨rfl, hb⟩
     have HA1 : Hid (SX w q ca cc pa pc ea ec wx_HA1) := HA0.out.next hb
     clear hb HA0 x0 x1 x2 x3 x4 x5 x6 x7 x8 x9
     obtain ⟨x0, x1, x2, x3, x4, x5, x6, x7, x8, x9⟩ := sub_cells HA1.out.box
     go_wp2_with fail
     go_ret
     exact ⟨rfl, HA1.out.below⟩
    ·skip
     rw [hyes ((s_sub_iff q b v).2 ⟨Classical.not_not.1 g0, by omega, by omega, Classical.not_not.1 g3⟩)]
     have K0 : Hid (∀ wx, Below w.heap.size w wx → Calls Tryz.prog 127 #[.int .i64 b, .int .i64 v] wx fun e w' => e = .returned (.bool true) ∧ Below wx.heap.size wx w') := fun wx hb => (s_areOf b v true (tt_iff (Classical.not_not.1 g0)) wx).mono fun e w' h => ⟨h.1, by rw [h.2]; exact Below.refl _ _⟩
     have K1 : Hid (∀ wx a, a = subV q ca cc pa pc ea ec → Below w.heap.size w wx → Calls Tryz.prog 128 #[a, .int .i64 b] wx fun e w' => e = .returned (.bool true) ∧ Below wx.heap.size wx w') := fun wx a ha hb => by rw [ha]; exact s_may q ca cc pa pc ea ec b true (tt_iff (Classical.not_not.1 g3)) wx (hq.below hb)
     clear hq
     have hw : q.w < v := by omega
     have hw0 : 0 ≤ q.w := by omega
     have HA : Hid (SX w q ca cc pa pc ea ec (w.alloc (.cells (subC q ca cc pa pc ea ec) 27))) := SX.new w q ca cc pa pc ea ec
     go_enter Tryz.func66, Tryz.ntmps66
     go_upto_region 1 with fail
     generalize hwa : World.alloc _ _ = wa at *
     clear hwa
     obtain ⟨x0, x1, x2, x3, x4, x5, x6, x7, x8, x9⟩ := sub_cells HA.out.box
     go_wp2_with fail
     refine (K0.out _ HA.out.below).mono ?_
     rintro e wx_HA0 ⟨rfl, hb⟩
     have HA0 : Hid (SX w q ca cc pa pc ea ec wx_HA0) := HA.out.next hb
     clear hb HA x0 x1 x2 x3 x4 x5 x6 x7 x8 x9
     obtain ⟨x0, x1, x2, x3, x4, x5, x6, x7, x8, x9⟩ := sub_cells HA0.out.box
     go_wp2_with fail
     refine (K1.out _ _ (by simp []) HA0.out.below).mono ?_
     rintro e wx_HA1 ⟨rfl, hb⟩
     have HA1 : Hid (SX w q ca cc pa pc ea ec wx_HA1) := HA0.out.next hb
     clear hb HA0 x0 x1 x2 x3 x4 x5 x6 x7 x8 x9
     obtain ⟨x0, x1, x2, x3, x4, x5, x6, x7, x8, x9⟩ := sub_cells HA1.out.box
     go_wp2_with fail
     go_ret
     exact ⟨rfl, HA1.out.below⟩
end Go.Proofs.YthgpleelpeacjaaGreatDoor
