/- Own text. -/
import Derived.Test.YthgpleelpeacjaaGreatDoorH10
set_option linter.unusedSimpArgs false
set_option linter.unusedVariables false
set_option maxRecDepth 20000
set_option maxHeartbeats 12800000
namespace Go.Proofs.YthgpleelpeacjaaGreatDoor
open Go.RowKit
theorem s_may (q : Sb) (ca : Option Addr) (cc : Nat) (pa : Option Addr) (pc : Nat) (ea : Option Addr) (ec : Nat) (b : Int) (bb : Bool) (hbb : bb = true ↔ (kdA q ∨ kdF q b ∨ kdL q b)) (w : World) (hq : SbAt w q ca pa ea) : Calls Tryz.prog 128 #[subV q ca cc pa pc ea ec, .int .i64 b] w fun e w' => e = .returned (.bool bb) ∧ Below w.heap.size w w' := by
 by_cases k0 : q.k = 0
 ·skip
  by_cases g0 : ¬ q.o = 0
  ·rw [bb_no hbb (fun h => by have h2 : kdA q := (h.elim id (fun h => by rcases h with h | h <;> (have := h.1; omega))); exact g0 h2.2.2.1)]
   clear hbb
   have hk0 : (q.k == 0) = true := by rw [beq_iff_eq]; omega
   have hk1 : (q.k == 1) = false := by rw [beq_eq_false_iff_ne]; omega
   have hk2 : (q.k == 2) = false := by rw [beq_eq_false_iff_ne]; omega
   have hk3 : (q.k == 3) = false := by rw [beq_eq_false_iff_ne]; omega
   have hbo : (q.o == 0) = false := by rw [beq_eq_false_iff_ne]; omega
   clear hq
   have HA : Hid (SX w q ca cc pa pc ea ec (w.alloc (.cells (subC q ca cc pa pc ea ec) 27))) := SX.new w q ca cc pa pc ea ec
   go_enter Tryz.func128, Tryz.ntmps128
   go_upto_region 1 with fail
   generalize hwa : World.alloc _ _ = wa at *
   clear hwa
   obtain ⟨x0, x1, x2, x3, x4, x5, x6, x7, x8, x9⟩ := sub_cells HA.out.box
   go_wp2_with fail
   go_ret
   exact ⟨rfl, HA.out.below⟩
  ·skip
   by_cases g1 : ¬ bareOk q
   ·rw [bb_no hbb (fun h => by have h2 : kdA q := (h.elim id (fun h => by rcases h with h | h <;> (have := h.1; omega))); exact g1 h2.2.1)]
    clear hbb
    have hk0 : (q.k == 0) = true := by rw [beq_iff_eq]; omega
    have hk1 : (q.k == 1) = false := by rw [beq_eq_false_iff_ne]; omega
    have hk2 : (q.k == 2) = false := by rw [beq_eq_false_iff_ne]; omega
    have hk3 : (q.k == 3) = false := by rw [beq_eq_false_iff_ne]; omega
    have hbo : (q.o == 0) = true := by rw [beq_iff_eq]; omega
    have K1 : Hid (∀ wx a, a = subV q ca cc pa pc ea ec → Below w.heap.size w wx → Calls Tryz.prog 170 #[a] wx fun e w' => e = .returned (.bool false) ∧ Below wx.heap.size wx w') := fun wx a ha hb => by rw [ha]; exact s_noCoefs q ca cc pa pc ea ec false (ff_iff g1) wx hq.C.len
    clear hq
    have HA : Hid (SX w q ca cc pa pc ea ec (w.alloc (.cells (subC q ca cc pa pc ea ec) 27))) := SX.new w q ca cc pa pc ea ec
    go_enter Tryz.func128, Tryz.ntmps128
    go_upto_region 1 with fail
    generalize hwa : World.alloc _ _ = wa at *
    clear hwa
    obtain ⟨x0, x1, x2, x3, x4, x5, x6, x7, x8, x9⟩ := sub_cells HA.out.box
    go_wp2_with fail
    refine (K1.out _ _ (by simp [k0, Classical.not_not.1 g0]) HA.out.below).mono ?_
    rintro e wx_HA0 ⟨rfl, hb⟩
    have HA0 : Hid (SX w q ca cc pa pc ea ec wx_HA0) := HA.out.next hb
    clear hb HA x0 x1 x2 x3 x4 x5 x6 x7 x8 x9
    obtain ⟨x0, x1, x2, x3, x4, x5, x6, x7, x8, x9⟩ := sub_cells HA0.out.box
    go_wp2_with fail
    go_ret
    exact ⟨rfl, HA0.out.below⟩
   ·skip
    by_cases g2 : ¬ q.R = ⟨0, 0, [], []⟩
    ·rw [bb_no hbb (fun h => by have h2 : kdA q := (h.elim id (fun h => by rcases h with h | h <;> (have := h.1; omega))); exact g2 h2.2.2.2)]
     clear hbb
     have hk0 : (q.k == 0) = true := by rw [beq_iff_eq]; omega
     have hk1 : (q.k == 1) = false := by rw [beq_eq_false_iff_ne]; omega
     have hk2 : (q.k == 2) = false := by rw [beq_eq_false_iff_ne]; omega
     have hk3 : (q.k == 3) = false := by rw [beq_eq_false_iff_ne]; omega
     have hbo : (q.o == 0) = true := by rw [beq_iff_eq]; omega
     have K1 : Hid (∀ wx a, a = subV q ca cc pa pc ea ec → Below w.heap.size w wx → Calls Tryz.prog 170 #[a] wx fun e w' => e = .returned (.bool true) ∧ Below wx.heap.size wx w') := fun wx a ha hb => by rw [ha]; exact s_noCoefs q ca cc pa pc ea ec true (tt_iff (Classical.not_not.1 g1)) wx hq.C.len
     have K2 : Hid (∀ wx a, a = subV q ca cc pa pc ea ec → Below w.heap.size w wx → Calls Tryz.prog 171 #[a] wx fun e w' => e = .returned (.bool false) ∧ Below wx.heap.size wx w') := fun wx a ha hb => by rw [ha]; exact s_noRice q ca cc pa pc ea ec false (ff_iff g2) wx hq.R.P.len hq.R.E.len
     clear hq
     have HA : Hid (SX w q ca cc pa pc ea ec (w.alloc (.cells (subC q ca cc pa pc ea ec) 27))) := SX.new w q ca cc pa pc ea ec
     go_enter Tryz.func128, Tryz.ntmps128
     go_upto_region 1 with fail
     generalize hwa : World.alloc _ _ = wa at *
     clear hwa
     obtain ⟨x0, x1, x2, x3, x4, x5, x6, x7, x8, x9⟩ := sub_cells HA.out.box
     go_wp2_with fail
     refine (K1.out _ _ (by simp [k0, Classical.not_not.1 g0]) HA.out.below).mono ?_
     rintro e wx_HA0 ⟨rfl, hb⟩
     have HA0 : Hid (SX w q ca cc pa pc ea ec wx_HA0) := HA.out.next hb
     clear hb HA x0 x1 x2 x3 x4 x5 x6 x7 x8 x9
     obtain ⟨x0, x1, x2, x3, x4, x5, x6, x7, x8, x9⟩ := sub_cells HA0.out.box
     go_wp2_with fail
     refine (K2.out _ _ (by simp [k0, Classical.not_not.1 g0]) HA0.out.below).mono ?_
     rintro e wx_HA1 ⟨rfl, hb⟩
     have HA1 : Hid (SX w q ca cc pa pc ea ec wx_HA1) := HA0.out.next hb
     clear hb HA0 x0 x1 x2 x3 x4 x5 x6 x7 x8 x9
     obtain ⟨x0, x1, x2, x3, x4, x5, x6, x7, x8, x9⟩ := sub_cells HA1.out.box
     go_wp2_with fail
     go_ret
     exact ⟨rfl, HA1.out.below⟩
    ·skip
     rw [bb_yes hbb (.inl ⟨by omega, Classical.not_not.1 g1, by omega, Classical.not_not.1 g2⟩)]
     clear hbb
     have hk0 : (q.k == 0) = true := by rw [beq_iff_eq]; omega
     have hk1 : (q.k == 1) = false := by rw [beq_eq_false_iff_ne]; omega
     have hk2 : (q.k == 2) = false := by rw [beq_eq_false_iff_ne]; omega
     have hk3 : (q.k == 3) = false := by rw [beq_eq_false_iff_ne]; omega
     have hbo : (q.o == 0) = true := by rw [beq_iff_eq]; omega
     have K1 : Hid (∀ wx a, a = subV q ca cc pa pc ea ec → Below w.heap.size w wx → Calls Tryz.prog 170 #[a] wx fun e w' => e = .returned (.bool true) ∧ Below wx.heap.size wx w') := fun wx a ha hb => by rw [ha]; exact s_noCoefs q ca cc pa pc ea ec true (tt_iff (Classical.not_not.1 g1)) wx hq.C.len
     have K2 : Hid (∀ wx a, a = subV q ca cc pa pc ea ec → Below w.heap.size w wx → Calls Tryz.prog 171 #[a] wx fun e w' => e = .returned (.bool true) ∧ Below wx.heap.size wx w') := fun wx a ha hb => by rw [ha]; exact s_noRice q ca cc pa pc ea ec true (tt_iff (Classical.not_not.1 g2)) wx hq.R.P.len hq.R.E.len
     clear hq
     have HA : Hid (SX w q ca cc pa pc ea ec (w.alloc (.cells (subC q ca cc pa pc ea ec) 27))) := SX.new w q ca cc pa pc ea ec
     go_enter Tryz.func128, Tryz.ntmps128
     go_upto_region 1 with fail
     generalize hwa : World.alloc _ _ = wa at *
     clear hwa
     obtain ⟨x0, x1, x2, x3, x4, x5, x6, x7, x8, x9⟩ := sub_cells HA.out.box
     go_wp2_with fail
     refine (K1.out _ _ (by simp [k0, Classical.not_not.1 g0]) HA.out.below).mono ?_
     rintro e wx_HA0 ⟨rfl, hb⟩
     have HA0 : Hid (SX w q ca cc pa pc ea ec wx_HA0) := HA.out.next hb
     clear hb HA x0 x1 x2 x3 x4 x5 x6 x7 x8 x9
     obtain ⟨x0, x1, x2, x3, x4, x5, x6, x7, x8, x9⟩ := sub_cells HA0.out.box
     go_wp2_with fail
     refine (K2.out _ _ (by simp [k0, Classical.not_not.1 g0]) HA0.out.below).mono ?_
     rintro e wx_HA1 ⟨rfl, hb⟩
     have HA1 : Hid (SX w q ca cc pa pc ea ec wx_HA1) := HA0.out.next hb
     clear hb HA0 x0 x1 x2 x3 x4 x5 x6 x7 x8 x9
     obtain ⟨x0, x1, x2, x3, x4, x5, x6, x7, x8, x9⟩ := sub_cells HA1.out.box
     go_wp2_with fail
     go_ret
     exact ⟨rfl, HA1.out.below⟩
 by_cases k1 : q.k = 1
 ·skip
  by_cases g0 : ¬ q.o = 0
  ·rw [bb_no hbb (fun h => by have h2 : kdA q := (h.elim id (fun h => by rcases h with h | h <;> (have := h.1; omega))); exact g0 h2.2.2.1)]
   clear hbb
   have hk0 : (q.k == 0) = false := by rw [beq_eq_false_iff_ne]; omega
   have hk1 : (q.k == 1) = true := by rw [beq_iff_eq]; omega
   have hk2 : (q.k == 2) = false := by rw [beq_eq_false_iff_ne]; omega
   have hk3 : (q.k == 3) = false := by rw [beq_eq_false_iff_ne]; omega
   have hbo : (q.o == 0) = false := by rw [beq_eq_false_iff_ne]; omega
   clear hq
   have HA : Hid (SX w q ca cc pa pc ea ec (w.alloc (.cells (subC q ca cc pa pc ea ec) 27))) := SX.new w q ca cc pa pc ea ec
   go_enter Tryz.func128, Tryz.ntmps128
   go_upto_region 1 with fail
   generalize hwa : World.alloc _ _ = wa at *
   clear hwa
   obtain ⟨x0, x1, x2, x3, x4, x5, x6, x7, x8, x9⟩ := sub_cells HA.out.box
   go_wp2_with fail
   go_ret
   exact ⟨rfl, HA.out.below⟩
  ·skip
   by_cases g1 : ¬ bareOk q
   ·rw [bb_no hbb (fun h => by have h2 : kdA q := (h.elim id (fun h => by rcases h with h | h <;> (have := h.1; omega))); exact g1 h2.2.1)]
    clear hbb
    have hk0 : (q.k == 0) = false := by rw [beq_eq_false_iff_ne]; omega
    have hk1 : (q.k == 1) = true := by rw [beq_iff_eq]; omega
    have hk2 : (q.k == 2) = false := by rw [beq_eq_false_iff_ne]; omega
    have hk3 : (q.k == 3) = false := by rw [beq_eq_false_iff_ne]; omega
    have hbo : (q.o == 0) = true := by rw [beq_iff_eq]; omega
    have K1 : Hid (∀ wx a, a = subV q ca cc pa pc ea ec → Below w.heap.size w wx → Calls Tryz.prog 170 #[a] wx fun e w' => e = .returned (.bool false) ∧ Below wx.heap.size wx w') := fun wx a ha hb => by rw [ha]; exact s_noCoefs q ca cc pa pc ea ec false (ff_iff g1) wx hq.C.len
    clear hq
    have HA : Hid (SX w q ca cc pa pc ea ec (w.alloc (.cells (subC q ca cc pa pc ea ec) 27))) := SX.new w q ca cc pa pc ea ec
    go_enter Tryz.func128, Tryz.ntmps128
    go_upto_region 1 with fail
    generalize hwa : World.alloc _ _ = wa at *
    clear hwa
    obtain ⟨x0, x1, x2, x3, x4, x5, x6, x7, x8, x9⟩ := sub_cells HA.out.box
    go_wp2_with fail
    refine (K1.out _ _ (by simp [k1, Classical.not_not.1 g0]) HA.out.below).mono ?_
    rintro e wx_HA0 ⟨rfl, hb⟩
    have HA0 : Hid (SX w q ca cc pa pc ea ec wx_HA0) := HA.out.next hb
    clear hb HA x0 x1 x2 x3 x4 x5 x6 x7 x8 x9
    obtain ⟨x0, x1, x2, x3, x4, x5, x6, x7, x8, x9⟩ := sub_cells HA0.out.box
    go_wp2_with fail
    go_ret
    exact ⟨rfl, HA0.out.below⟩
   ·skip
    by_cases g2 : ¬ q.R = ⟨0, 0, [], []⟩
    ·rw [bb_no hbb (fun h => by have h2 : kdA q := (h.elim id (fun h => by rcases h with h | h <;> (have := h.1; omega))); exact g2 h2.2.2.2)]
     clear hbb
     have hk0 : (q.k == 0) = false := by rw [beq_eq_false_iff_ne]; omega
     have hk1 : (q.k == 1) = true := by rw [beq_iff_eq]; omega
     have hk2 : (q.k == 2) = false := by rw [beq_eq_false_iff_ne]; omega
     have hk3 : (q.k == 3) = false := by rw [beq_eq_false_iff_ne]; omega
     have hbo : (q.o == 0) = true := by rw [beq_iff_eq]; omega
     have K1 : Hid (∀ wx a, a = subV q ca cc pa pc ea ec → Below w.heap.size w wx → Calls Tryz.prog 170 #[a] wx fun e w' => e = .returned (.bool true) ∧ Below wx.heap.size wx w') := fun wx a ha hb => by rw [ha]; exact s_noCoefs q ca cc pa pc ea ec true (tt_iff (Classical.not_not.1 g1)) wx hq.C.len
     have K2 : Hid (∀ wx a, a = subV q ca cc pa pc ea ec → Below w.heap.size w wx → Calls Tryz.prog 171 #[a] wx fun e w' => e = .returned (.bool false) ∧ Below wx.heap.size wx w') := fun wx a ha hb => by rw [ha]; exact s_noRice q ca cc pa pc ea ec false (ff_iff g2) wx hq.R.P.len hq.R.E.len
     clear hq
     have HA : Hid (SX w q ca cc pa pc ea ec (w.alloc (.cells (subC q ca cc pa pc ea ec) 27))) := SX.new w q ca cc pa pc ea ec
     go_enter Tryz.func128, Tryz.ntmps128
     go_upto_region 1 with fail
     generalize hwa : World.alloc _ _ = wa at *
     clear hwa
     obtain ⟨x0, x1, x2, x3, x4, x5, x6, x7, x8, x9⟩ := sub_cells HA.out.box
     go_wp2_with fail
     refine (K1.out _ _ (by simp [k1, Classical.not_not.1 g0]) HA.out.below).mono ?_
     rintro e wx_HA0 ⟨rfl, hb⟩
     have HA0 : Hid (SX w q ca cc pa pc ea ec wx_HA0) := HA.out.next hb
     clear hb HA x0 x1 x2 x3 x4 x5 x6 x7 x8 x9
     obtain ⟨x0, x1, x2, x3, x4, x5, x6, x7, x8, x9⟩ := sub_cells HA0.out.box
     go_wp2_with fail
     refine (K2.out _ _ (by simp [k1, Classical.not_not.1 g0]) HA0.out.below).mono ?_
     rintro e wx_HA1 ⟨rfl, hb⟩
     have HA1 : Hid (SX w q ca cc pa pc ea ec wx_HA1) := HA0.out.next hb
     clear hb HA0 x0 x1 x2 x3 x4 x5 x6 x7 x8 x9
     obtain ⟨x0, x1, x2, x3, x4, x5, x6, x7, x8, x9⟩ := sub_cells HA1.out.box
     go_wp2_with fail
     go_ret
     exact ⟨rfl, HA1.out.below⟩
    ·skip
     rw [bb_yes hbb (.inl ⟨by omega, Classical.not_not.1 g1, by omega, Classical.not_not.1 g2⟩)]
     clear hbb
     have hk0 : (q.k == 0) = false := by rw [beq_eq_false_iff_ne]; omega
     have hk1 : (q.k == 1) = true := by rw [beq_iff_eq]; omega
     have hk2 : (q.k == 2) = false := by rw [beq_eq_false_iff_ne]; omega
     have hk3 : (q.k == 3) = false := by rw [beq_eq_false_iff_ne]; omega
     have hbo : (q.o == 0) = true := by rw [beq_iff_eq]; omega
     have K1 : Hid (∀ wx a, a = subV q ca cc pa pc ea ec → Below w.heap.size w wx → Calls Tryz.prog 170 #[a] wx fun e w' => e = .returned (.bool true) ∧ Below wx.heap.size wx w') := fun wx a ha hb => by rw [ha]; exact s_noCoefs q ca cc pa pc ea ec true (tt_iff (Classical.not_not.1 g1)) wx hq.C.len
     have K2 : Hid (∀ wx a, a = subV q ca cc pa pc ea ec → Below w.heap.size w wx → Calls Tryz.prog 171 #[a] wx fun e w' => e = .returned (.bool true) ∧ Below wx.heap.size wx w') := fun wx a ha hb => by rw [ha]; exact s_noRice q ca cc pa pc ea ec true (tt_iff (Classical.not_not.1 g2)) wx hq.R.P.len hq.R.E.len
     clear hq
     have HA : Hid (SX w q ca cc pa pc ea ec (w.alloc (.cells (subC q ca cc pa pc ea ec) 27))) := SX.new w q ca cc pa pc ea ec
     go_enter Tryz.func128, Tryz.ntmps128
     go_upto_region 1 with fail
     generalize hwa : World.alloc _ _ = wa at *
     clear hwa
     obtain ⟨x0, x1, x2, x3, x4, x5, x6, x7, x8, x9⟩ := sub_cells HA.out.box
     go_wp2_with fail
     refine (K1.out _ _ (by simp [k1, Classical.not_not.1 g0]) HA.out.below).mono ?_
     rintro e wx_HA0 ⟨rfl, hb⟩
     have HA0 : Hid (SX w q ca cc pa pc ea ec wx_HA0) := HA.out.next hb
     clear hb HA x0 x1 x2 x3 x4 x5 x6 x7 x8 x9
     obtain ⟨x0, x1, x2, x3, x4, x5, x6, x7, x8, x9⟩ := sub_cells HA0.out.box
     go_wp2_with fail
     refine (K2.out _ _ (by simp [k1, Classical.not_not.1 g0]) HA0.out.below).mono ?_
     rintro e wx_HA1 ⟨rfl, hb⟩
     have HA1 : Hid (SX w q ca cc pa pc ea ec wx_HA1) := HA0.out.next hb
     clear hb HA0 x0 x1 x2 x3 x4 x5 x6 x7 x8 x9
     obtain ⟨x0, x1, x2, x3, x4, x5, x6, x7, x8, x9⟩ := sub_cells HA1.out.box
     go_wp2_with fail
     go_ret
     exact ⟨rfl, HA1.out.below⟩
 by_cases k2 : q.k = 2
 ·skip
  by_cases g0 : ¬ ordOk q.k q.o b
  ·rw [bb_no hbb (fun h => by have h2 : kdF q b := (h.elim (fun h => by have := h.1; omega) (fun h => h.elim id (fun h => by have := h.1; omega))); exact g0 (by have := h2.2.2; omega))]
   clear hbb
   have hk0 : (q.k == 0) = false := by rw [beq_eq_false_iff_ne]; omega
   have hk1 : (q.k == 1) = false := by rw [beq_eq_false_iff_ne]; omega
   have hk2 : (q.k == 2) = true := by rw [beq_iff_eq]; omega
   have hk3 : (q.k == 3) = false := by rw [beq_eq_false_iff_ne]; omega
   have K0 : Hid (∀ wx a, a = subV q ca cc pa pc ea ec → Below w.heap.size w wx → Calls Tryz.prog 172 #[a, .int .i64 b] wx fun e w' => e = .returned (.bool false) ∧ Below wx.heap.size wx w') := fun wx a ha hb => by rw [ha]; exact s_order q ca cc pa pc ea ec b false (ff_iff g0) wx
   clear hq
   have HA : Hid (SX w q ca cc pa pc ea ec (w.alloc (.cells (subC q ca cc pa pc ea ec) 27))) := SX.new w q ca cc pa pc ea ec
   go_enter Tryz.func128, Tryz.ntmps128
   go_upto_region 1 with fail
   generalize hwa : World.alloc _ _ = wa at *
   clear hwa
   obtain ⟨x0, x1, x2, x3, x4, x5, x6, x7, x8, x9⟩ := sub_cells HA.out.box
   go_wp2_with fail
   refine (K0.out _ _ (by simp [k2]) HA.out.below).mono ?_
   rintro e wx_HA0 ⟨rfl, hb⟩
   have HA0 : Hid (SX w q ca cc pa pc ea ec wx_HA0) := HA.out.next hb
   clear hb HA x0 x1 x2 x3 x4 x5 x6 x7 x8 x9
   obtain ⟨x0, x1, x2, x3, x4, x5, x6, x7, x8, x9⟩ := sub_cells HA0.out.box
   go_wp2_with fail
   go_ret
   exact ⟨rfl, HA0.out.below⟩
  ·skip
   by_cases g1 : ¬ bareOk q
   ·rw [bb_no hbb (fun h => by have h2 : kdF q b := (h.elim (fun h => by have := h.1; omega) (fun h => h.elim id (fun h => by have := h.1; omega))); exact g1 h2.2.1)]
    clear hbb
    have hk0 : (q.k == 0) = false := by rw [beq_eq_false_iff_ne]; omega
    have hk1 : (q.k == 1) = false := by rw [beq_eq_false_iff_ne]; omega
    have hk2 : (q.k == 2) = true := by rw [beq_iff_eq]; omega
    have hk3 : (q.k == 3) = false := by rw [beq_eq_false_iff_ne]; omega
    have K0 : Hid (∀ wx a, a = subV q ca cc pa pc ea ec → Below w.heap.size w wx → Calls Tryz.prog 172 #[a, .int .i64 b] wx fun e w' => e = .returned (.bool true) ∧ Below wx.heap.size wx w') := fun wx a ha hb => by rw [ha]; exact s_order q ca cc pa pc ea ec b true (tt_iff (Classical.not_not.1 g0)) wx
    have K1 : Hid (∀ wx a, a = subV q ca cc pa pc ea ec → Below w.heap.size w wx → Calls Tryz.prog 170 #[a] wx fun e w' => e = .returned (.bool false) ∧ Below wx.heap.size wx w') := fun wx a ha hb => by rw [ha]; exact s_noCoefs q ca cc pa pc ea ec false (ff_iff g1) wx hq.C.len
    clear hq
    have HA : Hid (SX w q ca cc pa pc ea ec (w.alloc (.cells (subC q ca cc pa pc ea ec) 27))) := SX.new w q ca cc pa pc ea ec
    go_enter Tryz.func128, Tryz.ntmps128
    go_upto_region 1 with fail
    generalize hwa : World.alloc _ _ = wa at *
    clear hwa
    obtain ⟨x0, x1, x2, x3, x4, x5, x6, x7, x8, x9⟩ := sub_cells HA.out.box
    go_wp2_with fail
    refine (K0.out _ _ (by simp [k2]) HA.out.below).mono ?_
    rintro e wx_HA0 ⟨rfl, hb⟩
    have HA0 : Hid (SX w q ca cc pa pc ea ec wx_HA0) := HA.out.next hb
    clear hb HA x0 x1 x2 x3 x4 x5 x6 x7 x8 x9
    obtain ⟨x0, x1, x2, x3, x4, x5, x6, x7, x8, x9⟩ := sub_cells HA0.out.box
    go_wp2_with fail
    refine (K1.out _ _ (by simp [k2]) HA0.out.below).mono ?_
    rintro e wx_HA1 ⟨rfl, hb⟩
    have HA1 : Hid (SX w q ca cc pa pc ea ec wx_HA1) := HA0.out.next hb
    clear hb HA0 x0 x1 x2 x3 x4 x5 x6 x7 x8 x9
    obtain ⟨x0, x1, x2, x3, x4, x5, x6, x7, x8, x9⟩ := sub_cells HA1.out.box
    go_wp2_with fail
    go_ret
    exact ⟨rfl, HA1.out.below⟩
   ·skip
    by_cases g2 : ¬ chkOk q.R b q.o
    ·rw [bb_no hbb (fun h => by have h2 : kdF q b := (h.elim (fun h => by have := h.1; omega) (fun h => h.elim id (fun h => by have := h.1; omega))); exact g2 h2.2.2.2.2.2)]
     clear hbb
     have hk0 : (q.k == 0) = false := by rw [beq_eq_false_iff_ne]; omega
     have hk1 : (q.k == 1) = false := by rw [beq_eq_false_iff_ne]; omega
     have hk2 : (q.k == 2) = true := by rw [beq_iff_eq]; omega
     have hk3 : (q.k == 3) = false := by rw [beq_eq_false_iff_ne]; omega
     have K0 : Hid (∀ wx a, a = subV q ca cc pa pc ea ec → Below w.heap.size w wx → Calls Tryz.prog 172 #[a, .int .i64 b] wx fun e w' => e = .returned (.bool true) ∧ Below wx.heap.size wx w') := fun wx a ha hb => by rw [ha]; exact s_order q ca cc pa pc ea ec b true (tt_iff (Classical.not_not.1 g0)) wx
     have K1 : Hid (∀ wx a, a = subV q ca cc pa pc ea ec → Below w.heap.size w wx → Calls Tryz.prog 170 #[a] wx fun e w' => e = .returned (.bool true) ∧ Below wx.heap.size wx w') := fun wx a ha hb => by rw [ha]; exact s_noCoefs q ca cc pa pc ea ec true (tt_iff (Classical.not_not.1 g1)) wx hq.C.len
     have K2 : Hid (∀ wx a, a = subV q ca cc pa pc ea ec → Below w.heap.size w wx → Calls Tryz.prog 173 #[a, .int .i64 b] wx fun e w' => e = .returned (.bool false) ∧ Below wx.heap.size wx w') := fun wx a ha hb => by rw [ha]; exact s_rice q ca cc pa pc ea ec b false (ff_iff g2) wx (hq.R.below hb)
     clear hq
     have HA : Hid (SX w q ca cc pa pc ea ec (w.alloc (.cells (subC q ca cc pa pc ea ec) 27))) := SX.new w q ca cc pa pc ea ec
     go_enter Tryz.func128, Tryz.ntmps128
     go_upto_region 1 with fail
     generalize hwa : World.alloc _ _ = wa at *
     clear hwa
     obtain ⟨x0, x1, x2, x3, x4, x5, x6, x7, x8, x9⟩ := sub_cells HA.out.box
     go_wp2_with fail
     refine (K0.out _ _ (by simp [k2]) HA.out.below).mono ?_
     rintro e wx_HA0 ⟨rfl, hb⟩
     have HA0 : Hid (SX w q ca cc pa pc ea ec wx_HA0) := HA.out.next hb
     clear hb HA x0 x1 x2 x3 x4 x5 x6 x7 x8 x9
     obtain ⟨x0, x1, x2, x3, x4, x5, x6, x7, x8, x9⟩ := sub_cells HA0.out.box
     go_wp2_with fail
     refine (K1.out _ _ (by simp [k2]) HA0.out.below).mono ?_
     rintro e wx_HA1 ⟨rfl, hb⟩
     have HA1 : Hid (SX w q ca cc pa pc ea ec wx_HA1) := HA0.out.next hb
     clear hb HA0 x0 x1 x2 x3 x4 x5 x6 x7 x8 x9
     obtain ⟨x0, x1, x2, x3, x4, x5, x6, x7, x8, x9⟩ := sub_cells HA1.out.box
     go_wp2_with fail
     refine (K2.out _ _ (by simp [k2]) HA1.out.below).mono ?_
     rintro e wx_HA2 ⟨rfl, hb⟩
     have HA2 : Hid (SX w q ca cc pa pc ea ec wx_HA2) := HA1.out.next hb
     clear hb HA1 x0 x1 x2 x3 x4 x5 x6 x7 x8 x9
     obtain ⟨x0, x1, x2, x3, x4, x5, x6, x7, x8, x9⟩ := sub_cells HA2.out.box
     go_wp2_with fail
     go_ret
     exact ⟨rfl, HA2.out.below⟩
    ·skip
     rw [bb_yes hbb (by have h3 := Classical.not_not.1 g0; exact .inr (.inl ⟨by omega, Classical.not_not.1 g1, by omega, by omega, by omega, Classical.not_not.1 g2⟩))]
     clear hbb
     have hk0 : (q.k == 0) = false := by rw [beq_eq_false_iff_ne]; omega
     have hk1 : (q.k == 1) = false := by rw [beq_eq_false_iff_ne]; omega
     have hk2 : (q.k == 2) = true := by rw [beq_iff_eq]; omega
     have hk3 : (q.k == 3) = false := by rw [beq_eq_false_iff_ne]; omega
     have K0 : Hid (∀ wx a, a = subV q ca cc pa pc ea ec → Below w.heap.size w wx → Calls Tryz.prog 172 #[a, .int .i64 b] wx fun e w' => e = .returned (.bool true) ∧ Below wx.heap.size wx w') := fun wx a ha hb => by rw [ha]; exact s_order q ca cc pa pc ea ec b true (tt_iff (Classical.not_not.1 g0)) wx
     have K1 : Hid (∀ wx a, a = subV q ca cc pa pc ea ec → Below w.heap.size w wx → Calls Tryz.prog 170 #[a] wx fun e w' => e = .returned (.bool true) ∧ Below wx.heap.size wx w') := fun wx a ha hb => by rw [ha]; exact s_noCoefs q ca cc pa pc ea ec true (tt_iff (Classical.not_not.1 g1)) wx hq.C.len
     have K2 : Hid (∀ wx a, a = subV q ca cc pa pc ea ec → Below w.heap.size w wx → Calls Tryz.prog 173 #[a, .int .i64 b] wx fun e w' => e = .returned (.bool true) ∧ Below wx.heap.size wx w') := fun wx a ha hb => by rw [ha]; exact s_rice q ca cc pa pc ea ec b true (tt_iff (Classical.not_not.1 g2)) wx (hq.R.below hb)
     clear hq
     have HA : Hid (SX w q ca cc pa pc ea ec (w.alloc (.cells (subC q ca cc pa pc ea ec) 27))) := SX.new w q ca cc pa pc ea ec
     go_enter Tryz.func128, Tryz.ntmps128
     go_upto_region 1 with fail
     generalize hwa : World.alloc _ _ = wa at *
     clear hwa
     obtain ⟨x0, x1, x2, x3, x4, x5, x6, x7, x8, x9⟩ := sub_cells HA.out.box
     go_wp2_with fail
     refine (K0.out _ _ (by simp [k2]) HA.out.below).mono ?_
     rintro e wx_HA0 ⟨rfl, hb⟩
     have HA0 : Hid (SX w q ca cc pa pc ea ec wx_HA0) := HA.out.next hb
     clear hb HA x0 x1 x2 x3 x4 x5 x6 x7 x8 x9
     obtain ⟨x0, x1, x2, x3, x4, x5, x6, x7, x8, x9⟩ := sub_cells HA0.out.box
     go_wp2_with fail
     refine (K1.out _ _ (by simp [k2]) HA0.out.below).mono ?_
     rintro e wx_HA1 ⟨rfl, hb⟩
     have HA1 : Hid (SX w q ca cc pa pc ea ec wx_HA1) := HA0.out.next hb
     clear hb HA0 x0 x1 x2 x3 x4 x5 x6 x7 x8 x9
     obtain ⟨x0, x1, x2, x3, x4, x5, x6, x7, x8, x9⟩ := sub_cells HA1.out.box
     go_wp2_with fail
     refine (K2.out _ _ (by simp [k2]) HA1.out.below).mono ?_
     rintro e wx_HA2 ⟨rfl, hb⟩
     have HA2 : Hid (SX w q ca cc pa pc ea ec wx_HA2) := HA1.out.next hb
     clear hb HA1 x0 x1 x2 x3 x4 x5 x6 x7 x8 x9
     obtain ⟨x0, x1, x2, x3, x4, x5, x6, x7, x8, x9⟩ := sub_cells HA2.out.box
     go_wp2_with fail
     go_ret
     exact ⟨rfl, HA2.out.below⟩
 by_cases k3 : q.k = 3
 ·skip
  by_cases g0 : ¬ ordOk q.k q.o b
  ·rw [bb_no hbb (fun h => by have h2 : kdL q b := (h.elim (fun h => by have := h.1; omega) (fun h => h.elim (fun h => by have := h.1; omega) id)); exact g0 (by have := h2.2; omega))]
   clear hbb
   have hk0 : (q.k == 0) = false := by rw [beq_eq_false_iff_ne]; omega
   have hk1 : (q.k == 1) = false := by rw [beq_eq_false_iff_ne]; omega
   have hk2 : (q.k == 2) = false := by rw [beq_eq_false_iff_ne]; omega
   have hk3 : (q.k == 3) = true := by rw [beq_iff_eq]; omega
   have K0 : Hid (∀ wx a, a = subV q ca cc pa pc ea ec → Below w.heap.size w wx → Calls Tryz.prog 172 #[a, .int .i64 b] wx fun e w' => e = .returned (.bool false) ∧ Below wx.heap.size wx w') := fun wx a ha hb => by rw [ha]; exact s_order q ca cc pa pc ea ec b false (ff_iff g0) wx
   clear hq
   have HA : Hid (SX w q ca cc pa pc ea ec (w.alloc (.cells (subC q ca cc pa pc ea ec) 27))) := SX.new w q ca cc pa pc ea ec
   go_enter Tryz.func128, Tryz.ntmps128
   go_upto_region 1 with fail
   generalize hwa : World.alloc _ _ = wa at *
   clear hwa
   obtain ⟨x0, x1, x2, x3, x4, x5, x6, x7, x8, x9⟩ := sub_cells HA.out.box
   go_wp2_with fail
   refine (K0.out _ _ (by simp [k3]) HA.out.below).mono ?_
   rintro e wx_HA0 ⟨rfl, hb⟩
   have HA0 : Hid (SX w q ca cc pa pc ea ec wx_HA0) := HA.out.next hb
   clear hb HA x0 x1 x2 x3 x4 x5 x6 x7 x8 x9
   obtain ⟨x0, x1, x2, x3, x4, x5, x6, x7, x8, x9⟩ := sub_cells HA0.out.box
   go_wp2_with fail
   go_ret
   exact ⟨rfl, HA0.out.below⟩
  ·skip
   by_cases g1 : ¬ coefOk q
   ·rw [bb_no hbb (fun h => by have h2 : kdL q b := (h.elim (fun h => by have := h.1; omega) (fun h => h.elim (fun h => by have := h.1; omega) id)); obtain ⟨a0, a1, a2, a3, a4, a5, a6, a7, a8, a9, a10⟩ := h2; exact g1 ⟨⟨a4, a5⟩, ⟨a6, a7⟩, a8, a9⟩)]
    clear hbb
    have hk0 : (q.k == 0) = false := by rw [beq_eq_false_iff_ne]; omega
    have hk1 : (q.k == 1) = false := by rw [beq_eq_false_iff_ne]; omega
    have hk2 : (q.k == 2) = false := by rw [beq_eq_false_iff_ne]; omega
    have hk3 : (q.k == 3) = true := by rw [beq_iff_eq]; omega
    have K0 : Hid (∀ wx a, a = subV q ca cc pa pc ea ec → Below w.heap.size w wx → Calls Tryz.prog 172 #[a, .int .i64 b] wx fun e w' => e = .returned (.bool true) ∧ Below wx.heap.size wx w') := fun wx a ha hb => by rw [ha]; exact s_order q ca cc pa pc ea ec b true (tt_iff (Classical.not_not.1 g0)) wx
    have K1 : Hid (∀ wx a, a = subV q ca cc pa pc ea ec → Below w.heap.size w wx → Calls Tryz.prog 174 #[a] wx fun e w' => e = .returned (.bool false) ∧ Below wx.heap.size wx w') := fun wx a ha hb => by rw [ha]; exact s_coefs q ca cc pa pc ea ec false (ff_iff g1) wx (hq.C.below hb)
    clear hq
    have HA : Hid (SX w q ca cc pa pc ea ec (w.alloc (.cells (subC q ca cc pa pc ea ec) 27))) := SX.new w q ca cc pa pc ea ec
    go_enter Tryz.func128, Tryz.ntmps128
    go_upto_region 1 with fail
    generalize hwa : World.alloc _ _ = wa at *
    clear hwa
    obtain ⟨x0, x1, x2, x3, x4, x5, x6, x7, x8, x9⟩ := sub_cells HA.out.box
    go_wp2_with fail
    refine (K0.out _ _ (by simp [k3]) HA.out.below).mono ?_
    rintro e wx_HA0 ⟨rfl, hb⟩
    have HA0 : Hid (SX w q ca cc pa pc ea ec wx_HA0) := HA.out.next hb
    clear hb HA x0 x1 x2 x3 x4 x5 x6 x7 x8 x9
    obtain ⟨x0, x1, x2, x3, x4, x5, x6, x7, x8, x9⟩ := sub_cells HA0.out.box
    go_wp2_with fail
    refine (K1.out _ _ (by simp [k3]) HA0.out.below).mono ?_
    rintro e wx_HA1 ⟨rfl, hb⟩
    have HA1 : Hid (SX w q ca cc pa pc ea ec wx_HA1) := HA0.out.next hb
    clear hb HA0 x0 x1 x2 x3 x4 x5 x6 x7 x8 x9
    obtain ⟨x0, x1, x2, x3, x4, x5, x6, x7, x8, x9⟩ := sub_cells HA1.out.box
    go_wp2_with fail
    go_ret
    exact ⟨rfl, HA1.out.below⟩
   ·skip
    by_cases g2 : ¬ chkOk q.R b q.o
    ·rw [bb_no hbb (fun h => by have h2 : kdL q b := (h.elim (fun h => by have := h.1; omega) (fun h => h.elim (fun h => by have := h.1; omega) id)); obtain ⟨a0, a1, a2, a3, a4, a5, a6, a7, a8, a9, a10⟩ := h2; exact g2 a10)]
     clear hbb
     have hk0 : (q.k == 0) = false := by rw [beq_eq_false_iff_ne]; omega
     have hk1 : (q.k == 1) = false := by rw [beq_eq_false_iff_ne]; omega
     have hk2 : (q.k == 2) = false := by rw [beq_eq_false_iff_ne]; omega
     have hk3 : (q.k == 3) = true := by rw [beq_iff_eq]; omega
     have K0 : Hid (∀ wx a, a = subV q ca cc pa pc ea ec → Below w.heap.size w wx → Calls Tryz.prog 172 #[a, .int .i64 b] wx fun e w' => e = .returned (.bool true) ∧ Below wx.heap.size wx w') := fun wx a ha hb => by rw [ha]; exact s_order q ca cc pa pc ea ec b true (tt_iff (Classical.not_not.1 g0)) wx
     have K1 : Hid (∀ wx a, a = subV q ca cc pa pc ea ec → Below w.heap.size w wx → Calls Tryz.prog 174 #[a] wx fun e w' => e = .returned (.bool true) ∧ Below wx.heap.size wx w') := fun wx a ha hb => by rw [ha]; exact s_coefs q ca cc pa pc ea ec true (tt_iff (Classical.not_not.1 g1)) wx (hq.C.below hb)
     have K2 : Hid (∀ wx a, a = subV q ca cc pa pc ea ec → Below w.heap.size w wx → Calls Tryz.prog 173 #[a, .int .i64 b] wx fun e w' => e = .returned (.bool false) ∧ Below wx.heap.size wx w') := fun wx a ha hb => by rw [ha]; exact s_rice q ca cc pa pc ea ec b false (ff_iff g2) wx (hq.R.below hb)
     clear hq
     have HA : Hid (SX w q ca cc pa pc ea ec (w.alloc (.cells (subC q ca cc pa pc ea ec) 27))) := SX.new w q ca cc pa pc ea ec
     go_enter Tryz.func128, Tryz.ntmps128
     go_upto_region 1 with fail
     generalize hwa : World.alloc _ _ = wa at *
     clear hwa
     obtain ⟨x0, x1, x2, x3, x4, x5, x6, x7, x8, x9⟩ := sub_cells HA.out.box
     go_wp2_with fail
     refine (K0.out _ _ (by simp [k3]) HA.out.below).mono ?_
     rintro e wx_HA0 ⟨rfl, hb⟩
     have HA0 : Hid (SX w q ca cc pa pc ea ec wx_HA0) := HA.out.next hb
     clear hb HA x0 x1 x2 x3 x4 x5 x6 x7 x8 x9
     obtain ⟨x0, x1, x2, x3, x4, x5, x6, x7, x8, x9⟩ := sub_cells HA0.out.box
     go_wp2_with fail
     refine (K1.out _ _ (by simp [k3]) HA0.out.below).mono ?_
     rintro e wx_HA1 ⟨rfl, hb⟩
     have HA1 : Hid (SX w q ca cc pa pc ea ec wx_HA1) := HA0.out.next hb
     clear hb HA0 x0 x1 x2 x3 x4 x5 x6 x7 x8 x9
     obtain ⟨x0, x1, x2, x3, x4, x5, x6, x7, x8, x9⟩ := sub_cells HA1.out.box
     go_wp2_with fail
     refine (K2.out _ _ (by simp [k3]) HA1.out.below).mono ?_
     rintro e wx_HA2 ⟨rfl, hb⟩
     have HA2 : Hid (SX w q ca cc pa pc ea ec wx_HA2) := HA1.out.next hb
     clear hb HA1 x0 x1 x2 x3 x4 x5 x6 x7 x8 x9
     obtain ⟨x0, x1, x2, x3, x4, x5, x6, x7, x8, x9⟩ := sub_cells HA2.out.box
     go_wp2_with fail
     go_ret
     exact ⟨rfl, HA2.out.below⟩
    ·skip
     rw [bb_yes hbb (by have h3 := Classical.not_not.1 g0; have h4 := Classical.not_not.1 g1; exact .inr (.inr ⟨by omega, by omega, by omega, by omega, h4.1.1, h4.1.2, h4.2.1.1, h4.2.1.2, h4.2.2.1, h4.2.2.2, Classical.not_not.1 g2⟩))]
     clear hbb
     have hk0 : (q.k == 0) = false := by rw [beq_eq_false_iff_ne]; omega
     have hk1 : (q.k == 1) = false := by rw [beq_eq_false_iff_ne]; omega
     have hk2 : (q.k == 2) = false := by rw [beq_eq_false_iff_ne]; omega
     have hk3 : (q.k == 3) = true := by rw [beq_iff_eq]; omega
     have K0 : Hid (∀ wx a, a = subV q ca cc pa pc ea ec → Below w.heap.size w wx → Calls Tryz.prog 172 #[a, .int .i64 b] wx fun e w' => e = .returned (.bool true) ∧ Below wx.heap.size wx w') := fun wx a ha hb => by rw [ha]; exact s_order q ca cc pa pc ea ec b true (tt_iff (Classical.not_not.1 g0)) wx
     have K1 : Hid (∀ wx a, a = subV q ca cc pa pc ea ec → Below w.heap.size w wx → Calls Tryz.prog 174 #[a] wx fun e w' => e = .returned (.bool true) ∧ Below wx.heap.size wx w') := fun wx a ha hb => by rw [ha]; exact s_coefs q ca cc pa pc ea ec true (tt_iff (Classical.not_not.1 g1)) wx (hq.C.below hb)
     have K2 : Hid (∀ wx a, a = subV q ca cc pa pc ea ec → Below w.heap.size w wx → Calls Tryz.prog 173 #[a, .int .i64 b] wx fun e w' => e = .returned (.bool true) ∧ Below wx.heap.size wx w') := fun wx a ha hb => by rw [ha]; exact s_rice q ca cc pa pc ea ec b true (tt_iff (Classical.not_not.1 g2)) wx (hq.R.below hb)
     clear hq
     have HA : Hid (SX w q ca cc pa pc ea ec (w.alloc (.cells (subC q ca cc pa pc ea ec) 27))) := SX.new w q ca cc pa pc ea ec
     go_enter Tryz.func128, Tryz.ntmps128
     go_upto_region 1 with fail
     generalize hwa : World.alloc _ _ = wa at *
     clear hwa
     obtain ⟨x0, x1, x2, x3, x4, x5, x6, x7, x8, x9⟩ := sub_cells HA.out.box
     go_wp2_with fail
     refine (K0.out _ _ (by simp [k3]) HA.out.below).mono ?_
     rintro e wx_HA0 ⟨rfl, hb⟩
     have HA0 : Hid (SX w q ca cc pa pc ea ec wx_HA0) := HA.out.next hb
     clear hb HA x0 x1 x2 x3 x4 x5 x6 x7 x8 x9
     obtain ⟨x0, x1, x2, x3, x4, x5, x6, x7, x8, x9⟩ := sub_cells HA0.out.box
     go_wp2_with fail
     refine (K1.out _ _ (by simp [k3]) HA0.out.below).mono ?_
     rintro e wx_HA1 ⟨rfl, hb⟩
     have HA1 : Hid (SX w q ca cc pa pc ea ec wx_HA1) := HA0.out.next hb
     clear hb HA0 x0 x1 x2 x3 x4 x5 x6 x7 x8 x9
     obtain ⟨x0, x1, x2, x3, x4, x5, x6, x7, x8, x9⟩ := sub_cells HA1.out.box
     go_wp2_with fail
     refine (K2.out _ _ (by simp [k3]) HA1.out.below).mono ?_
     rintro e wx_HA2 ⟨rfl, hb⟩
     have HA2 : Hid (SX w q ca cc pa pc ea ec wx_HA2) := HA1.out.next hb
     clear hb HA1 x0 x1 x2 x3 x4 x5 x6 x7 x8 x9
     obtain ⟨x0, x1, x2, x3, x4, x5, x6, x7, x8, x9⟩ := sub_cells HA2.out.box
     go_wp2_with fail
     go_ret
     exact ⟨rfl, HA2.out.below⟩
 rw [bb_no hbb (fun h => by rcases h with h | h | h <;> (have := h.1; omega))]
 clear hbb
 have hk0 : (q.k == 0) = false := by rw [beq_eq_false_iff_ne]; omega
 have hk1 : (q.k == 1) = false := by rw [beq_eq_false_iff_ne]; omega
 have hk2 : (q.k == 2) = false := by rw [beq_eq_false_iff_ne]; omega
 have hk3 : (q.k == 3) = false := by rw [beq_eq_false_iff_ne]; omega
 clear hq
 have HA : Hid (SX w q ca cc pa pc ea ec (w.alloc (.cells (subC q ca cc pa pc ea ec) 27))) := SX.new w q ca cc pa pc ea ec
 go_enter Tryz.func128, Tryz.ntmps128
 go_upto_region 1 with fail
 generalize hwa : World.alloc _ _ = wa at *
 clear hwa
 obtain ⟨x0, x1, x2, x3, x4, x5, x6, x7, x8, x9⟩ := sub_cells HA.out.box
 go_wp2_with fail
 go_ret
 exact ⟨rfl, HA.out.below⟩
theorem s_sub_iff (q : Sb) (b v : Int) : subOk q b v ↔ ((1 ≤ b ∧ b ≤ 65535) ∧ (1 ≤ v ∧ v ≤ 33)) ∧ 0 ≤ q.w ∧ q.w < v ∧ (kdA q ∨ kdF q b ∨ kdL q b) :=
 ⟨fun h => ⟨⟨h.1, h.2.1⟩, h.2.2.1.1, h.2.2.1.2, h.2.2.2⟩, fun h => ⟨h.1.1, h.1.2, ⟨h.2.1, h.2.2.1⟩, h.2.2.2⟩⟩
theorem s_check (q : Sb) (ca : Option Addr) (cc : Nat) (pa : Option Addr) (pc : Nat) (ea : Option Addr) (ec : Nat) (b v r : Int) (hyes : subOk q b v → r = 0) (hno : ¬ subOk q b v → r = 60) (w : World) (hq : SbAt w q ca pa ea) : Calls Tryz.prog 66 #[subV q ca cc pa pc ea ec, .int .i64 b, .int .i64 v] w fun e w' => e = .returned (.int .i64 r) ∧ Below w.heap.size w w' := by
 by_cases g0 : ¬ ((1 ≤ b ∧ b ≤ 65535) ∧ (1 ≤ v ∧ v ≤ 33))
 ·rw [hno (fun h => g0 (((s_sub_iff q b v).1 h).1))]
  have K0 : Hid (∀ wx, Below w.heap.size w wx → Calls Tryz.prog 127 #[.int .i64 b, .int .i64 v] wx fun e w' => e = .returned (.bool false) ∧ Below wx.heap.size wx w') := fun wx hb => (s_areOf b v false (ff_iff g0) wx).mono fun e w' h => ⟨h.1, by rw [h.2]; exact Below.refl _ _⟩
  clear hq
  have HA : Hid (SX w q ca cc pa pc ea ec (w.alloc (.cells (subC q ca cc pa pc ea ec) 27))) := SX.new w q ca cc pa pc ea ec
  go_enter Tryz.func66, Tryz.ntmps66
  go_upto_region 1 with fail
  generalize hwa : World.alloc _ _ = wa at *
  clear hwa
  obtain ⟨x0, x1, x2, x3, x4, x5, x6, x7, x8, x9⟩ := sub_cells HA.out.box
  go_wp2_with fail
  refine (K0.out _ HA.out.below).mono ?_
  rintro e wx_HA0 ⟨rfl, hb⟩
  have HA0 : Hid (SX w q ca cc pa pc ea ec wx_HA0) := HA.out.next hb
  clear hb HA x0 x1 x2 x3 x4 x5 x6 x7 x8 x9
  obtain ⟨x0, x1, x2, x3, x4, x5, x6, x7, x8, x9⟩ := sub_cells HA0.out.box
  go_wp2_with fail
  go_ret
  exact ⟨rfl, HA0.out.below⟩
 ·skip
  by_cases g1 : ¬ 0 ≤ q.w
  ·rw [hno (fun h => g1 (((s_sub_iff q b v).1 h).2.1))]
   have K0 : Hid (∀ wx, Below w.heap.size w wx → Calls Tryz.prog 127 #[.int .i64 b, .int .i64 v] wx fun e w' => e = .returned (.bool true) ∧ Below wx.heap.size wx w') := fun wx hb => (s_areOf b v true (tt_iff (Classical.not_not.1 g0)) wx).mono fun e w' h => ⟨h.1, by rw [h.2]; exact Below.refl _ _⟩
   clear hq
   have hw : q.w < 0 := by omega
   have HA : Hid (SX w q ca cc pa pc ea ec (w.alloc (.cells (subC q ca cc pa pc ea ec) 27))) := SX.new w q ca cc pa pc ea ec
   go_enter Tryz.func66, Tryz.ntmps66
   go_upto_region 1 with fail
   generalize hwa : World.alloc _ _ = wa at *
   clear hwa
   obtain ⟨x0, x1, x2, x3, x4, x5, x6, x7, x8, x9⟩ := sub_cells HA.out.box
   go_wp2_with fail
   refine (K0.out _ HA.out.below).mono ?_
   rintro e wx_HA0 ⟨rfl, hb⟩
   have HA0 : Hid (SX w q ca cc pa pc ea ec wx_HA0) := HA.out.next hb
   clear hb HA x0 x1 x2 x3 x4 x5 x6 x7 x8 x9
   obtain ⟨x0, x1, x2, x3, x4, x5, x6, x7, x8, x9⟩ := sub_cells HA0.out.box
   go_wp2_with fail
   go_ret
   exact ⟨rfl, HA0.out.below⟩
  ·skip
   by_cases g2 : ¬ q.w < v
   ·rw [hno (fun h => g2 (((s_sub_iff q b v).1 h).2.2.1))]
    have K0 : Hid (∀ wx, Below w.heap.size w wx → Calls Tryz.prog 127 #[.int .i64 b, .int .i64 v] wx fun e w' => e = .returned (.bool true) ∧ Below wx.heap.size wx w') := fun wx hb => (s_areOf b v true (tt_iff (Classical.not_not.1 g0)) wx).mono fun e w' h => ⟨h.1, by rw [h.2]; exact Below.refl _ _⟩
    clear hq
    have hw : v ≤ q.w := by omega
    have hw0 : 0 ≤ q.w := by omega
    have HA : Hid (SX w q ca cc pa pc ea ec (w.alloc (.cells (subC q ca cc pa pc ea ec) 27))) := SX.new w q ca cc pa pc ea ec
    go_enter Tryz.func66, Tryz.ntmps66
    go_upto_region 1 with fail
    generalize hwa : World.alloc _ _ = wa at *
    clear hwa
    obtain ⟨x0, x1, x2, x3, x4, x5, x6, x7, x8, x9⟩ := sub_cells HA.out.box
    go_wp2_with fail
    refine (K0.out _ HA.out.below).mono ?_
    rintro e wx_HA0 ⟨rfl, hb⟩
    have HA0 : Hid (SX w q ca cc pa pc ea ec wx_HA0) := HA.out.next hb
    clear hb HA x0 x1 x2 x3 x4 x5 x6 x7 x8 x9
    obtain ⟨x0, x1, x2, x3, x4, x5, x6, x7, x8, x9⟩ := sub_cells HA0.out.box
    go_wp2_with fail
    go_ret
    exact ⟨rfl, HA0.out.below⟩
   ·skip
    by_cases g3 : ¬ (kdA q ∨ kdF q b ∨ kdL q b)
    ·rw [hno (fun h => g3 (((s_sub_iff q b v).1 h).2.2.2))]
     have K0 : Hid (∀ wx, Below w.heap.size w wx → Calls Tryz.prog 127 #[.int .i64 b, .int .i64 v] wx fun e w' => e = .returned (.bool true) ∧ Below wx.heap.size wx w') := fun wx hb => (s_areOf b v true (tt_iff (Classical.not_not.1 g0)) wx).mono fun e w' h => ⟨h.1, by rw [h.2]; exact Below.refl _ _⟩
     have K1 : Hid (∀ wx a, a = subV q ca cc pa pc ea ec → Below w.heap.size w wx → Calls Tryz.prog 128 #[a, .int .i64 b] wx fun e w' => e = .returned (.bool false) ∧ Below wx.heap.size wx w') := fun wx a ha hb => by rw [ha]; exact s_may q ca cc pa pc ea ec b false (ff_iff g3) wx (hq.below hb)
     clear hq
     have hw : q.w < v := by omega
     have hw0 : 0 ≤ q.w := by omega
     have HA : Hid (SX w q ca cc pa pc ea ec (w.alloc (.cells (subC q ca cc pa pc ea ec) 27))) := SX.new w q ca cc pa pc ea ec
     go_enter Tryz.func66, Tryz.ntmps66
     go_upto_region 1 with fail
     generalize hwa : World.alloc _ _ = wa at *
     clear hwa
     obtain ⟨x0, x1, x2, x3, x4, x5, x6, x7, x8, x9⟩ := sub_cells HA.out.box
     go_wp2_with fail
     refine (K0.out _ HA.out.below).mono ?_
     rintro e wx_HA0 ⟨rfl, hb⟩
     have HA0 : Hid (SX w q ca cc pa pc ea ec wx_HA0) := HA.out.next hb
     clear hb HA x0 x1 x2 x3 x4 x5 x6 x7 x8 x9
     obtain ⟨x0, x1, x2, x3, x4, x5, x6, x7, x8, x9⟩ := sub_cells HA0.out.box
     go_wp2_with fail
     refine (K1.out _ _ (by simp []) HA0.out.below).mono ?_
     rintro e wx_HA1 ⟨rfl, hb⟩
     have HA1 : Hid (SX w q ca cc pa pc ea ec wx_HA1) := HA0.out.next hb
     clear hb HA0 x0 x1 x2 x3 x4 x5 x6 x7 x8 x9
     obtain ⟨x0, x1, x2, x3, x4, x5, x6, x7, x8, x9⟩ := sub_cells HA1.out.box
     go_wp2_with fail
     go_ret
     exact ⟨rfl, HA1.out.below⟩
    ·skip
     rw [hyes ((s_sub_iff q b v).2 ⟨Classical.not_not.1 g0, by omega, by omega, Classical.not_not.1 g3⟩)]
     have K0 : Hid (∀ wx, Below w.heap.size w wx → Calls Tryz.prog 127 #[.int .i64 b, .int .i64 v] wx fun e w' => e = .returned (.bool true) ∧ Below wx.heap.size wx w') := fun wx hb => (s_areOf b v true (tt_iff (Classical.not_not.1 g0)) wx).mono fun e w' h => ⟨h.1, by rw [h.2]; exact Below.refl _ _⟩
     have K1 : Hid (∀ wx a, a = subV q ca cc pa pc ea ec → Below w.heap.size w wx → Calls Tryz.prog 128 #[a, .int .i64 b] wx fun e w' => e = .returned (.bool true) ∧ Below wx.heap.size wx w') := fun wx a ha hb => by rw [ha]; exact s_may q ca cc pa pc ea ec b true (tt_iff (Classical.not_not.1 g3)) wx (hq.below hb)
     clear hq
     have hw : q.w < v := by omega
     have hw0 : 0 ≤ q.w := by omega
     have HA : Hid (SX w q ca cc pa pc ea ec (w.alloc (.cells (subC q ca cc pa pc ea ec) 27))) := SX.new w q ca cc pa pc ea ec
     go_enter Tryz.func66, Tryz.ntmps66
     go_upto_region 1 with fail
     generalize hwa : World.alloc _ _ = wa at *
     clear hwa
     obtain ⟨x0, x1, x2, x3, x4, x5, x6, x7, x8, x9⟩ := sub_cells HA.out.box
     go_wp2_with fail
     refine (K0.out _ HA.out.below).mono ?_
     rintro e wx_HA0 ⟨rfl, hb⟩
     have HA0 : Hid (SX w q ca cc pa pc ea ec wx_HA0) := HA.out.next hb
     clear hb HA x0 x1 x2 x3 x4 x5 x6 x7 x8 x9
     obtain ⟨x0, x1, x2, x3, x4, x5, x6, x7, x8, x9⟩ := sub_cells HA0.out.box
     go_wp2_with fail
     refine (K1.out _ _ (by simp []) HA0.out.below).mono ?_
     rintro e wx_HA1 ⟨rfl, hb⟩
     have HA1 : Hid (SX w q ca cc pa pc ea ec wx_HA1) := HA0.out.next hb
     clear hb HA0 x0 x1 x2 x3 x4 x5 x6 x7 x8 x9
     obtain ⟨x0, x1, x2, x3, x4, x5, x6, x7, x8, x9⟩ := sub_cells HA1.out.box
     go_wp2_with fail
     go_ret
     exact ⟨rfl, HA1.out.below⟩
theorem i64_mask (n : Int) (k : Nat) (hk : k ≤ 62) : bits BinOp.and IntKind.i64 n ((2 ^ k - 1 : Nat) : Int) = n % ((2 ^ k : Nat) : Int) := by
 show IntKind.i64.wrap ((BitVec.ofInt 64 n &&& BitVec.ofInt 64 ((2 ^ k - 1 : Nat) : Int)).toNat : Int) = _
 have h1 : (2 : Nat) ^ k ≤ 2 ^ 62 := Nat.pow_le_pow_right (by decide) hk
 have h0 : 0 < (2 : Nat) ^ k := Nat.two_pow_pos k
 have e62 : (2 : Nat) ^ 62 = 4611686018427387904 := by decide
 have e2 : (BitVec.ofInt 64 ((2 ^ k - 1 : Nat) : Int)).toNat = 2 ^ k - 1 := by
  rw [BitVec.toNat_ofInt]
  have e64 : (2 : Nat) ^ 64 = 18446744073709551616 := by decide
  have : (((2 ^ k - 1 : Nat) : Int) % ((2 ^ 64 : Nat) : Int)) = ((2 ^ k - 1 : Nat) : Int) := Int.emod_eq_of_lt (by omega) (by omega)
  rw [this]; rfl
 rw [BitVec.toNat_and, BitVec.toNat_ofInt, e2, Nat.and_two_pow_sub_one_eq_mod]
 have hd : ((2 ^ k : Nat) : Int) ∣ ((2 ^ 64 : Nat) : Int) := Int.natCast_dvd_natCast.2 (Nat.pow_dvd_pow 2 (by omega))
 have e3 : (((n % ((2 ^ 64 : Nat) : Int)).toNat % 2 ^ k : Nat) : Int) = n % ((2 ^ k : Nat) : Int) := by
  rw [Int.natCast_emod, Int.toNat_of_nonneg (Int.emod_nonneg _ (by decide)), Int.emod_emod_of_dvd _ hd]
 rw [e3]
 have h2 := Int.emod_nonneg n (show ((2 ^ k : Nat) : Int) ≠ 0 by omega)
 have h3 := Int.emod_lt_of_pos n (show (0 : Int) < ((2 ^ k : Nat) : Int) by omega)
 rw [IntKind.wrap_i64]
 omega
theorem dvB_at (l : List Int) (k : Nat) : dvB l k = true ↔ ∀ j, j < l.length → l.getD j 0 % ((2 ^ k : Nat) : Int) = 0 := by
 rw [dvB_iff]
 have e : ((2 ^ k : Nat) : Int) = (2 : Int) ^ k := by simp
 rw [e]
 constructor
 ·intro h j hj
  refine h _ ?_
  rw [List.getD_eq_getElem?_getD, List.getElem?_eq_getElem hj]; exact List.getElem_mem hj
 ·intro h n hn
  obtain ⟨j, hj, rfl⟩ := List.getElem_of_mem hn
  have := h j hj
  rw [List.getD_eq_getElem?_getD, List.getElem?_eq_getElem hj] at this
  exact this
theorem xdiv_spec (l : List Int) (k : Nat) (hk : k ≤ 31) (la : Option Addr) (lc : Nat) (w : World) (hl : IntsAt w la l) : Calls Tryz.prog 77 #[.slice la l.length lc, .int .i64 (k : Int)] w fun e w' => e = .returned (.bool (dvB l k)) ∧ w' = w := by
 have h1 := hl.len
 have HL : Hid (IntsAt w la l) := hl
 have HDT : Hid (dvB l k = true ↔ ∀ j, j < l.length → l.getD j 0 % ((2 ^ k : Nat) : Int) = 0) := dvB_at l k
 have HM : Hid (∀ n : Int, bits BinOp.and IntKind.i64 n ((2 ^ k - 1 : Nat) : Int) = n % ((2 ^ k : Nat) : Int)) := fun n => i64_mask n k (by omega)
 have hp1 : 1 ≤ 2 ^ k := Nat.one_le_two_pow
 have hp2 : 2 ^ k ≤ 2147483648 := Nat.le_trans (Nat.pow_le_pow_right (by decide) hk) (by decide)
 have hpw : (2 : Int) ^ k = ((2 ^ k : Nat) : Int) := by simp
 generalize hN : 2 ^ k = N at *
 have hpm : (N : Int) - 1 = ((N - 1 : Nat) : Int) := by omega
 clear hl hN
 go_enter Tryz.func77, Tryz.ntmps77
 go_wp2_with fail
 go_loopw [5] (fun t wr => ∃ i : Nat, i ≤ l.length ∧ t = .int .i64 (i : Int) ∧ (∀ j, j < i → l.getD j 0 % (N : Int) = 0) ∧ wr = w) (fun t _ => l.length - (intOf t).toNat)
 case atStart => exact ⟨0, Nat.zero_le _, rfl, fun j hj => absurd hj (Nat.not_lt_zero _), rfl⟩
 case round =>
  obtain ⟨i, hi, rfl, hall, rfl⟩ := hrel
  have HA : Hid (∀ j, j < i → l.getD j 0 % (N : Int) = 0) := hall
  clear hall
  by_cases hlt : i < l.length
  ·obtain ⟨b1, o1, rfl, q1⟩ := HL.out.at i hlt
   have r1 := q1 wr (Below.refl _ _)
   have hb := HM.out (l.getD i 0)
   clear q1
   have HX : Hid (l.getD i 0 = l.getD i 0) := rfl
   obtain ⟨x, hx⟩ : ∃ x, x = l.getD i 0 := ⟨_, rfl⟩
   have HXE : Hid (x = l.getD i 0) := hx
   rw [← hx] at r1 hb
   clear hx HX
   generalize hrr : x % (N : Int) = rr at *
   have HRR : Hid (x % (N : Int) = rr) := hrr
   clear hrr
   by_cases h0 : rr = 0
   ·have hbn : (rr != 0) = false := by rw [bne_eq_false_iff_eq]; exact h0
    have HA2 : Hid (∀ j, j < i + 1 → l.getD j 0 % (N : Int) = 0) := fun j hj => by
     by_cases e : j = i
     ·rw [e, ← HXE.out, HRR.out, h0]
     ·exact HA.out j (by omega)
    go_wp2_with fail
    go_roundw
    case rel => exact ⟨i + 1, by omega, by go_num, HA2.out, by trivial⟩
    case measure => simp [intOf]; omega
   ·have hbn : (rr != 0) = true := by rw [bne_iff_ne]; exact h0
    have HF : Hid (dvB l k = false) := by
     show _ = _
     cases h : dvB l k with
     | false => rfl
     | true =>
      have := HDT.out.1 h i hlt
      rw [← HXE.out, HRR.out] at this
      exact absurd this h0
    go_wp2_with fail
    go_ret
    exact ⟨by rw [HF.out]; rfl, rfl⟩
  ·have HF : Hid (dvB l k = true) := HDT.out.2 (fun j hj => HA.out j (by omega))
   go_wp2_with fail
   go_ret
   exact ⟨by rw [HF.out]; rfl, rfl⟩
theorem set10_a {wx : World} (n : Nat) (v0 v1 v2 v3 v4 v5 v6 v7 v8 v9 : Value) {a0 a1 a2 a3 a4 a5 a6 a7 a8 a9 : Value} {t : TypeId} (h : wx.heap[n]? = some (.cells #[a0, a1, a2, a3, a4, a5, a6, a7, a8, a9] t (0, 0))) : ((((((((((wx.setCell ⟨n, 0, none⟩ v0).setCell ⟨n, 1, none⟩ v1).setCell ⟨n, 2, none⟩ v2).setCell ⟨n, 3, none⟩ v3).setCell ⟨n, 4, none⟩ v4).setCell ⟨n, 5, none⟩ v5).setCell ⟨n, 6, none⟩ v6).setCell ⟨n, 7, none⟩ v7).setCell ⟨n, 8, none⟩ v8).setCell ⟨n, 9, none⟩ v9).heap[n]? = some (.cells #[v0, v1, v2, v3, v4, v5, v6, v7, v8, v9] t (0, 0)) := by
 rw [block_setCell _ _ _ _ _ _ (block_setCell _ _ _ _ _ _ (block_setCell _ _ _ _ _ _ (block_setCell _ _ _ _ _ _ (block_setCell _ _ _ _ _ _ (block_setCell _ _ _ _ _ _ (block_setCell _ _ _ _ _ _ (block_setCell _ _ _ _ _ _ (block_setCell _ _ _ _ _ _ (block_setCell _ _ _ _ _ _ h)))))))))]
 simp only [List.setIfInBounds_toArray, List.set_cons_zero, List.set_cons_succ]
theorem set10_c {wx : World} (n : Nat) (v0 v1 v2 v3 v4 v5 v6 v7 v8 v9 : Value) (w : World) (S : Nat → Prop) (hn : S n ∨ w.heap.size ≤ n) (h : Stays S w wx) : Stays S w ((((((((((wx.setCell ⟨n, 0, none⟩ v0).setCell ⟨n, 1, none⟩ v1).setCell ⟨n, 2, none⟩ v2).setCell ⟨n, 3, none⟩ v3).setCell ⟨n, 4, none⟩ v4).setCell ⟨n, 5, none⟩ v5).setCell ⟨n, 6, none⟩ v6).setCell ⟨n, 7, none⟩ v7).setCell ⟨n, 8, none⟩ v8).setCell ⟨n, 9, none⟩ v9) :=
 (((((((((h.setCell _ _ hn).setCell _ _ hn).setCell _ _ hn).setCell _ _ hn).setCell _ _ hn).setCell _ _ hn).setCell _ _ hn).setCell _ _ hn).setCell _ _ hn).setCell _ _ hn
theorem set10_b {wx : World} (n : Nat) (v0 v1 v2 v3 v4 v5 v6 v7 v8 v9 : Value) (w : World) (hn : w.heap.size ≤ n) (h : Below w.heap.size w wx) : Below w.heap.size w ((((((((((wx.setCell ⟨n, 0, none⟩ v0).setCell ⟨n, 1, none⟩ v1).setCell ⟨n, 2, none⟩ v2).setCell ⟨n, 3, none⟩ v3).setCell ⟨n, 4, none⟩ v4).setCell ⟨n, 5, none⟩ v5).setCell ⟨n, 6, none⟩ v6).setCell ⟨n, 7, none⟩ v7).setCell ⟨n, 8, none⟩ v8).setCell ⟨n, 9, none⟩ v9) :=
 (((((((((h.setCell hn _).setCell hn _).setCell hn _).setCell hn _).setCell hn _).setCell hn _).setCell hn _).setCell hn _).setCell hn _).setCell hn _
theorem set10_d {wx : World} (n : Nat) (v0 v1 v2 v3 v4 v5 v6 v7 v8 v9 : Value) (j : Nat) (h0 : j ≠ n) : ((((((((((wx.setCell ⟨n, 0, none⟩ v0).setCell ⟨n, 1, none⟩ v1).setCell ⟨n, 2, none⟩ v2).setCell ⟨n, 3, none⟩ v3).setCell ⟨n, 4, none⟩ v4).setCell ⟨n, 5, none⟩ v5).setCell ⟨n, 6, none⟩ v6).setCell ⟨n, 7, none⟩ v7).setCell ⟨n, 8, none⟩ v8).setCell ⟨n, 9, none⟩ v9).heap[j]? = wx.heap[j]? := by
 rw [Below.heap_setCell _ _ _ j h0, Below.heap_setCell _ _ _ j h0, Below.heap_setCell _ _ _ j h0, Below.heap_setCell _ _ _ j h0, Below.heap_setCell _ _ _ j h0, Below.heap_setCell _ _ _ j h0, Below.heap_setCell _ _ _ j h0, Below.heap_setCell _ _ _ j h0, Below.heap_setCell _ _ _ j h0, Below.heap_setCell _ _ _ j h0]
theorem row_frozen {w : World} {g : Nat} {cs : Array Value} {t : TypeId} (h : w.heap[g]? = some (.cells cs t (0, 0))) (i : Nat) : w.frozen? ⟨g, i, none⟩ = false := by simp [World.frozen?, h]
theorem info_Sub : (Tryz.prog.info? 27).map (·.size) = some 10 := by kernel_rfl
def wst (s : ByteArray) (a : Nat) : Option (Int × Nat) :=
 if getE s a 1 = 0 then (if getV s a 1 = 1 then (if unaE s (getA s a 1) = 0 then some (unaV s (getA s a 1) + 1, unaA s (getA s a 1)) else none) else some (0, getA s a 1)) else none
theorem sub_info12 : ∃ i, Tryz.prog.info? 27 = some i ∧ i.zero = some (.agg (subC ⟨0, 0, 0, 0, 0, [], R00⟩ none 0 none 0 none 0)) ∧ i.size = 10 ∧ i.bytes = 128 := by
 have h : (Tryz.prog.info? 27).map (fun i => (i.zero, i.size, i.bytes)) = some (some (.agg (subC ⟨0, 0, 0, 0, 0, [], R00⟩ none 0 none 0 none 0)), 10, 128) := by kernel_rfl
 cases hq : Tryz.prog.info? 27 with
 | none => rw [hq] at h; cases h
 | some i =>
  rw [hq] at h
  simp only [Option.map_some, Option.some.injEq, Prod.mk.injEq] at h
  exact ⟨i, rfl, h.1, h.2.1, h.2.2⟩
theorem undSubs12 : Tryz.prog.underlying 39 = some (.slice 27) := by kernel_rfl
structure El where
 q : Sb
 ca : Option Addr
 cc : Nat
def elC (e : El) : List Value := (subC e.q e.ca e.cc none 0 none 0).toList
def rowC (L : List El) : List Value := L.flatMap elC
theorem rowC_app (L M : List El) : rowC (L ++ M) = rowC L ++ rowC M := by unfold rowC; rw [List.flatMap_append]
theorem rowC_one (e : El) : rowC [e] = elC e := by simp [rowC]
theorem elC_len (e : El) : (elC e).length = 10 := rfl
theorem rowC_len (L : List El) : (rowC L).length = L.length * 10 := by
 induction L with
 | nil => rfl
 | cons e t ih =>
  have : rowC (e :: t) = elC e ++ rowC t := by simp [rowC]
  rw [this, List.length_append, ih, elC_len, List.length_cons]; omega
theorem rowC_one' (L : List El) : ∀ u ∈ rowC L, u.oneCell' = true := fun u hu => by
 unfold rowC at hu
 obtain ⟨e, _, h⟩ := List.mem_flatMap.1 hu
 unfold elC at h
 simp at h
 rcases h with h | h | h | h | h | h | h | h | h | h <;> (rw [h]; rfl)
theorem rowC_get (L : List El) (j i : Nat) (e : El) (hj : L[j]? = some e) (hi : i < 10) : (rowC L)[j * 10 + i]? = (elC e)[i]? := by
 induction L generalizing j with
 | nil => cases hj
 | cons x t ih =>
  have hx : rowC (x :: t) = elC x ++ rowC t := by simp [rowC]
  rw [hx]
  cases j with
  | zero =>
   rw [List.getElem?_cons_zero] at hj
   cases hj
   rw [Nat.zero_mul, Nat.zero_add, List.getElem?_append_left (by rw [elC_len]; exact hi)]
  | succ j =>
   rw [List.getElem?_cons_succ] at hj
   rw [List.getElem?_append_right (by rw [elC_len]; omega), elC_len, show (j + 1) * 10 + i - 10 = j * 10 + i by omega]
   exact ih j hj
structure TS (w : World) (v : Value) (L : List El) (X : World) : Prop where
 own : X.ownsRow w.heap.size 27 10 v L.length (rowC L)
 ints : ∀ e ∈ L, IntsAt X e.ca e.q.C
 apart : ∀ e ∈ L, 0 < e.q.C.length → ∀ b, blockOf e.ca = some b → w.heap.size ≤ b ∧ v.ownBlock ≠ some b
 below : Below w.heap.size w X
theorem TS.nil (w : World) : TS w (.slice none 0 0) [] w := ⟨World.ownsRow_nil _ _ _ _, fun e he => absurd he (by simp), fun e he => absurd he (by simp), Below.refl _ _⟩
theorem TS.low {w X X' : World} {v : Value} {L : List El} (h : TS w v L X) (hb : Below X.heap.size X X') : TS w v L X' := ⟨own_low h.own hb, fun e he => (h.ints e he).below hb, h.apart, h.below.trans (hb.mono h.below.size)⟩
theorem TS.shape {w X : World} {v : Value} {L : List El} (h : TS w v L X) : ∃ ao cap, v = .slice ao L.length cap := by
 obtain ⟨ao, cap, h1, _⟩ := owns_shape h.own
 exact ⟨ao, cap, h1⟩
theorem TS.push {w X w1 : World} {v : Value} {L M : List El} (h : TS w v L X) {g cap : Nat} (ho : w1.ownsRow w.heap.size 27 10 (.slice (some ⟨g, 0, none⟩) (L.length + M.length) cap) (L.length + M.length) (rowC L ++ rowC M)) (hg : X.grownBy w1 v.ownBlock) (hat : v.ownBlock = some g ∨ g = X.heap.size) (hM : ∀ e ∈ M, IntsAt X e.ca e.q.C ∧ (0 < e.q.C.length → ∀ b, blockOf e.ca = some b → w.heap.size ≤ b ∧ v.ownBlock ≠ some b)) : TS w (.slice (some ⟨g, 0, none⟩) (L.length + M.length) cap) (L ++ M) w1 := by
 have both : ∀ e ∈ L ++ M, IntsAt X e.ca e.q.C ∧ (0 < e.q.C.length → ∀ b, blockOf e.ca = some b → w.heap.size ≤ b ∧ v.ownBlock ≠ some b) := fun e he => by
  rcases List.mem_append.1 he with h1 | h1
  ·exact ⟨h.ints e h1, h.apart e h1⟩
  ·exact hM e h1
 refine ⟨by rw [List.length_append, rowC_app]; exact ho, fun e he => ?_, fun e he h0 b hb => ?_, h.below.trans ⟨hg.os, hg.tape, hg.output, hg.size, fun k hk => ?_⟩⟩
 ·obtain ⟨h1, h2⟩ := both e he
  refine ⟨h1.len, h1.num, fun h0 => ?_⟩
  obtain ⟨b, off, ea, hc⟩ := h1.lies h0
  refine ⟨b, off, ea, fun j hj => ?_⟩
  have h3 := hc j hj
  rw [World.cell?_of_block (w := X) (hg.block b (lt_cell h3) (fun e2 => (h2 h0 b (by rw [ea]; rfl)).2 e2.symm))]
  exact h3
 ·obtain ⟨h1, h2⟩ := both e he
  refine ⟨(h2 h0 b hb).1, fun e2 => ?_⟩
  have e3 : g = b := by simpa [Value.ownBlock] using e2
  rcases hat with h4 | h4
  ·exact (h2 h0 b hb).2 (by rw [h4, e3])
  ·obtain ⟨b', off, ea, hc⟩ := h1.lies h0
   have h7 : b' < X.heap.size := lt_cell (hc 0 h0)
   rw [ea] at hb
   have e5 : b' = b := by simpa [blockOf] using hb
   omega
 ·exact hg.block k (by have := h.below.size; omega) (fun e => by have := (h.own.lt k e.symm).1; omega)
end Go.Proofs.YthgpleelpeacjaaGreatDoor
