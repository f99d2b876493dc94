/- Own text. -/
import Derived.Test.YtfpfabmbipmipaaGreatDoorD14
set_option linter.unusedSimpArgs false
set_option linter.unusedVariables false
set_option maxRecDepth 20000
set_option maxHeartbeats 12800000
namespace Go.Proofs.YtfpfabmbipmipaaGreatDoor
open Go.RowKit
theorem s_may (q : Sb) (ca : OA) (cc : Nat) (pa : OA) (pc : Nat) (ea : OA) (ec : Nat) (b : Int) (bb : Bool) (hbb : bb = true ↔ (kdA q ∨ kdF q b ∨ kdL q b)) (w : World) (hq : SbAt w q ca pa ea) : Calls Tryz.prog 134 #[subV q ca cc pa pc ea ec, .int .i64 b] w fun e w' => e = .returned (.bool bb) /\ Lo w w' := by
 by_cases k0 : q.k = 0
 focus
  skip
  by_cases g0 : ¬ q.o = 0
  focus
   rw [bb_no hbb (fun h => by have h2 : kdA q := (h.elim id (fun h => by rcases h with h | h <;> (have := h.1; omega))); exact g0 h2.2.2.1)]
   clear hbb;have hk0 : (q.k == 0) = true := eQt (by omega)
   have hk1 : (q.k == 1) = false := eQf (by omega)
   have hk2 : (q.k == 2) = false := eQf (by omega)
   have hk3 : (q.k == 3) = false := eQf (by omega)
   have hbo : (q.o == 0) = false := eQf (by omega)
  rotate_left
  focus
   skip
   by_cases g1 : ¬ bareOk q
   focus
    rw [bb_no hbb (fun h => by have h2 : kdA q := (h.elim id (fun h => by rcases h with h | h <;> (have := h.1; omega))); exact g1 h2.2.1)]
    clear hbb;have hk0 : (q.k == 0) = true := eQt (by omega)
    have hk1 : (q.k == 1) = false := eQf (by omega)
    have hk2 : (q.k == 2) = false := eQf (by omega)
    have hk3 : (q.k == 3) = false := eQf (by omega)
    have hbo : (q.o == 0) = true := eQt (by omega)
    have K1 : Hid (∀ wx a, a = subV q ca cc pa pc ea ec -> Lo w wx -> G1 169 #[a] wx (.bool false)) := fun wx a ha hb => by rw [ha]; exact s_noCoefs q ca cc pa pc ea ec false (ff_iff g1) wx hq.C.len
   rotate_left
   focus
    skip
    by_cases g2 : ¬ q.R = ⟨0, 0, [], []⟩
    focus
     rw [bb_no hbb (fun h => by have h2 : kdA q := (h.elim id (fun h => by rcases h with h | h <;> (have := h.1; omega))); exact g2 h2.2.2.2)]
     clear hbb;have hk0 : (q.k == 0) = true := eQt (by omega)
     have hk1 : (q.k == 1) = false := eQf (by omega)
     have hk2 : (q.k == 2) = false := eQf (by omega)
     have hk3 : (q.k == 3) = false := eQf (by omega)
     have hbo : (q.o == 0) = true := eQt (by omega)
     have K1 : Hid (∀ wx a, a = subV q ca cc pa pc ea ec -> Lo w wx -> G1 169 #[a] wx (.bool true)) := fun wx a ha hb => by rw [ha]; exact s_noCoefs q ca cc pa pc ea ec true (tt_iff (Classical.not_not.1 g1)) wx hq.C.len
     have K2 : Hid (∀ wx a, a = subV q ca cc pa pc ea ec -> Lo w wx -> G1 170 #[a] wx (.bool false)) := fun wx a ha hb => by rw [ha]; exact s_noRice q ca cc pa pc ea ec false (ff_iff g2) wx hq.R.P.len hq.R.E.len
    rotate_left
    focus
     skip
     rw [bb_yes hbb (.inl ⟨by omega, Classical.not_not.1 g1, by omega, Classical.not_not.1 g2⟩)]
     clear hbb;have hk0 : (q.k == 0) = true := eQt (by omega)
     have hk1 : (q.k == 1) = false := eQf (by omega)
     have hk2 : (q.k == 2) = false := eQf (by omega)
     have hk3 : (q.k == 3) = false := eQf (by omega)
     have hbo : (q.o == 0) = true := eQt (by omega)
     have K1 : Hid (∀ wx a, a = subV q ca cc pa pc ea ec -> Lo w wx -> G1 169 #[a] wx (.bool true)) := fun wx a ha hb => by rw [ha]; exact s_noCoefs q ca cc pa pc ea ec true (tt_iff (Classical.not_not.1 g1)) wx hq.C.len
     have K2 : Hid (∀ wx a, a = subV q ca cc pa pc ea ec -> Lo w wx -> G1 170 #[a] wx (.bool true)) := fun wx a ha hb => by rw [ha]; exact s_noRice q ca cc pa pc ea ec true (tt_iff (Classical.not_not.1 g2)) wx hq.R.P.len hq.R.E.len
    rotate_left
   rotate_left 2
  rotate_left 3
 rotate_left 4
 focus
  by_cases k1 : q.k = 1
  focus
   skip
   by_cases g0 : ¬ q.o = 0
   focus
    rw [bb_no hbb (fun h => by have h2 : kdA q := (h.elim id (fun h => by rcases h with h | h <;> (have := h.1; omega))); exact g0 h2.2.2.1)]
    clear hbb;have hk0 : (q.k == 0) = false := eQf (by omega)
    have hk1 : (q.k == 1) = true := eQt (by omega)
    have hk2 : (q.k == 2) = false := eQf (by omega)
    have hk3 : (q.k == 3) = false := eQf (by omega)
    have hbo : (q.o == 0) = false := eQf (by omega)
   rotate_left
   focus
    skip
    by_cases g1 : ¬ bareOk q
    focus
     rw [bb_no hbb (fun h => by have h2 : kdA q := (h.elim id (fun h => by rcases h with h | h <;> (have := h.1; omega))); exact g1 h2.2.1)]
     clear hbb;have hk0 : (q.k == 0) = false := eQf (by omega)
     have hk1 : (q.k == 1) = true := eQt (by omega)
     have hk2 : (q.k == 2) = false := eQf (by omega)
     have hk3 : (q.k == 3) = false := eQf (by omega)
     have hbo : (q.o == 0) = true := eQt (by omega)
     have K1 : Hid (∀ wx a, a = subV q ca cc pa pc ea ec -> Lo w wx -> G1 169 #[a] wx (.bool false)) := fun wx a ha hb => by rw [ha]; exact s_noCoefs q ca cc pa pc ea ec false (ff_iff g1) wx hq.C.len
    rotate_left
    focus
     skip
     by_cases g2 : ¬ q.R = ⟨0, 0, [], []⟩
     focus
      rw [bb_no hbb (fun h => by have h2 : kdA q := (h.elim id (fun h => by rcases h with h | h <;> (have := h.1; omega))); exact g2 h2.2.2.2)]
      clear hbb;have hk0 : (q.k == 0) = false := eQf (by omega)
      have hk1 : (q.k == 1) = true := eQt (by omega)
      have hk2 : (q.k == 2) = false := eQf (by omega)
      have hk3 : (q.k == 3) = false := eQf (by omega)
      have hbo : (q.o == 0) = true := eQt (by omega)
      have K1 : Hid (∀ wx a, a = subV q ca cc pa pc ea ec -> Lo w wx -> G1 169 #[a] wx (.bool true)) := fun wx a ha hb => by rw [ha]; exact s_noCoefs q ca cc pa pc ea ec true (tt_iff (Classical.not_not.1 g1)) wx hq.C.len
      have K2 : Hid (∀ wx a, a = subV q ca cc pa pc ea ec -> Lo w wx -> G1 170 #[a] wx (.bool false)) := fun wx a ha hb => by rw [ha]; exact s_noRice q ca cc pa pc ea ec false (ff_iff g2) wx hq.R.P.len hq.R.E.len
     rotate_left
     focus
      skip
      rw [bb_yes hbb (.inl ⟨by omega, Classical.not_not.1 g1, by omega, Classical.not_not.1 g2⟩)]
      clear hbb;have hk0 : (q.k == 0) = false := eQf (by omega)
      have hk1 : (q.k == 1) = true := eQt (by omega)
      have hk2 : (q.k == 2) = false := eQf (by omega)
      have hk3 : (q.k == 3) = false := eQf (by omega)
      have hbo : (q.o == 0) = true := eQt (by omega)
      have K1 : Hid (∀ wx a, a = subV q ca cc pa pc ea ec -> Lo w wx -> G1 169 #[a] wx (.bool true)) := fun wx a ha hb => by rw [ha]; exact s_noCoefs q ca cc pa pc ea ec true (tt_iff (Classical.not_not.1 g1)) wx hq.C.len
      have K2 : Hid (∀ wx a, a = subV q ca cc pa pc ea ec -> Lo w wx -> G1 170 #[a] wx (.bool true)) := fun wx a ha hb => by rw [ha]; exact s_noRice q ca cc pa pc ea ec true (tt_iff (Classical.not_not.1 g2)) wx hq.R.P.len hq.R.E.len
     rotate_left
    rotate_left 2
   rotate_left 3
  rotate_left 4
  focus
   by_cases k2 : q.k = 2
   focus
    skip
    by_cases g0 : ¬ ordOk q.k q.o b
    focus
     rw [bb_no hbb (fun h => by have h2 : kdF q b := (h.elim (fun h => by have := h.1; omega) (fun h => h.elim id (fun h => by have := h.1; omega))); exact g0 (by have := h2.2.2; omega))]
     clear hbb;have hk0 : (q.k == 0) = false := eQf (by omega)
     have hk1 : (q.k == 1) = false := eQf (by omega)
     have hk2 : (q.k == 2) = true := eQt (by omega)
     have hk3 : (q.k == 3) = false := eQf (by omega)
     have K0 : Hid (∀ wx a, a = subV q ca cc pa pc ea ec -> Lo w wx -> G1 171 #[a, .int .i64 b] wx (.bool false)) := fun wx a ha hb => by rw [ha]; exact s_order q ca cc pa pc ea ec b false (ff_iff g0) wx
    rotate_left
    focus
     skip
     by_cases g1 : ¬ bareOk q
     focus
      rw [bb_no hbb (fun h => by have h2 : kdF q b := (h.elim (fun h => by have := h.1; omega) (fun h => h.elim id (fun h => by have := h.1; omega))); exact g1 h2.2.1)]
      clear hbb;have hk0 : (q.k == 0) = false := eQf (by omega)
      have hk1 : (q.k == 1) = false := eQf (by omega)
      have hk2 : (q.k == 2) = true := eQt (by omega)
      have hk3 : (q.k == 3) = false := eQf (by omega)
      have K0 : Hid (∀ wx a, a = subV q ca cc pa pc ea ec -> Lo w wx -> G1 171 #[a, .int .i64 b] wx (.bool true)) := fun wx a ha hb => by rw [ha]; exact s_order q ca cc pa pc ea ec b true (tt_iff (Classical.not_not.1 g0)) wx
      have K1 : Hid (∀ wx a, a = subV q ca cc pa pc ea ec -> Lo w wx -> G1 169 #[a] wx (.bool false)) := fun wx a ha hb => by rw [ha]; exact s_noCoefs q ca cc pa pc ea ec false (ff_iff g1) wx hq.C.len
     rotate_left
     focus
      skip
      by_cases g2 : ¬ chkOk q.R b q.o
      focus
       rw [bb_no hbb (fun h => by have h2 : kdF q b := (h.elim (fun h => by have := h.1; omega) (fun h => h.elim id (fun h => by have := h.1; omega))); exact g2 h2.2.2.2.2.2)]
       clear hbb;have hk0 : (q.k == 0) = false := eQf (by omega)
       have hk1 : (q.k == 1) = false := eQf (by omega)
       have hk2 : (q.k == 2) = true := eQt (by omega)
       have hk3 : (q.k == 3) = false := eQf (by omega)
       have K0 : Hid (∀ wx a, a = subV q ca cc pa pc ea ec -> Lo w wx -> G1 171 #[a, .int .i64 b] wx (.bool true)) := fun wx a ha hb => by rw [ha]; exact s_order q ca cc pa pc ea ec b true (tt_iff (Classical.not_not.1 g0)) wx
       have K1 : Hid (∀ wx a, a = subV q ca cc pa pc ea ec -> Lo w wx -> G1 169 #[a] wx (.bool true)) := fun wx a ha hb => by rw [ha]; exact s_noCoefs q ca cc pa pc ea ec true (tt_iff (Classical.not_not.1 g1)) wx hq.C.len
       have K2 : Hid (∀ wx a, a = subV q ca cc pa pc ea ec -> Lo w wx -> G1 172 #[a, .int .i64 b] wx (.bool false)) := fun wx a ha hb => by rw [ha]; exact s_rice q ca cc pa pc ea ec b false (ff_iff g2) wx (hq.R.below hb)
      rotate_left
      focus
       skip
       rw [bb_yes hbb (by have h3 := Classical.not_not.1 g0; exact .inr (.inl ⟨by omega, Classical.not_not.1 g1, by omega, by omega, by omega, Classical.not_not.1 g2⟩))]
       clear hbb;have hk0 : (q.k == 0) = false := eQf (by omega)
       have hk1 : (q.k == 1) = false := eQf (by omega)
       have hk2 : (q.k == 2) = true := eQt (by omega)
       have hk3 : (q.k == 3) = false := eQf (by omega)
       have K0 : Hid (∀ wx a, a = subV q ca cc pa pc ea ec -> Lo w wx -> G1 171 #[a, .int .i64 b] wx (.bool true)) := fun wx a ha hb => by rw [ha]; exact s_order q ca cc pa pc ea ec b true (tt_iff (Classical.not_not.1 g0)) wx
       have K1 : Hid (∀ wx a, a = subV q ca cc pa pc ea ec -> Lo w wx -> G1 169 #[a] wx (.bool true)) := fun wx a ha hb => by rw [ha]; exact s_noCoefs q ca cc pa pc ea ec true (tt_iff (Classical.not_not.1 g1)) wx hq.C.len
       have K2 : Hid (∀ wx a, a = subV q ca cc pa pc ea ec -> Lo w wx -> G1 172 #[a, .int .i64 b] wx (.bool true)) := fun wx a ha hb => by rw [ha]; exact s_rice q ca cc pa pc ea ec b true (tt_iff (Classical.not_not.1 g2)) wx (hq.R.below hb)
      rotate_left
     rotate_left 2
    rotate_left 3
   rotate_left 4
   focus
    by_cases k3 : q.k = 3
    focus
     skip
     by_cases g0 : ¬ ordOk q.k q.o b
     focus
      rw [bb_no hbb (fun h => by have h2 : kdL q b := (h.elim (fun h => by have := h.1; omega) (fun h => h.elim (fun h => by have := h.1; omega) id)); exact g0 (by have := h2.2; omega))]
      clear hbb;have hk0 : (q.k == 0) = false := eQf (by omega)
      have hk1 : (q.k == 1) = false := eQf (by omega)
      have hk2 : (q.k == 2) = false := eQf (by omega)
      have hk3 : (q.k == 3) = true := eQt (by omega)
      have K0 : Hid (∀ wx a, a = subV q ca cc pa pc ea ec -> Lo w wx -> G1 171 #[a, .int .i64 b] wx (.bool false)) := fun wx a ha hb => by rw [ha]; exact s_order q ca cc pa pc ea ec b false (ff_iff g0) wx
     rotate_left
     focus
      skip
      by_cases g1 : ¬ coefOk q
      focus
       rw [bb_no hbb (fun h => by have h2 : kdL q b := (h.elim (fun h => by have := h.1; omega) (fun h => h.elim (fun h => by have := h.1; omega) id)); obtain ⟨a0, a1, a2, a3, a4, a5, a6, a7, a8, a9, a10⟩ := h2; exact g1 ⟨⟨a4, a5⟩, ⟨a6, a7⟩, a8, a9⟩)]
       clear hbb;have hk0 : (q.k == 0) = false := eQf (by omega)
       have hk1 : (q.k == 1) = false := eQf (by omega)
       have hk2 : (q.k == 2) = false := eQf (by omega)
       have hk3 : (q.k == 3) = true := eQt (by omega)
       have K0 : Hid (∀ wx a, a = subV q ca cc pa pc ea ec -> Lo w wx -> G1 171 #[a, .int .i64 b] wx (.bool true)) := fun wx a ha hb => by rw [ha]; exact s_order q ca cc pa pc ea ec b true (tt_iff (Classical.not_not.1 g0)) wx
       have K1 : Hid (∀ wx a, a = subV q ca cc pa pc ea ec -> Lo w wx -> G1 173 #[a] wx (.bool false)) := fun wx a ha hb => by rw [ha]; exact s_coefs q ca cc pa pc ea ec false (ff_iff g1) wx (hq.C.below hb)
      rotate_left
      focus
       skip
       by_cases g2 : ¬ chkOk q.R b q.o
       focus
        rw [bb_no hbb (fun h => by have h2 : kdL q b := (h.elim (fun h => by have := h.1; omega) (fun h => h.elim (fun h => by have := h.1; omega) id)); obtain ⟨a0, a1, a2, a3, a4, a5, a6, a7, a8, a9, a10⟩ := h2; exact g2 a10)]
        clear hbb;have hk0 : (q.k == 0) = false := eQf (by omega)
        have hk1 : (q.k == 1) = false := eQf (by omega)
        have hk2 : (q.k == 2) = false := eQf (by omega)
        have hk3 : (q.k == 3) = true := eQt (by omega)
        have K0 : Hid (∀ wx a, a = subV q ca cc pa pc ea ec -> Lo w wx -> G1 171 #[a, .int .i64 b] wx (.bool true)) := fun wx a ha hb => by rw [ha]; exact s_order q ca cc pa pc ea ec b true (tt_iff (Classical.not_not.1 g0)) wx
        have K1 : Hid (∀ wx a, a = subV q ca cc pa pc ea ec -> Lo w wx -> G1 173 #[a] wx (.bool true)) := fun wx a ha hb => by rw [ha]; exact s_coefs q ca cc pa pc ea ec true (tt_iff (Classical.not_not.1 g1)) wx (hq.C.below hb)
        have K2 : Hid (∀ wx a, a = subV q ca cc pa pc ea ec -> Lo w wx -> G1 172 #[a, .int .i64 b] wx (.bool false)) := fun wx a ha hb => by rw [ha]; exact s_rice q ca cc pa pc ea ec b false (ff_iff g2) wx (hq.R.below hb)
       rotate_left
       focus
        skip
        rw [bb_yes hbb (by have h3 := Classical.not_not.1 g0; have h4 := Classical.not_not.1 g1; exact .inr (.inr ⟨by omega, by omega, by omega, by omega, h4.1.1, h4.1.2, h4.2.1.1, h4.2.1.2, h4.2.2.1, h4.2.2.2, Classical.not_not.1 g2⟩))]
        clear hbb;have hk0 : (q.k == 0) = false := eQf (by omega)
        have hk1 : (q.k == 1) = false := eQf (by omega)
        have hk2 : (q.k == 2) = false := eQf (by omega)
        have hk3 : (q.k == 3) = true := eQt (by omega)
        have K0 : Hid (∀ wx a, a = subV q ca cc pa pc ea ec -> Lo w wx -> G1 171 #[a, .int .i64 b] wx (.bool true)) := fun wx a ha hb => by rw [ha]; exact s_order q ca cc pa pc ea ec b true (tt_iff (Classical.not_not.1 g0)) wx
        have K1 : Hid (∀ wx a, a = subV q ca cc pa pc ea ec -> Lo w wx -> G1 173 #[a] wx (.bool true)) := fun wx a ha hb => by rw [ha]; exact s_coefs q ca cc pa pc ea ec true (tt_iff (Classical.not_not.1 g1)) wx (hq.C.below hb)
        have K2 : Hid (∀ wx a, a = subV q ca cc pa pc ea ec -> Lo w wx -> G1 172 #[a, .int .i64 b] wx (.bool true)) := fun wx a ha hb => by rw [ha]; exact s_rice q ca cc pa pc ea ec b true (tt_iff (Classical.not_not.1 g2)) wx (hq.R.below hb)
       rotate_left
      rotate_left 2
     rotate_left 3
    rotate_left 4
    focus
     rw [bb_no hbb (fun h => by rcases h with h | h | h <;> (have := h.1; omega))]
     clear hbb;have hk0 : (q.k == 0) = false := eQf (by omega)
     have hk1 : (q.k == 1) = false := eQf (by omega)
     have hk2 : (q.k == 2) = false := eQf (by omega)
     have hk3 : (q.k == 3) = false := eQf (by omega)
    rotate_left
   rotate_left 5
  rotate_left 9
 rotate_left 13
 all_goals
  clear hq;have HA : Hid (SX w q ca cc pa pc ea ec (w.alloc (.cells (subC q ca cc pa pc ea ec) 67))) := SX.new w q ca cc pa pc ea ec;go_enter Tryz.func134, Tryz.ntmps134
  go_upto_region 1 with fail
  generalize World.alloc _ _ = wa at *;obtain ⟨x0, x1, x2, x3, x4, x5, x6, x7, x8, x9⟩ := sub_cells HA.out.box
  go_wp2_with fail
 ·go_ret
  exact ⟨rfl, HA.out.below⟩
 focus
  refine (K1.out _ _ (by simp [k0, Classical.not_not.1 g0]) HA.out.below).mono ?_
 rotate_left
 focus
  refine (K1.out _ _ (by simp [k0, Classical.not_not.1 g0]) HA.out.below).mono ?_
 rotate_left
 focus
  refine (K1.out _ _ (by simp [k0, Classical.not_not.1 g0]) HA.out.below).mono ?_
 rotate_left
 ·go_ret
  exact ⟨rfl, HA.out.below⟩
 focus
  refine (K1.out _ _ (by simp [k1, Classical.not_not.1 g0]) HA.out.below).mono ?_
 rotate_left
 focus
  refine (K1.out _ _ (by simp [k1, Classical.not_not.1 g0]) HA.out.below).mono ?_
 rotate_left
 focus
  refine (K1.out _ _ (by simp [k1, Classical.not_not.1 g0]) HA.out.below).mono ?_
 rotate_left
 focus
  refine (K0.out _ _ (by simp [k2]) HA.out.below).mono ?_
 rotate_left
 focus
  refine (K0.out _ _ (by simp [k2]) HA.out.below).mono ?_
 rotate_left
 focus
  refine (K0.out _ _ (by simp [k2]) HA.out.below).mono ?_
 rotate_left
 focus
  refine (K0.out _ _ (by simp [k2]) HA.out.below).mono ?_
 rotate_left
 focus
  refine (K0.out _ _ (by simp [k3]) HA.out.below).mono ?_
 rotate_left
 focus
  refine (K0.out _ _ (by simp [k3]) HA.out.below).mono ?_
 rotate_left
 focus
  refine (K0.out _ _ (by simp [k3]) HA.out.below).mono ?_
 rotate_left
 focus
  refine (K0.out _ _ (by simp [k3]) HA.out.below).mono ?_
 rotate_left
 ·go_ret
  exact ⟨rfl, HA.out.below⟩
 all_goals
  rintro e wx_HA0 ⟨rfl, hb⟩;have HA0 := kQ (HA.out.next hb);clear hb HA x0 x1 x2 x3 x4 x5 x6 x7 x8 x9;obtain ⟨x0, x1, x2, x3, x4, x5, x6, x7, x8, x9⟩ := sub_cells HA0.out.box
  go_wp2_with fail
 ·go_ret
  exact ⟨rfl, HA0.out.below⟩
 focus
  refine (K2.out _ _ (by simp [k0, Classical.not_not.1 g0]) HA0.out.below).mono ?_
 rotate_left
 focus
  refine (K2.out _ _ (by simp [k0, Classical.not_not.1 g0]) HA0.out.below).mono ?_
 rotate_left
 ·go_ret
  exact ⟨rfl, HA0.out.below⟩
 focus
  refine (K2.out _ _ (by simp [k1, Classical.not_not.1 g0]) HA0.out.below).mono ?_
 rotate_left
 focus
  refine (K2.out _ _ (by simp [k1, Classical.not_not.1 g0]) HA0.out.below).mono ?_
 rotate_left
 ·go_ret
  exact ⟨rfl, HA0.out.below⟩
 focus
  refine (K1.out _ _ (by simp [k2]) HA0.out.below).mono ?_
 rotate_left
 focus
  refine (K1.out _ _ (by simp [k2]) HA0.out.below).mono ?_
 rotate_left
 focus
  refine (K1.out _ _ (by simp [k2]) HA0.out.below).mono ?_
 rotate_left
 ·go_ret
  exact ⟨rfl, HA0.out.below⟩
 focus
  refine (K1.out _ _ (by simp [k3]) HA0.out.below).mono ?_
 rotate_left
 focus
  refine (K1.out _ _ (by simp [k3]) HA0.out.below).mono ?_
 rotate_left
 focus
  refine (K1.out _ _ (by simp [k3]) HA0.out.below).mono ?_
 rotate_left
 all_goals
  rintro e wx_HA1 ⟨rfl, hb⟩;have HA1 := kQ (HA0.out.next hb);clear hb HA0 x0 x1 x2 x3 x4 x5 x6 x7 x8 x9;obtain ⟨x0, x1, x2, x3, x4, x5, x6, x7, x8, x9⟩ := sub_cells HA1.out.box
  go_wp2_with fail
 ·go_ret
  exact ⟨rfl, HA1.out.below⟩
 ·go_ret
  exact ⟨rfl, HA1.out.below⟩
 ·go_ret
  exact ⟨rfl, HA1.out.below⟩
 ·go_ret
  exact ⟨rfl, HA1.out.below⟩
 ·go_ret
  exact ⟨rfl, HA1.out.below⟩
 focus
  refine (K2.out _ _ (by simp [k2]) HA1.out.below).mono ?_
 rotate_left
 focus
  refine (K2.out _ _ (by simp [k2]) HA1.out.below).mono ?_
 rotate_left
 ·go_ret
  exact ⟨rfl, HA1.out.below⟩
 focus
  refine (K2.out _ _ (by simp [k3]) HA1.out.below).mono ?_
 rotate_left
 focus
  refine (K2.out _ _ (by simp [k3]) HA1.out.below).mono ?_
 rotate_left
 all_goals
  rintro e wx_HA2 ⟨rfl, hb⟩;have HA2 := kQ (HA1.out.next hb);clear hb HA1 x0 x1 x2 x3 x4 x5 x6 x7 x8 x9;obtain ⟨x0, x1, x2, x3, x4, x5, x6, x7, x8, x9⟩ := sub_cells HA2.out.box
  go_wp2_with fail
  go_ret;exact ⟨rfl, HA2.out.below⟩
theorem s_sub_iff (q : Sb) (b v : Int) : subOk q b v ↔ ((1 <= b /\ b <= 65535) /\ (1 <= v /\ v <= 33)) /\ 0 <= q.w /\ q.w < v /\ (kdA q ∨ kdF q b ∨ kdL q b) :=
 ⟨fun h => ⟨⟨h.1, h.2.1⟩, h.2.2.1.1, h.2.2.1.2, h.2.2.2⟩, fun h => ⟨h.1.1, h.1.2, ⟨h.2.1, h.2.2.1⟩, h.2.2.2⟩⟩
theorem s_check (q : Sb) (ca : OA) (cc : Nat) (pa : OA) (pc : Nat) (ea : OA) (ec : Nat) (b v r : Int) (hyes : subOk q b v -> r = 0) (hno : ¬ subOk q b v -> r = 60) (w : World) (hq : SbAt w q ca pa ea) : Calls Tryz.prog 88 #[subV q ca cc pa pc ea ec, .int .i64 b, .int .i64 v] w fun e w' => e = .returned (.int .i64 r) /\ Lo w w' := by
 by_cases g0 : ¬ ((1 <= b /\ b <= 65535) /\ (1 <= v /\ v <= 33))
 focus
  rw [hno (fun h => g0 (((s_sub_iff q b v).1 h).1))];have K0 : Hid (∀ wx, Lo w wx -> G1 133 #[.int .i64 b, .int .i64 v] wx (.bool false)) := fun wx hb => (s_areOf b v false (ff_iff g0) wx).mono fun e w' h => ⟨h.1, by rw [h.2]; exact Below.refl _ _⟩
  clear hq
 rotate_left
 focus
  skip
  by_cases g1 : ¬ 0 <= q.w
  focus
   rw [hno (fun h => g1 (((s_sub_iff q b v).1 h).2.1))];have K0 : Hid (∀ wx, Lo w wx -> G1 133 #[.int .i64 b, .int .i64 v] wx (.bool true)) := fun wx hb => (s_areOf b v true (tt_iff (Classical.not_not.1 g0)) wx).mono fun e w' h => ⟨h.1, by rw [h.2]; exact Below.refl _ _⟩
   clear hq;have hw : q.w < 0 := by omega
  rotate_left
  focus
   skip
   by_cases g2 : ¬ q.w < v
   focus
    rw [hno (fun h => g2 (((s_sub_iff q b v).1 h).2.2.1))];have K0 : Hid (∀ wx, Lo w wx -> G1 133 #[.int .i64 b, .int .i64 v] wx (.bool true)) := fun wx hb => (s_areOf b v true (tt_iff (Classical.not_not.1 g0)) wx).mono fun e w' h => ⟨h.1, by rw [h.2]; exact Below.refl _ _⟩
    clear hq;have hw : v <= q.w := by omega
    have hw0 : 0 <= q.w := by omega
   rotate_left
   focus
    skip
    by_cases g3 : ¬ (kdA q ∨ kdF q b ∨ kdL q b)
    focus
     rw [hno (fun h => g3 (((s_sub_iff q b v).1 h).2.2.2))];have K0 : Hid (∀ wx, Lo w wx -> G1 133 #[.int .i64 b, .int .i64 v] wx (.bool true)) := fun wx hb => (s_areOf b v true (tt_iff (Classical.not_not.1 g0)) wx).mono fun e w' h => ⟨h.1, by rw [h.2]; exact Below.refl _ _⟩
     have K1 : Hid (∀ wx a, a = subV q ca cc pa pc ea ec -> Lo w wx -> G1 134 #[a, .int .i64 b] wx (.bool false)) := fun wx a ha hb => by rw [ha]; exact s_may q ca cc pa pc ea ec b false (ff_iff g3) wx (hq.below hb)
     clear hq;have hw : q.w < v := by omega
     have hw0 : 0 <= q.w := by omega
    rotate_left
    focus
     skip
     rw [hyes ((s_sub_iff q b v).2 ⟨Classical.not_not.1 g0, by omega, by omega, Classical.not_not.1 g3⟩)]
     have K0 : Hid (∀ wx, Lo w wx -> G1 133 #[.int .i64 b, .int .i64 v] wx (.bool true)) := fun wx hb => (s_areOf b v true (tt_iff (Classical.not_not.1 g0)) wx).mono fun e w' h => ⟨h.1, by rw [h.2]; exact Below.refl _ _⟩
     have K1 : Hid (∀ wx a, a = subV q ca cc pa pc ea ec -> Lo w wx -> G1 134 #[a, .int .i64 b] wx (.bool true)) := fun wx a ha hb => by rw [ha]; exact s_may q ca cc pa pc ea ec b true (tt_iff (Classical.not_not.1 g3)) wx (hq.below hb)
     clear hq;have hw : q.w < v := by omega
     have hw0 : 0 <= q.w := by omega
    rotate_left
   rotate_left 2
  rotate_left 3
 rotate_left 4
 all_goals
  have HA : Hid (SX w q ca cc pa pc ea ec (w.alloc (.cells (subC q ca cc pa pc ea ec) 67))) := SX.new w q ca cc pa pc ea ec;go_enter Tryz.func88, Tryz.ntmps88
  go_upto_region 1 with fail
  generalize World.alloc _ _ = wa at *;obtain ⟨x0, x1, x2, x3, x4, x5, x6, x7, x8, x9⟩ := sub_cells HA.out.box
  go_wp2_with fail
  refine (K0.out _ HA.out.below).mono ?_;rintro e wx_HA0 ⟨rfl, hb⟩;have HA0 := kQ (HA.out.next hb);clear hb HA x0 x1 x2 x3 x4 x5 x6 x7 x8 x9;obtain ⟨x0, x1, x2, x3, x4, x5, x6, x7, x8, x9⟩ := sub_cells HA0.out.box
  go_wp2_with fail
 ·go_ret
  exact ⟨rfl, HA0.out.below⟩
 ·go_ret
  exact ⟨rfl, HA0.out.below⟩
 ·go_ret
  exact ⟨rfl, HA0.out.below⟩
 rotate_left 2
 all_goals
  refine (K1.out _ _ (by simp []) HA0.out.below).mono ?_
  rintro e wx_HA1 ⟨rfl, hb⟩;have HA1 := kQ (HA0.out.next hb);clear hb HA0 x0 x1 x2 x3 x4 x5 x6 x7 x8 x9;obtain ⟨x0, x1, x2, x3, x4, x5, x6, x7, x8, x9⟩ := sub_cells HA1.out.box
  go_wp2_with fail
  go_ret;exact ⟨rfl, HA1.out.below⟩
theorem s_type (q : Sb) (ca : OA) (cc : Nat) (pa : OA) (pc : Nat) (ea : OA) (ec : Nat) (ho : 0 <= q.o /\ q.o <= 32) (w : World) : Calls Tryz.prog 155 #[subV q ca cc pa pc ea ec] w fun e w' => e = .returned (.int .i64 (typN q)) /\ Lo w w' := by
 by_cases g0 : q.k = 0
 focus
  have HT : Hid (typN q = 0) := by show _ = _; unfold typN; rw [if_pos g0]
  rw [HT.out];have hk0 : (q.k == 0) = true := eQt (by omega)
  have hk1 : (q.k == 1) = false := eQf (by omega)
  have hk2 : (q.k == 2) = false := eQf (by omega)
  have hk3 : (q.k == 3) = false := eQf (by omega)
  clear g0
 rotate_left
 focus
  skip
  by_cases g1 : q.k = 1
  focus
   have HT : Hid (typN q = 1) := by show _ = _; unfold typN; rw [if_neg g0, if_pos g1]
   rw [HT.out];have hk0 : (q.k == 0) = false := eQf (by omega)
   have hk1 : (q.k == 1) = true := eQt (by omega)
   have hk2 : (q.k == 2) = false := eQf (by omega)
   have hk3 : (q.k == 3) = false := eQf (by omega)
   clear g0 g1
  rotate_left
  focus
   skip
   by_cases g2 : q.k = 2
   focus
    have HT : Hid (typN q = 8 + q.o) := by show _ = _; unfold typN; rw [if_neg g0, if_neg g1, if_pos g2]
    rw [HT.out];have hk0 : (q.k == 0) = false := eQf (by omega)
    have hk1 : (q.k == 1) = false := eQf (by omega)
    have hk2 : (q.k == 2) = true := eQt (by omega)
    have hk3 : (q.k == 3) = false := eQf (by omega)
    clear g0 g1 g2
   rotate_left
   focus
    skip
    have HT : Hid (typN q = 31 + q.o) := by show _ = _; unfold typN; rw [if_neg g0, if_neg g1, if_neg g2]
    rw [HT.out];have hk0 : (q.k == 0) = false := eQf (by omega)
    have hk1 : (q.k == 1) = false := eQf (by omega)
    have hk2 : (q.k == 2) = false := eQf (by omega)
    clear g0 g1 g2
   rotate_left
  rotate_left 2
 rotate_left 3
 all_goals
  have HA : Hid (SX w q ca cc pa pc ea ec (w.alloc (.cells (subC q ca cc pa pc ea ec) 67))) := SX.new w q ca cc pa pc ea ec;go_enter Tryz.func155, Tryz.ntmps155
  go_upto_region 1 with fail
  generalize World.alloc _ _ = wa at *;obtain ⟨x0, x1, x2, x3, x4, x5, x6, x7, x8, x9⟩ := sub_cells HA.out.box
  go_wp2_with fail
  go_ret;exact ⟨rfl, HA.out.below⟩
def cntN (q : Sb) (b : Int) : Int := if q.k = 0 then 1 else if q.k = 1 then b else q.o
theorem s_asThey (q : Sb) (ca : OA) (cc : Nat) (pa : OA) (pc : Nat) (ea : OA) (ec : Nat) (b : Int) (w : World) : Calls Tryz.prog 158 #[subV q ca cc pa pc ea ec, .int .i64 b] w fun e w' => e = .returned (.int .i64 (cntN q b)) /\ Lo w w' := by
 by_cases g0 : q.k = 0
 focus
  have HT : Hid (cntN q b = 1) := by show _ = _; unfold cntN; rw [if_pos g0]
  rw [HT.out];have hk0 : (q.k == 0) = true := eQt (by omega)
  have hk1 : (q.k == 1) = false := eQf (by omega)
  have hk2 : (q.k == 2) = false := eQf (by omega)
  have hk3 : (q.k == 3) = false := eQf (by omega)
  clear g0
 rotate_left
 focus
  skip
  by_cases g1 : q.k = 1
  focus
   have HT : Hid (cntN q b = b) := by show _ = _; unfold cntN; rw [if_neg g0, if_pos g1]
   rw [HT.out];have hk0 : (q.k == 0) = false := eQf (by omega)
   have hk1 : (q.k == 1) = true := eQt (by omega)
   have hk2 : (q.k == 2) = false := eQf (by omega)
   have hk3 : (q.k == 3) = false := eQf (by omega)
   clear g0 g1
  rotate_left
  focus
   skip
   have HT : Hid (cntN q b = q.o) := by show _ = _; unfold cntN; rw [if_neg g0, if_neg g1]
   rw [HT.out];have hk0 : (q.k == 0) = false := eQf (by omega)
   have hk1 : (q.k == 1) = false := eQf (by omega)
   clear g0 g1
  rotate_left
 rotate_left 2
 all_goals
  have HA : Hid (SX w q ca cc pa pc ea ec (w.alloc (.cells (subC q ca cc pa pc ea ec) 67))) := SX.new w q ca cc pa pc ea ec;go_enter Tryz.func158, Tryz.ntmps158
  go_upto_region 1 with fail
  generalize World.alloc _ _ = wa at *;obtain ⟨x0, x1, x2, x3, x4, x5, x6, x7, x8, x9⟩ := sub_cells HA.out.box
  go_wp2_with fail
  go_ret;exact ⟨rfl, HA.out.below⟩
theorem nums_flat (v : Int) (h1 : ¬ v = -1) (h0 : ¬ v = 0) (x : Int) : oneB 0 v x = sigB x v := by unfold oneB; rw [if_neg h1, if_neg h0]
theorem s_each (X : List Int) (v : Int) (hv : 1 <= v /\ v <= 64) (xo : OA) (cap : Nat) (p : Nat) (ao : OA) (B : List Nat) (h01 : Bits01 B) (hB : B.length + 17000000 * X.length <= 6000000000000) (w : World) (hx : IntsAt w xo X) (hw : WrB w p ao B) (a3 : Apart p ao xo X) :
  Calls Tryz.prog 157 #[.pointer (some ⟨p, 0, none⟩), .slice xo X.length cap, .int .i64 v] w fun en w' => en = .returned (.tuple #[]) /\ ∃ ao', WrB w' p ao' (B ++ numsB 0 v X) /\ Stays (foot p ao) w w' /\ Moved w.heap.size ao ao' := by
 have hlX := hx.len
 have HA0 : Hid (WB w p ao ao B w.heap.size w) := WB.start hw (Below.refl _ _) _ (Nat.le_refl _)
 have HPE : Hid (∀ ao' B' K wx, WB w p ao ao' B' K wx -> IntsAt wx xo X) := fun ao' B' K wx hh => hh.ints hx a3
 have HXA : Hid (∀ j, j < X.length -> ∃ b off, xo = some ⟨b, off, none⟩) := fun j hj => hx.addr (by omega)
 clear hw a3 hx
 go_enter Tryz.func157, Tryz.ntmps157
 go_wp2_with fail
 go_loopw [7, 10] (fun s7 s10 wr => ∃ (j : Nat) (aj : OA), j <= X.length /\ s10 = .int .i64 (j : Int) /\ WB w p ao aj (B ++ numsB 0 v (X.take j)) w.heap.size wr) (fun _ s10 _ => X.length - (intOf s10).toNat)
 case atStart => exact ⟨0, ao, Nat.zero_le _, rfl, by rw [List.take_zero, numsB_nil, List.append_nil]; exact HA0.out⟩
 case round =>
  clear HA0;obtain ⟨j, aj, hj, rfl, hwb⟩ := hrel;have HA := kQ hwb;clear hwb;by_cases hlt : j < X.length
  ·obtain ⟨bx, ox, rfl⟩ := HXA.out j hlt
   have r3 := (HPE.out _ _ _ _ HA.out).get j hlt;have HT : Hid (numsB 0 v (X.take (j + 1)) = numsB 0 v (X.take j) ++ oneB 0 v (X.getD j 0)) := by show _ = _; rw [take_snoc X j hlt, numsB_snoc]
   have hlen : (B ++ numsB 0 v (X.take j)).length <= 6000000000000 := by
    rw [List.length_append];have := numsB_len 0 v (X.take j);rw [List.length_take] at this;have : 17000000 * min j X.length <= 17000000 * X.length := Nat.mul_le_mul_left _ (Nat.min_le_right _ _);omega
   have h01' : Bits01 (B ++ numsB 0 v (X.take j)) := h01.append (numsB_01 _ _ _);generalize X.getD j 0 = x at *;generalize hBJ : B ++ numsB 0 v (X.take j) = BJ at *;have HGO : Hid (B ++ numsB 0 v (X.take (j + 1)) = BJ ++ sigB x v) := by show _ = _; rw [HT.out, <- List.append_assoc, hBJ, nums_flat v (by omega) (by omega)]
   clear hBJ HT;have kp := wsig_all wr aj BJ p x v h01' (by omega) HA.out.wr
   go_wp2_with fail
   refine kp.mono ?_;rintro e w3 ⟨rfl, ao3, hw3, hs3, hv3⟩;have HE := kQ (HA.out.put hw3 hs3 hv3);clear hw3 hs3 hv3 kp r3
   go_wp2_with fail
   go_roundw
   case rel => exact ⟨j + 1, ao3, by omega, by go_num, by rw [HGO.out]; exact HE.out⟩
   case measure => simp [intOf]; omega
  ·have hjl : j = X.length := by omega
   subst hjl;rw [List.take_length] at HA
   go_wp2_with fail
   go_end0
   exact ⟨rfl, aj, HA.out.wr, HA.out.st, HA.out.mv⟩
theorem put_seven : ∀ t : Nat, t < 64 -> bitsOf 0 1 ++ bitsOf t 6 = bitsOf t 7 := by decide
theorem putB_seven (t : Int) (h0 : 0 <= t) (h1 : t <= 63) : putB 0 1 ++ putB t 6 = putB t 7 := by
 obtain ⟨n, rfl⟩ : ∃ n : Nat, t = n := ⟨t.toNat, by omega⟩
 have e1 : putB 0 1 = bitsOf 0 1 := rfl
 have e6 : putB (n : Int) 6 = bitsOf n 6 := by
  unfold putB;rw [if_pos ⟨by decide, by decide, by show (n : Int) < 64; omega⟩]; rfl
 have e7 : putB (n : Int) 7 = bitsOf n 7 := by
  unfold putB;rw [if_pos ⟨by decide, by decide, by show (n : Int) < 128; omega⟩]; rfl
 rw [e1, e6, e7, put_seven n (by omega)]
theorem s_head (q : Sb) (ca : OA) (cc : Nat) (pa : OA) (pc : Nat) (ea : OA) (ec : Nat) (ho : 0 <= q.o /\ q.o <= 32) (hw0 : 0 <= q.w) (hw1 : q.w <= 32) (p : Nat) (ao : OA) (B : List Nat) (h01 : Bits01 B) (hB : B.length <= 2000000000000) (w : World) (hw : WrB w p ao B) :
  Calls Tryz.prog 115 #[.pointer (some ⟨p, 0, none⟩), subV q ca cc pa pc ea ec] w fun en w' => en = .returned (.tuple #[]) /\ ∃ ao', WrB w' p ao' (B ++ (putB (typN q) 7 ++ wstB q.w)) /\ Stays (foot p ao) w w' /\ Moved w.heap.size ao ao' := by
 have HT : Hid (∀ wx a, a = subV q ca cc pa pc ea ec -> G1 155 #[a] wx (.int .i64 (typN q))) := fun wx a ha => by rw [ha]; exact s_type q ca cc pa pc ea ec ho wx
 have ht0 : 0 <= typN q := by unfold typN; split; omega; split; omega; split <;> omega
 have ht1 : typN q <= 63 := by unfold typN; split; omega; split; omega; split <;> omega
 have HS : Hid (putB 0 1 ++ putB (typN q) 6 = putB (typN q) 7) := putB_seven _ ht0 ht1
 have H0 : Hid (WB w p ao ao B (w.heap.size + 1) (w.alloc (.cells (subC q ca cc pa pc ea ec) 67))) := WB.start hw aQ _ (by simp)
 have X0 : Hid ((w.alloc (.cells (subC q ca cc pa pc ea ec) 67)).heap[w.heap.size]? = some (.cells (subC q ca cc pa pc ea ec) 67 (0, 0))) := heap_alloc_new _ _
 obtain ⟨B0, rfl⟩ : ∃ X, X = B := ⟨_, rfl⟩
 have o0 := h01
 clear hw h01
 generalize typN q = ty at *
 go_enter Tryz.func115, Tryz.ntmps115
 go_upto_region 1 with fail
 generalize World.alloc _ _ = wa at *
 go_wp2_with fail
 refine (wput_all wa ao B0 p 0 1 (by decide) (by decide) o0 (by omega) H0.out.wr).mono ?_
 rintro e w1 ⟨rfl, ao1, hw_, hs_, hv_⟩
 obtain ⟨B1, e1, o1, l1⟩ : ∃ X, X = B0 ++ putB 0 1 /\ Bits01 X /\ X.length <= B0.length + 17000000 := ⟨_, rfl, o0.append (putB_01 _ _), by rw [List.length_append]; have := putB_len 0 1; omega⟩
 rw [<- e1] at hw_
 have H1 := kQ (H0.out.put hw_ hs_ hv_)
 have X1 : Hid (w1.heap[w.heap.size]? = some (.cells (subC q ca cc pa pc ea ec) 67 (0, 0))) := by show _ = _; rw [H0.out.box hs_ _ (Nat.le_refl _) (by omega)]; exact X0.out
 have E1 := kQ e1
 clear hw_ hs_ hv_ e1
 clear H0 X0
 obtain ⟨x0, x1, x2, x3, x4, x5, x6, x7, x8, x9⟩ := sub_cells X1.out
 go_wp2_with fail
 refine (HT.out _ _ (by simp)).mono ?_
 rintro e w2 ⟨rfl, hb2⟩
 have H1' : Hid (WB w p ao ao1 B1 (w.heap.size + 1) w2) := H1.out.low hb2
 have X1' : Hid (w2.heap[w.heap.size]? = some (.cells (subC q ca cc pa pc ea ec) 67 (0, 0))) := by show _ = _; rw [hb2.block _ (lt_of_block X1.out)]; exact X1.out
 clear hb2 HT H1 X1 x0 x1 x2 x3 x4 x5 x6 x7 x8 x9
 go_wp2_with fail
 refine (wput_all w2 ao1 B1 p ty 6 ht0 (by omega) o1 (by omega) H1'.out.wr).mono ?_
 rintro e w3 ⟨rfl, ao2, hw_, hs_, hv_⟩
 obtain ⟨B2, e2, o2, l2⟩ : ∃ X, X = B1 ++ putB ty 6 /\ Bits01 X /\ X.length <= B1.length + 17000000 := ⟨_, rfl, o1.append (putB_01 _ _), by rw [List.length_append]; have := putB_len ty 6; omega⟩
 rw [<- e2] at hw_
 have H2 : Hid (WB w p ao ao2 B2 (w.heap.size + 1) w3) := H1'.out.put hw_ hs_ hv_
 have X2 : Hid (w3.heap[w.heap.size]? = some (.cells (subC q ca cc pa pc ea ec) 67 (0, 0))) := by show _ = _; rw [H1'.out.box hs_ _ (Nat.le_refl _) (by omega)]; exact X1'.out
 have E2 := kQ e2
 clear hw_ hs_ hv_ e2
 clear H1' X1'
 obtain ⟨x0, x1, x2, x3, x4, x5, x6, x7, x8, x9⟩ := sub_cells X2.out
 by_cases hz : q.w = 0
 focus
  have hbz : (q.w == 0) = true := by rw [beq_iff_eq]; exact hz
  have HW : Hid (wstB q.w = putB 0 1) := by show _ = _; unfold wstB; rw [if_neg (by omega)]
  go_wp2_with fail
  refine (wput_all w3 ao2 B2 p 0 1 (by decide) (by decide) o2 (by omega) H2.out.wr).mono ?_
  rintro e w4 ⟨rfl, ao3, hw_, hs_, hv_⟩;obtain ⟨B3, e3, o3, l3⟩ : ∃ X, X = B2 ++ putB 0 1 /\ Bits01 X /\ X.length <= B2.length + 17000000 := ⟨_, rfl, o2.append (putB_01 _ _), by rw [List.length_append]; have := putB_len 0 1; omega⟩
 rotate_left
 focus
  have hbz : (q.w == 0) = false := by rw [beq_eq_false_iff_ne]; exact hz
  have HW : Hid (wstB q.w = putB 1 1 ++ unrB (q.w - 1)) := by show _ = _; unfold wstB; rw [if_pos (by omega)]
  go_wp2_with fail
  refine (wput_all w3 ao2 B2 p 1 1 (by decide) (by decide) o2 (by omega) H2.out.wr).mono ?_
  rintro e w4 ⟨rfl, ao3, hw_, hs_, hv_⟩;obtain ⟨B3, e3, o3, l3⟩ : ∃ X, X = B2 ++ putB 1 1 /\ Bits01 X /\ X.length <= B2.length + 17000000 := ⟨_, rfl, o2.append (putB_01 _ _), by rw [List.length_append]; have := putB_len 1 1; omega⟩
 rotate_left
 all_goals
  rw [<- e3] at hw_;have H3 := kQ (H2.out.put hw_ hs_ hv_);have X3 : Hid (w4.heap[w.heap.size]? = some (.cells (subC q ca cc pa pc ea ec) 67 (0, 0))) := by show _ = _; rw [H2.out.box hs_ _ (Nat.le_refl _) (by omega)]; exact X2.out
  have E3 := kQ e3;clear hw_ hs_ hv_ e3;clear x0 x1 x2 x3 x4 x5 x6 x7 x8 x9
 ·have HZ : Hid (WB w p ao ao3 (B0 ++ (putB ty 7 ++ wstB q.w)) (w.heap.size + 1) w4) := by rw [HW.out, <- HS.out, List.append_assoc, <- List.append_assoc B0, <- E1.out, <- List.append_assoc, <- E2.out, <- E3.out]; exact H3.out
  go_wp2_with fail
  first | go_end0 | (refine bodyPost_ret (v := .tuple #[]) (by rw [results_none rfl]) rfl ?_)
  exact ⟨rfl, _, HZ.out.wr, HZ.out.st, HZ.out.mv⟩
 ·obtain ⟨x0, x1, x2, x3, x4, x5, x6, x7, x8, x9⟩ := sub_cells X3.out
  go_wp2_with fail
  refine (wunr_all w4 ao3 B3 p (q.w - 1) o3 (by omega) H3.out.wr).mono ?_
  rintro e w5 ⟨rfl, ao4, hw_, hs_, hv_⟩;obtain ⟨B4, e4, o4, l4⟩ : ∃ X, X = B3 ++ unrB (q.w - 1) /\ Bits01 X /\ X.length <= B3.length + 17000000 := ⟨_, rfl, o3.append (unrB_01 _), by rw [List.length_append]; have := unrB_len (q.w - 1); omega⟩
  rw [<- e4] at hw_;have H4 := kQ (H3.out.put hw_ hs_ hv_);have X4 : Hid (w5.heap[w.heap.size]? = some (.cells (subC q ca cc pa pc ea ec) 67 (0, 0))) := by show _ = _; rw [H3.out.box hs_ _ (Nat.le_refl _) (by omega)]; exact X3.out
  have E4 := kQ e4;clear hw_ hs_ hv_ e4;clear x0 x1 x2 x3 x4 x5 x6 x7 x8 x9;have HZ : Hid (WB w p ao ao4 (B0 ++ (putB ty 7 ++ wstB q.w)) (w.heap.size + 1) w5) := by rw [HW.out, <- HS.out, List.append_assoc, <- List.append_assoc B0, <- E1.out, <- List.append_assoc, <- E2.out, <- List.append_assoc, <- E3.out, <- E4.out]; exact H4.out
  go_wp2_with fail
  go_end0
  exact ⟨rfl, _, HZ.out.wr, HZ.out.st, HZ.out.mv⟩
end Go.Proofs.YtfpfabmbipmipaaGreatDoor
