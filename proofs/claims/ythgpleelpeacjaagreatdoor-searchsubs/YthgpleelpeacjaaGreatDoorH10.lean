/- Own text. -/
import Derived.Test.YthgpleelpeacjaaGreatDoorH9
set_option linter.unusedSimpArgs false
set_option linter.unusedVariables false
set_option maxRecDepth 20000
set_option maxHeartbeats 12800000
namespace Go.Proofs.YthgpleelpeacjaaGreatDoor
open Go.RowKit
theorem shrL_ln (l : List Int) (k : Nat) : (shrL l k).length = l.length := by unfold shrL; rw [List.length_map]
theorem wiS_k (q : Sb) (m : List Int) : (wiS q m).k = q.k ∧ (wiS q m).o = q.o ∧ (wiS q m).w = q.w ∧ (wiS q m).p = q.p ∧ (wiS q m).h = q.h ∧ (wiS q m).C = q.C := by
 unfold wiS; split <;> exact ⟨rfl, rfl, rfl, rfl, rfl, rfl⟩
theorem resN_wi (q : Sb) (m m' : List Int) : resN (wiS q m) m' = resN q m' := by
 obtain ⟨h1, h2, _, _, h5, h6⟩ := wiS_k q m
 unfold resN; rw [h1, h2, h5, h6]
section
variable (l : List Int) (v : Int) (hv : 1 ≤ v ∧ v ≤ 33) (hn1 : 1 ≤ l.length) (hn2 : l.length ≤ 65535) (hfit : ∀ x ∈ l, sigE x v = 0)
theorem tried_rice (q : Sb) (ht : triedS (wasN l : Int) q) (hk : q.k = 2 ∨ q.k = 3) (ho : q.o ≤ (l.length : Int)) (hv : 1 ≤ v ∧ v ≤ 33) (hn1 : 1 ≤ l.length) (hn2 : l.length ≤ 65535) (hfit : ∀ x ∈ l, sigE x v = 0) :
  (wiS q (shrL l (wasN l))).R = brN l.length q.o.toNat (resN q (shrL l (wasN l))) ∧ chkOk (wiS q (shrL l (wasN l))).R l.length q.o ∧ encR (wiS q (shrL l (wasN l))).R l.length q.o (resN q (shrL l (wasN l))) = true := by
 have hm := shr_small l v hv.1 hv.2 hfit
 have hl := shrL_ln l (wasN l)
 have h4 := tried_o _ q ht
 obtain ⟨hs, hlen⟩ := tried_res _ q ht hk (shrL l (wasN l)) hm (by omega)
 have e : (wiS q (shrL l (wasN l))).R = brN l.length q.o.toNat (resN q (shrL l (wasN l))) := by
  unfold wiS; rw [if_neg (by omega), hl]
 obtain ⟨b1, b2, _⟩ := brN_ok l.length q.o.toNat (resN q (shrL l (wasN l))) hn1 hn2 (by omega) (by omega) hs (by rw [hlen, hl])
 have eo : ((q.o.toNat : Nat) : Int) = q.o := by omega
 rw [eo] at b1 b2
 exact ⟨e, by rw [e]; exact b1, by rw [e]; exact b2⟩
theorem tried_sub (q : Sb) (ht : triedS (wasN l : Int) q) (ho : q.o ≤ (l.length : Int)) (hv : 1 ≤ v ∧ v ≤ 33) (hn1 : 1 ≤ l.length) (hn2 : l.length ≤ 65535) (hfit : ∀ x ∈ l, sigE x v = 0) : subOk (wiS q (shrL l (wasN l))) l.length v := by
 have hw := was_lt l v hv.1 hfit
 have h4 := tried_o _ q ht
 obtain ⟨e1, e2, e3, e4, e5, e6⟩ := wiS_k q (shrL l (wasN l))
 have hwq : q.w = (wasN l : Int) := by
  rcases ht with rfl | rfl | ⟨o, _, rfl⟩ | ⟨C, _, rfl⟩ <;> rfl
 refine ⟨⟨by omega, by omega⟩, hv, ⟨by rw [e3, hwq]; omega, by rw [e3, hwq]; exact hw⟩, ?_⟩
 have ht2 := ht
 rcases ht2 with h | h | ⟨o, ho4, h⟩ | ⟨C, hC, h⟩
 ·left; subst h; exact ⟨Or.inl rfl, ⟨rfl, rfl, rfl⟩, rfl, rfl⟩
 ·left; subst h; exact ⟨Or.inr rfl, ⟨rfl, rfl, rfl⟩, rfl, rfl⟩
 ·right; left
  have hk : q.k = 2 := by rw [h]; rfl
  obtain ⟨_, hc, _⟩ := tried_rice l v q ht (Or.inl hk) ho hv hn1 hn2 hfit
  refine ⟨by rw [e1]; exact hk, ⟨by rw [e4, h]; rfl, by rw [e5, h]; rfl, by rw [e6, h]; rfl⟩, by rw [e2]; exact h4.1, by rw [e2]; exact h4.2, by rw [e2]; exact ho, by rw [e2]; exact hc⟩
 ·right; right
  have hk : q.k = 3 := by rw [h]; rfl
  obtain ⟨_, hc, _⟩ := tried_rice l v q ht (Or.inr hk) ho hv hn1 hn2 hfit
  have hoC : q.o = (C.length : Int) := by rw [h]; rfl
  have hC1 : 1 ≤ C.length ∧ ∀ x ∈ C, sigE x 7 = 0 := by
   rcases List.mem_cons.1 hC with rfl | hC
   ·exact ⟨by decide, fun x hx => by simp at hx; subst hx; decide⟩
   rcases List.mem_cons.1 hC with rfl | hC
   ·exact ⟨by decide, fun x hx => by simp at hx; rcases hx with rfl | rfl <;> decide⟩
   rcases List.mem_cons.1 hC with rfl | hC
   ·exact ⟨by decide, fun x hx => by simp at hx; rcases hx with rfl | rfl <;> decide⟩
   cases hC
  refine ⟨by rw [e1]; exact hk, by rw [e2]; omega, by rw [e2]; omega, by rw [e2]; exact ho, by rw [e4, h]; show (1 : Int) ≤ 7; decide, by rw [e4, h]; show (7 : Int) ≤ 15; decide, by rw [e5, h]; show (0 : Int) ≤ 5; decide, by rw [e5, h]; show (5 : Int) ≤ 15; decide, by rw [e6, e2, h]; rfl, ?_, by rw [e2]; exact hc⟩
  rw [e6, e4, h]
  exact hC1.2
theorem tried_goes (q : Sb) (ht : triedS (wasN l : Int) q) (ho : q.o ≤ (l.length : Int)) (hv : 1 ≤ v ∧ v ≤ 33) (hn1 : 1 ≤ l.length) (hn2 : l.length ≤ 65535) (hfit : ∀ x ∈ l, sigE x v = 0) : vaB q l = true ↔ goesOk (wiS q (shrL l (wasN l))) v l := by
 obtain ⟨e1, e2, e3, e4, e5, e6⟩ := wiS_k q (shrL l (wasN l))
 have hwq : q.w = (wasN l : Int) := by
  rcases ht with rfl | rfl | ⟨o, _, rfl⟩ | ⟨C, _, rfl⟩ <;> rfl
 have hd : dvB l (wiS q (shrL l (wasN l))).w.toNat = true := by rw [e3, hwq, Int.toNat_natCast]; exact wasN_dvB l
 have hr : (wiS q (shrL l (wasN l))).k = 2 ∨ (wiS q (shrL l (wasN l))).k = 3 → encR (wiS q (shrL l (wasN l))).R l.length (wiS q (shrL l (wasN l))).o (resN (wiS q (shrL l (wasN l))) (shrL l (wiS q (shrL l (wasN l))).w.toNat)) = true := fun hk => by
  rw [e1] at hk
  rw [resN_wi, e3, hwq, Int.toNat_natCast, e2]
  exact (tried_rice l v q ht hk ho hv hn1 hn2 hfit).2.2
 unfold vaB
 by_cases h0 : q.k = 0
 ·rw [if_pos h0, List.all_eq_true]
  constructor
  ·intro h
   exact ⟨hfit, hd, fun _ x hx => by have := h x hx; rwa [beq_iff_eq] at this, hr⟩
  ·intro h x hx
   rw [beq_iff_eq]; exact h.2.2.1 (by rw [e1]; exact h0) x hx
 ·rw [if_neg h0]
  have hg : goesOk (wiS q (shrL l (wasN l))) v l := ⟨hfit, hd, fun h => absurd (e1 ▸ h) h0, hr⟩
  split
  ·exact ⟨fun _ => hg, fun _ => rfl⟩
  ·exact ⟨fun _ => hg, fun _ => decide_eq_true ho⟩
end
theorem s_noCoefs (q : Sb) (ca : Option Addr) (cc : Nat) (pa : Option Addr) (pc : Nat) (ea : Option Addr) (ec : Nat) (bb : Bool) (hbb : bb = true ↔ bareOk q) (w : World) (hC : q.C.length ≤ 17592186044415) : Calls Tryz.prog 170 #[subV q ca cc pa pc ea ec] w fun e w' => e = .returned (.bool bb) ∧ Below w.heap.size w w' := by
 by_cases g0 : ¬ q.p = 0
 ·rw [bb_no hbb (fun h => g0 h.1)]
  clear hbb
  have hb0 : (q.p == 0) = false := by rw [beq_eq_false_iff_ne]; exact g0
  have HA : Hid (SX w q ca cc pa pc ea ec (w.alloc (.cells (subC q ca cc pa pc ea ec) 27))) := SX.new w q ca cc pa pc ea ec
  go_enter Tryz.func170, Tryz.ntmps170
  go_upto_region 1 with fail
  generalize hwa : World.alloc _ _ = wa at *
  clear hwa
  obtain ⟨x0, x1, x2, x3, x4, x5, x6, x7, x8, x9⟩ := sub_cells HA.out.box
  go_wp2_with fail
  go_ret
  exact ⟨rfl, HA.out.below⟩
 ·skip
  by_cases g1 : ¬ q.h = 0
  ·rw [bb_no hbb (fun h => g1 h.2.1)]
   clear hbb
   have hb0 : (q.p == 0) = true := by rw [beq_iff_eq]; omega
   have hb1 : (q.h == 0) = false := by rw [beq_eq_false_iff_ne]; exact g1
   have HA : Hid (SX w q ca cc pa pc ea ec (w.alloc (.cells (subC q ca cc pa pc ea ec) 27))) := SX.new w q ca cc pa pc ea ec
   go_enter Tryz.func170, Tryz.ntmps170
   go_upto_region 1 with fail
   generalize hwa : World.alloc _ _ = wa at *
   clear hwa
   obtain ⟨x0, x1, x2, x3, x4, x5, x6, x7, x8, x9⟩ := sub_cells HA.out.box
   go_wp2_with fail
   go_ret
   exact ⟨rfl, HA.out.below⟩
  ·skip
   by_cases g2 : ¬ q.C.length = 0
   ·rw [bb_no hbb (fun h => g2 (by rw [h.2.2]; rfl))]
    clear hbb
    have hb0 : (q.p == 0) = true := by rw [beq_iff_eq]; omega
    have hb1 : (q.h == 0) = true := by rw [beq_iff_eq]; omega
    have hb2 : ((q.C.length : Int) == 0) = false := by rw [beq_eq_false_iff_ne]; omega
    have HA : Hid (SX w q ca cc pa pc ea ec (w.alloc (.cells (subC q ca cc pa pc ea ec) 27))) := SX.new w q ca cc pa pc ea ec
    go_enter Tryz.func170, Tryz.ntmps170
    go_upto_region 1 with fail
    generalize hwa : World.alloc _ _ = wa at *
    clear hwa
    obtain ⟨x0, x1, x2, x3, x4, x5, x6, x7, x8, x9⟩ := sub_cells HA.out.box
    go_wp2_with fail
    go_ret
    exact ⟨rfl, HA.out.below⟩
   ·skip
    rw [bb_yes hbb (⟨by omega, by omega, List.eq_nil_of_length_eq_zero (by omega)⟩)]
    clear hbb
    have hb0 : (q.p == 0) = true := by rw [beq_iff_eq]; omega
    have hb1 : (q.h == 0) = true := by rw [beq_iff_eq]; omega
    have hb2 : ((q.C.length : Int) == 0) = true := by rw [beq_iff_eq]; omega
    have HA : Hid (SX w q ca cc pa pc ea ec (w.alloc (.cells (subC q ca cc pa pc ea ec) 27))) := SX.new w q ca cc pa pc ea ec
    go_enter Tryz.func170, Tryz.ntmps170
    go_upto_region 1 with fail
    generalize hwa : World.alloc _ _ = wa at *
    clear hwa
    obtain ⟨x0, x1, x2, x3, x4, x5, x6, x7, x8, x9⟩ := sub_cells HA.out.box
    go_wp2_with fail
    go_ret
    exact ⟨rfl, HA.out.below⟩
theorem rice_cells {w : World} {g : Nat} {c : Rc} {pa : Option Addr} {pc : Nat} {ea : Option Addr} {ec : Nat} (h : w.heap[g]? = some (.cells (riceC c pa pc ea ec) 25 (0, 0))) :
  w.cell? ⟨g, 0, none⟩ = some (.int .i64 c.m) ∧ w.cell? ⟨g, 1, none⟩ = some (.int .i64 c.o) ∧ w.cell? ⟨g, 2, none⟩ = some (.slice pa c.P.length pc) ∧ w.cell? ⟨g, 3, none⟩ = some (.slice ea c.E.length ec) := by
 refine ⟨?_, ?_, ?_, ?_⟩ <;> (rw [cell_of_row _ _ _ _ _ _ h]; rfl)
theorem rc_zero {c : Rc} (h0 : c.m = 0) (h1 : c.o = 0) (h2 : c.P.length = 0) (h3 : c.E.length = 0) : c = ⟨0, 0, [], []⟩ := by
 obtain ⟨m, o, P, E⟩ := c
 simp only at h0 h1 h2 h3
 rw [h0, h1, List.eq_nil_of_length_eq_zero h2, List.eq_nil_of_length_eq_zero h3]
theorem s_noRice (q : Sb) (ca : Option Addr) (cc : Nat) (pa : Option Addr) (pc : Nat) (ea : Option Addr) (ec : Nat) (bb : Bool) (hbb : bb = true ↔ q.R = ⟨0, 0, [], []⟩) (w : World) (hP : q.R.P.length ≤ 17592186044415) (hE : q.R.E.length ≤ 17592186044415) : Calls Tryz.prog 171 #[subV q ca cc pa pc ea ec] w fun e w' => e = .returned (.bool bb) ∧ Below w.heap.size w w' := by
 by_cases g0 : ¬ q.R.m = 0
 ·rw [bb_no hbb (fun h => g0 (by rw [h]))]
  clear hbb
  have hb0 : (q.R.m == 0) = false := by rw [beq_eq_false_iff_ne]; omega
  have HA : Hid (SX w q ca cc pa pc ea ec (w.alloc (.cells (subC q ca cc pa pc ea ec) 27))) := SX.new w q ca cc pa pc ea ec
  have HR : Hid (∀ wx, SX w q ca cc pa pc ea ec wx → (wx.alloc (.cells (riceC q.R pa pc ea ec) 25)).heap[wx.heap.size]? = some (.cells (riceC q.R pa pc ea ec) 25 (0, 0)) ∧ Below w.heap.size w (wx.alloc (.cells (riceC q.R pa pc ea ec) 25))) := fun wx h => ⟨heap_alloc_new _ _, h.below.alloc h.below.size _⟩
  go_enter Tryz.func171, Tryz.ntmps171
  go_upto_region 1 with fail
  generalize hwa : World.alloc _ _ = wa at *
  clear hwa
  obtain ⟨x0, x1, x2, x3, x4, x5, x6, x7, x8, x9⟩ := sub_cells HA.out.box
  have HR2 := HR.out wa HA.out
  clear HR HA
  go_upto_region 2 with fail
  have HR3 : Hid ((wa.alloc (.cells (riceC q.R pa pc ea ec) 25)).heap[wa.heap.size]? = some (.cells (riceC q.R pa pc ea ec) 25 (0, 0)) ∧ Below w.heap.size w (wa.alloc (.cells (riceC q.R pa pc ea ec) 25))) := HR2
  clear HR2 x0 x1 x2 x3 x4 x5 x6 x7 x8 x9
  generalize hwb : World.alloc _ _ = wb at *
  clear hwb
  generalize wa.heap.size = g at *
  obtain ⟨y0, y1, y2, y3⟩ := rice_cells HR3.out.1
  go_wp2_with fail
  go_ret
  exact ⟨rfl, HR3.out.2⟩
 ·skip
  by_cases g1 : ¬ q.R.o = 0
  ·rw [bb_no hbb (fun h => g1 (by rw [h]))]
   clear hbb
   have hb0 : (q.R.m == 0) = true := by rw [beq_iff_eq]; omega
   have hb1 : (q.R.o == 0) = false := by rw [beq_eq_false_iff_ne]; omega
   have HA : Hid (SX w q ca cc pa pc ea ec (w.alloc (.cells (subC q ca cc pa pc ea ec) 27))) := SX.new w q ca cc pa pc ea ec
   have HR : Hid (∀ wx, SX w q ca cc pa pc ea ec wx → (wx.alloc (.cells (riceC q.R pa pc ea ec) 25)).heap[wx.heap.size]? = some (.cells (riceC q.R pa pc ea ec) 25 (0, 0)) ∧ Below w.heap.size w (wx.alloc (.cells (riceC q.R pa pc ea ec) 25))) := fun wx h => ⟨heap_alloc_new _ _, h.below.alloc h.below.size _⟩
   go_enter Tryz.func171, Tryz.ntmps171
   go_upto_region 1 with fail
   generalize hwa : World.alloc _ _ = wa at *
   clear hwa
   obtain ⟨x0, x1, x2, x3, x4, x5, x6, x7, x8, x9⟩ := sub_cells HA.out.box
   have HR2 := HR.out wa HA.out
   clear HR HA
   go_upto_region 2 with fail
   have HR3 : Hid ((wa.alloc (.cells (riceC q.R pa pc ea ec) 25)).heap[wa.heap.size]? = some (.cells (riceC q.R pa pc ea ec) 25 (0, 0)) ∧ Below w.heap.size w (wa.alloc (.cells (riceC q.R pa pc ea ec) 25))) := HR2
   clear HR2 x0 x1 x2 x3 x4 x5 x6 x7 x8 x9
   generalize hwb : World.alloc _ _ = wb at *
   clear hwb
   generalize wa.heap.size = g at *
   obtain ⟨y0, y1, y2, y3⟩ := rice_cells HR3.out.1
   go_wp2_with fail
   go_ret
   exact ⟨rfl, HR3.out.2⟩
  ·skip
   by_cases g2 : ¬ q.R.P.length = 0
   ·rw [bb_no hbb (fun h => g2 (by rw [h]; rfl))]
    clear hbb
    have hb0 : (q.R.m == 0) = true := by rw [beq_iff_eq]; omega
    have hb1 : (q.R.o == 0) = true := by rw [beq_iff_eq]; omega
    have hb2 : ((q.R.P.length : Int) == 0) = false := by rw [beq_eq_false_iff_ne]; omega
    have HA : Hid (SX w q ca cc pa pc ea ec (w.alloc (.cells (subC q ca cc pa pc ea ec) 27))) := SX.new w q ca cc pa pc ea ec
    have HR : Hid (∀ wx, SX w q ca cc pa pc ea ec wx → (wx.alloc (.cells (riceC q.R pa pc ea ec) 25)).heap[wx.heap.size]? = some (.cells (riceC q.R pa pc ea ec) 25 (0, 0)) ∧ Below w.heap.size w (wx.alloc (.cells (riceC q.R pa pc ea ec) 25))) := fun wx h => ⟨heap_alloc_new _ _, h.below.alloc h.below.size _⟩
    go_enter Tryz.func171, Tryz.ntmps171
    go_upto_region 1 with fail
    generalize hwa : World.alloc _ _ = wa at *
    clear hwa
    obtain ⟨x0, x1, x2, x3, x4, x5, x6, x7, x8, x9⟩ := sub_cells HA.out.box
    have HR2 := HR.out wa HA.out
    clear HR HA
    go_upto_region 2 with fail
    have HR3 : Hid ((wa.alloc (.cells (riceC q.R pa pc ea ec) 25)).heap[wa.heap.size]? = some (.cells (riceC q.R pa pc ea ec) 25 (0, 0)) ∧ Below w.heap.size w (wa.alloc (.cells (riceC q.R pa pc ea ec) 25))) := HR2
    clear HR2 x0 x1 x2 x3 x4 x5 x6 x7 x8 x9
    generalize hwb : World.alloc _ _ = wb at *
    clear hwb
    generalize wa.heap.size = g at *
    obtain ⟨y0, y1, y2, y3⟩ := rice_cells HR3.out.1
    go_wp2_with fail
    go_ret
    exact ⟨rfl, HR3.out.2⟩
   ·skip
    by_cases g3 : ¬ q.R.E.length = 0
    ·rw [bb_no hbb (fun h => g3 (by rw [h]; rfl))]
     clear hbb
     have hb0 : (q.R.m == 0) = true := by rw [beq_iff_eq]; omega
     have hb1 : (q.R.o == 0) = true := by rw [beq_iff_eq]; omega
     have hb2 : ((q.R.P.length : Int) == 0) = true := by rw [beq_iff_eq]; omega
     have hb3 : ((q.R.E.length : Int) == 0) = false := by rw [beq_eq_false_iff_ne]; omega
     have HA : Hid (SX w q ca cc pa pc ea ec (w.alloc (.cells (subC q ca cc pa pc ea ec) 27))) := SX.new w q ca cc pa pc ea ec
     have HR : Hid (∀ wx, SX w q ca cc pa pc ea ec wx → (wx.alloc (.cells (riceC q.R pa pc ea ec) 25)).heap[wx.heap.size]? = some (.cells (riceC q.R pa pc ea ec) 25 (0, 0)) ∧ Below w.heap.size w (wx.alloc (.cells (riceC q.R pa pc ea ec) 25))) := fun wx h => ⟨heap_alloc_new _ _, h.below.alloc h.below.size _⟩
     go_enter Tryz.func171, Tryz.ntmps171
     go_upto_region 1 with fail
     generalize hwa : World.alloc _ _ = wa at *
     clear hwa
     obtain ⟨x0, x1, x2, x3, x4, x5, x6, x7, x8, x9⟩ := sub_cells HA.out.box
     have HR2 := HR.out wa HA.out
     clear HR HA
     go_upto_region 2 with fail
     have HR3 : Hid ((wa.alloc (.cells (riceC q.R pa pc ea ec) 25)).heap[wa.heap.size]? = some (.cells (riceC q.R pa pc ea ec) 25 (0, 0)) ∧ Below w.heap.size w (wa.alloc (.cells (riceC q.R pa pc ea ec) 25))) := HR2
     clear HR2 x0 x1 x2 x3 x4 x5 x6 x7 x8 x9
     generalize hwb : World.alloc _ _ = wb at *
     clear hwb
     generalize wa.heap.size = g at *
     obtain ⟨y0, y1, y2, y3⟩ := rice_cells HR3.out.1
     go_wp2_with fail
     go_ret
     exact ⟨rfl, HR3.out.2⟩
    ·skip
     rw [bb_yes hbb (rc_zero (by omega) (by omega) (by omega) (by omega))]
     clear hbb
     have hb0 : (q.R.m == 0) = true := by rw [beq_iff_eq]; omega
     have hb1 : (q.R.o == 0) = true := by rw [beq_iff_eq]; omega
     have hb2 : ((q.R.P.length : Int) == 0) = true := by rw [beq_iff_eq]; omega
     have hb3 : ((q.R.E.length : Int) == 0) = true := by rw [beq_iff_eq]; omega
     have HA : Hid (SX w q ca cc pa pc ea ec (w.alloc (.cells (subC q ca cc pa pc ea ec) 27))) := SX.new w q ca cc pa pc ea ec
     have HR : Hid (∀ wx, SX w q ca cc pa pc ea ec wx → (wx.alloc (.cells (riceC q.R pa pc ea ec) 25)).heap[wx.heap.size]? = some (.cells (riceC q.R pa pc ea ec) 25 (0, 0)) ∧ Below w.heap.size w (wx.alloc (.cells (riceC q.R pa pc ea ec) 25))) := fun wx h => ⟨heap_alloc_new _ _, h.below.alloc h.below.size _⟩
     go_enter Tryz.func171, Tryz.ntmps171
     go_upto_region 1 with fail
     generalize hwa : World.alloc _ _ = wa at *
     clear hwa
     obtain ⟨x0, x1, x2, x3, x4, x5, x6, x7, x8, x9⟩ := sub_cells HA.out.box
     have HR2 := HR.out wa HA.out
     clear HR HA
     go_upto_region 2 with fail
     have HR3 : Hid ((wa.alloc (.cells (riceC q.R pa pc ea ec) 25)).heap[wa.heap.size]? = some (.cells (riceC q.R pa pc ea ec) 25 (0, 0)) ∧ Below w.heap.size w (wa.alloc (.cells (riceC q.R pa pc ea ec) 25))) := HR2
     clear HR2 x0 x1 x2 x3 x4 x5 x6 x7 x8 x9
     generalize hwb : World.alloc _ _ = wb at *
     clear hwb
     generalize wa.heap.size = g at *
     obtain ⟨y0, y1, y2, y3⟩ := rice_cells HR3.out.1
     go_wp2_with fail
     go_ret
     exact ⟨rfl, HR3.out.2⟩
abbrev ordOk (k o b : Int) : Prop := (k = 2 → 0 ≤ o ∧ o ≤ 4 ∧ o ≤ b) ∧ (¬ k = 2 → 1 ≤ o ∧ o ≤ 32 ∧ o ≤ b)
theorem s_order (q : Sb) (ca : Option Addr) (cc : Nat) (pa : Option Addr) (pc : Nat) (ea : Option Addr) (ec : Nat) (b : Int) (bb : Bool) (hbb : bb = true ↔ ordOk q.k q.o b) (w : World) : Calls Tryz.prog 172 #[subV q ca cc pa pc ea ec, .int .i64 b] w fun e w' => e = .returned (.bool bb) ∧ Below w.heap.size w w' := by
 by_cases k2 : q.k = 2
 ·skip
  by_cases g0 : q.o < 0
  ·rw [bb_no hbb (by omega)]
   clear hbb
   have hbk : (q.k == 2) = true := by rw [beq_iff_eq]; omega
   have HA : Hid (SX w q ca cc pa pc ea ec (w.alloc (.cells (subC q ca cc pa pc ea ec) 27))) := SX.new w q ca cc pa pc ea ec
   go_enter Tryz.func172, Tryz.ntmps172
   go_upto_region 1 with fail
   generalize hwa : World.alloc _ _ = wa at *
   clear hwa
   obtain ⟨x0, x1, x2, x3, x4, x5, x6, x7, x8, x9⟩ := sub_cells HA.out.box
   go_wp2_with fail
   go_ret
   exact ⟨rfl, HA.out.below⟩
  ·skip
   by_cases g1 : ¬ (q.o ≤ 4 ∧ q.o ≤ b)
   ·rw [bb_no hbb (by omega)]
    clear hbb
    have hbk : (q.k == 2) = true := by rw [beq_iff_eq]; omega
    by_cases hbh : b < 4
    ·have hm : decide (q.o ≤ b) = false := decide_eq_false (by omega)
     have HA : Hid (SX w q ca cc pa pc ea ec (w.alloc (.cells (subC q ca cc pa pc ea ec) 27))) := SX.new w q ca cc pa pc ea ec
     go_enter Tryz.func172, Tryz.ntmps172
     go_upto_region 1 with fail
     generalize hwa : World.alloc _ _ = wa at *
     clear hwa
     obtain ⟨x0, x1, x2, x3, x4, x5, x6, x7, x8, x9⟩ := sub_cells HA.out.box
     go_wp2_with fail
     go_ret
     exact ⟨rfl, HA.out.below⟩
    ·have hm : decide (q.o ≤ 4) = false := decide_eq_false (by omega)
     have HA : Hid (SX w q ca cc pa pc ea ec (w.alloc (.cells (subC q ca cc pa pc ea ec) 27))) := SX.new w q ca cc pa pc ea ec
     go_enter Tryz.func172, Tryz.ntmps172
     go_upto_region 1 with fail
     generalize hwa : World.alloc _ _ = wa at *
     clear hwa
     obtain ⟨x0, x1, x2, x3, x4, x5, x6, x7, x8, x9⟩ := sub_cells HA.out.box
     go_wp2_with fail
     go_ret
     exact ⟨rfl, HA.out.below⟩
   ·skip
    rw [bb_yes hbb (by omega)]
    clear hbb
    have hbk : (q.k == 2) = true := by rw [beq_iff_eq]; omega
    by_cases hbh : b < 4
    ·have hm : decide (q.o ≤ b) = true := decide_eq_true (by omega)
     have HA : Hid (SX w q ca cc pa pc ea ec (w.alloc (.cells (subC q ca cc pa pc ea ec) 27))) := SX.new w q ca cc pa pc ea ec
     go_enter Tryz.func172, Tryz.ntmps172
     go_upto_region 1 with fail
     generalize hwa : World.alloc _ _ = wa at *
     clear hwa
     obtain ⟨x0, x1, x2, x3, x4, x5, x6, x7, x8, x9⟩ := sub_cells HA.out.box
     go_wp2_with fail
     go_ret
     exact ⟨rfl, HA.out.below⟩
    ·have hm : decide (q.o ≤ 4) = true := decide_eq_true (by omega)
     have HA : Hid (SX w q ca cc pa pc ea ec (w.alloc (.cells (subC q ca cc pa pc ea ec) 27))) := SX.new w q ca cc pa pc ea ec
     go_enter Tryz.func172, Tryz.ntmps172
     go_upto_region 1 with fail
     generalize hwa : World.alloc _ _ = wa at *
     clear hwa
     obtain ⟨x0, x1, x2, x3, x4, x5, x6, x7, x8, x9⟩ := sub_cells HA.out.box
     go_wp2_with fail
     go_ret
     exact ⟨rfl, HA.out.below⟩
 ·skip
  by_cases g0 : q.o < 1
  ·rw [bb_no hbb (by omega)]
   clear hbb
   have hbk : (q.k == 2) = false := by rw [beq_eq_false_iff_ne]; omega
   have HA : Hid (SX w q ca cc pa pc ea ec (w.alloc (.cells (subC q ca cc pa pc ea ec) 27))) := SX.new w q ca cc pa pc ea ec
   go_enter Tryz.func172, Tryz.ntmps172
   go_upto_region 1 with fail
   generalize hwa : World.alloc _ _ = wa at *
   clear hwa
   obtain ⟨x0, x1, x2, x3, x4, x5, x6, x7, x8, x9⟩ := sub_cells HA.out.box
   go_wp2_with fail
   go_ret
   exact ⟨rfl, HA.out.below⟩
  ·skip
   by_cases g1 : ¬ (q.o ≤ 32 ∧ q.o ≤ b)
   ·rw [bb_no hbb (by omega)]
    clear hbb
    have hbk : (q.k == 2) = false := by rw [beq_eq_false_iff_ne]; omega
    by_cases hbh : b < 32
    ·have hm : decide (q.o ≤ b) = false := decide_eq_false (by omega)
     have HA : Hid (SX w q ca cc pa pc ea ec (w.alloc (.cells (subC q ca cc pa pc ea ec) 27))) := SX.new w q ca cc pa pc ea ec
     go_enter Tryz.func172, Tryz.ntmps172
     go_upto_region 1 with fail
     generalize hwa : World.alloc _ _ = wa at *
     clear hwa
     obtain ⟨x0, x1, x2, x3, x4, x5, x6, x7, x8, x9⟩ := sub_cells HA.out.box
     go_wp2_with fail
     go_ret
     exact ⟨rfl, HA.out.below⟩
    ·have hm : decide (q.o ≤ 32) = false := decide_eq_false (by omega)
     have HA : Hid (SX w q ca cc pa pc ea ec (w.alloc (.cells (subC q ca cc pa pc ea ec) 27))) := SX.new w q ca cc pa pc ea ec
     go_enter Tryz.func172, Tryz.ntmps172
     go_upto_region 1 with fail
     generalize hwa : World.alloc _ _ = wa at *
     clear hwa
     obtain ⟨x0, x1, x2, x3, x4, x5, x6, x7, x8, x9⟩ := sub_cells HA.out.box
     go_wp2_with fail
     go_ret
     exact ⟨rfl, HA.out.below⟩
   ·skip
    rw [bb_yes hbb (by omega)]
    clear hbb
    have hbk : (q.k == 2) = false := by rw [beq_eq_false_iff_ne]; omega
    by_cases hbh : b < 32
    ·have hm : decide (q.o ≤ b) = true := decide_eq_true (by omega)
     have HA : Hid (SX w q ca cc pa pc ea ec (w.alloc (.cells (subC q ca cc pa pc ea ec) 27))) := SX.new w q ca cc pa pc ea ec
     go_enter Tryz.func172, Tryz.ntmps172
     go_upto_region 1 with fail
     generalize hwa : World.alloc _ _ = wa at *
     clear hwa
     obtain ⟨x0, x1, x2, x3, x4, x5, x6, x7, x8, x9⟩ := sub_cells HA.out.box
     go_wp2_with fail
     go_ret
     exact ⟨rfl, HA.out.below⟩
    ·have hm : decide (q.o ≤ 32) = true := decide_eq_true (by omega)
     have HA : Hid (SX w q ca cc pa pc ea ec (w.alloc (.cells (subC q ca cc pa pc ea ec) 27))) := SX.new w q ca cc pa pc ea ec
     go_enter Tryz.func172, Tryz.ntmps172
     go_upto_region 1 with fail
     generalize hwa : World.alloc _ _ = wa at *
     clear hwa
     obtain ⟨x0, x1, x2, x3, x4, x5, x6, x7, x8, x9⟩ := sub_cells HA.out.box
     go_wp2_with fail
     go_ret
     exact ⟨rfl, HA.out.below⟩
theorem s_rice (q : Sb) (ca : Option Addr) (cc : Nat) (pa : Option Addr) (pc : Nat) (ea : Option Addr) (ec : Nat) (b : Int) (bb : Bool) (hbb : bb = true ↔ chkOk q.R b q.o) (w : World) (hr : RcAt w q.R pa ea) : Calls Tryz.prog 173 #[subV q ca cc pa pc ea ec, .int .i64 b] w fun e w' => e = .returned (.bool bb) ∧ Below w.heap.size w w' := by
 have HK : Hid (∀ wx, Below w.heap.size w wx → Calls Tryz.prog 179 #[riceV q.R pa pc ea ec, .int .i64 b, .int .i64 q.o] wx fun en w' => en = .returned (.int .i64 (chkN q.R b q.o)) ∧ Below wx.heap.size wx w') := fun wx hb => check_spec q.R b q.o pa pc ea ec wx (hr.below hb)
 clear hr
 by_cases g0 : chkOk q.R b q.o
 ·rw [chk_yes g0] at HK
  rw [bb_yes hbb (g0)]
  clear hbb
  clear g0
  have HA : Hid (SX w q ca cc pa pc ea ec (w.alloc (.cells (subC q ca cc pa pc ea ec) 27))) := SX.new w q ca cc pa pc ea ec
  go_enter Tryz.func173, Tryz.ntmps173
  go_upto_region 1 with fail
  generalize hwa : World.alloc _ _ = wa at *
  clear hwa
  obtain ⟨x0, x1, x2, x3, x4, x5, x6, x7, x8, x9⟩ := sub_cells HA.out.box
  go_wp2_with fail
  refine (HK.out _ HA.out.below).mono ?_
  rintro e wx_HA0 ⟨rfl, hb⟩
  have HA0 : Hid (SX w q ca cc pa pc ea ec wx_HA0) := HA.out.next hb
  clear hb HA x0 x1 x2 x3 x4 x5 x6 x7 x8 x9
  obtain ⟨x0, x1, x2, x3, x4, x5, x6, x7, x8, x9⟩ := sub_cells HA0.out.box
  go_wp2_with fail
  go_ret
  exact ⟨rfl, HA0.out.below⟩
 ·rw [chk_no g0] at HK
  rw [bb_no hbb (g0)]
  clear hbb
  clear g0
  have HA : Hid (SX w q ca cc pa pc ea ec (w.alloc (.cells (subC q ca cc pa pc ea ec) 27))) := SX.new w q ca cc pa pc ea ec
  go_enter Tryz.func173, Tryz.ntmps173
  go_upto_region 1 with fail
  generalize hwa : World.alloc _ _ = wa at *
  clear hwa
  obtain ⟨x0, x1, x2, x3, x4, x5, x6, x7, x8, x9⟩ := sub_cells HA.out.box
  go_wp2_with fail
  refine (HK.out _ HA.out.below).mono ?_
  rintro e wx_HA0 ⟨rfl, hb⟩
  have HA0 : Hid (SX w q ca cc pa pc ea ec wx_HA0) := HA.out.next hb
  clear hb HA x0 x1 x2 x3 x4 x5 x6 x7 x8 x9
  obtain ⟨x0, x1, x2, x3, x4, x5, x6, x7, x8, x9⟩ := sub_cells HA0.out.box
  go_wp2_with fail
  go_ret
  exact ⟨rfl, HA0.out.below⟩
abbrev coefOk (q : Sb) : Prop := (1 ≤ q.p ∧ q.p ≤ 15) ∧ (0 ≤ q.h ∧ q.h ≤ 15) ∧ (q.C.length : Int) = q.o ∧ ∀ x ∈ q.C, sigE x q.p = 0
theorem s_coefs (q : Sb) (ca : Option Addr) (cc : Nat) (pa : Option Addr) (pc : Nat) (ea : Option Addr) (ec : Nat) (bb : Bool) (hbb : bb = true ↔ coefOk q) (w : World) (hC : IntsAt w ca q.C) : Calls Tryz.prog 174 #[subV q ca cc pa pc ea ec] w fun e w' => e = .returned (.bool bb) ∧ Below w.heap.size w w' := by
 have hcl := hC.len
 by_cases g0 : q.p < 1
 ·rw [bb_no hbb (fun h => by have := h.1; omega)]
  clear hbb
  have HA : Hid (SX w q ca cc pa pc ea ec (w.alloc (.cells (subC q ca cc pa pc ea ec) 27))) := SX.new w q ca cc pa pc ea ec
  go_enter Tryz.func174, Tryz.ntmps174
  go_upto_region 1 with fail
  generalize hwa : World.alloc _ _ = wa at *
  clear hwa
  obtain ⟨x0, x1, x2, x3, x4, x5, x6, x7, x8, x9⟩ := sub_cells HA.out.box
  go_wp2_with fail
  go_ret
  exact ⟨rfl, HA.out.below⟩
 ·skip
  by_cases g1 : 15 < q.p
  ·rw [bb_no hbb (fun h => by have := h.1; omega)]
   clear hbb
   have HA : Hid (SX w q ca cc pa pc ea ec (w.alloc (.cells (subC q ca cc pa pc ea ec) 27))) := SX.new w q ca cc pa pc ea ec
   go_enter Tryz.func174, Tryz.ntmps174
   go_upto_region 1 with fail
   generalize hwa : World.alloc _ _ = wa at *
   clear hwa
   obtain ⟨x0, x1, x2, x3, x4, x5, x6, x7, x8, x9⟩ := sub_cells HA.out.box
   go_wp2_with fail
   go_ret
   exact ⟨rfl, HA.out.below⟩
  ·skip
   by_cases g2 : q.h < 0
   ·rw [bb_no hbb (fun h => by have := h.2.1; omega)]
    clear hbb
    have HA : Hid (SX w q ca cc pa pc ea ec (w.alloc (.cells (subC q ca cc pa pc ea ec) 27))) := SX.new w q ca cc pa pc ea ec
    go_enter Tryz.func174, Tryz.ntmps174
    go_upto_region 1 with fail
    generalize hwa : World.alloc _ _ = wa at *
    clear hwa
    obtain ⟨x0, x1, x2, x3, x4, x5, x6, x7, x8, x9⟩ := sub_cells HA.out.box
    go_wp2_with fail
    go_ret
    exact ⟨rfl, HA.out.below⟩
   ·skip
    by_cases g3 : 15 < q.h
    ·rw [bb_no hbb (fun h => by have := h.2.1; omega)]
     clear hbb
     have HA : Hid (SX w q ca cc pa pc ea ec (w.alloc (.cells (subC q ca cc pa pc ea ec) 27))) := SX.new w q ca cc pa pc ea ec
     go_enter Tryz.func174, Tryz.ntmps174
     go_upto_region 1 with fail
     generalize hwa : World.alloc _ _ = wa at *
     clear hwa
     obtain ⟨x0, x1, x2, x3, x4, x5, x6, x7, x8, x9⟩ := sub_cells HA.out.box
     go_wp2_with fail
     go_ret
     exact ⟨rfl, HA.out.below⟩
    ·skip
     by_cases g4 : ¬ (q.C.length : Int) = q.o
     ·rw [bb_no hbb (fun h => g4 h.2.2.1)]
      clear hbb
      have hbc : ((q.C.length : Int) == q.o) = false := by rw [beq_eq_false_iff_ne]; exact g4
      have HA : Hid (SX w q ca cc pa pc ea ec (w.alloc (.cells (subC q ca cc pa pc ea ec) 27))) := SX.new w q ca cc pa pc ea ec
      go_enter Tryz.func174, Tryz.ntmps174
      go_upto_region 1 with fail
      generalize hwa : World.alloc _ _ = wa at *
      clear hwa
      obtain ⟨x0, x1, x2, x3, x4, x5, x6, x7, x8, x9⟩ := sub_cells HA.out.box
      go_wp2_with fail
      go_ret
      exact ⟨rfl, HA.out.below⟩
     ·skip
      have hbc : ((q.C.length : Int) == q.o) = true := by rw [beq_iff_eq]; omega
      by_cases g5 : ∀ x ∈ q.C, sigE x q.p = 0
      ·rw [bb_yes hbb (⟨by omega, by omega, by omega, g5⟩)]
       clear hbb
       have HK : Hid (∀ wx, Below w.heap.size w wx → Calls Tryz.prog 129 #[.slice ca q.C.length cc, .int .i64 q.p] wx fun e w' => e = .returned (.bool true) ∧ Below wx.heap.size wx w') := fun wx hb => by
        rw [show q.p = ((q.p.toNat - 1 : Nat) : Int) + 1 by omega]
        refine (s_within q.C ca cc (q.p.toNat - 1) (by omega) true (tt_iff ?_) wx (hC.below hb)).mono fun e w' h => ⟨h.1, by rw [h.2]; exact Below.refl _ _⟩
        rw [show ((q.p.toNat - 1 : Nat) : Int) + 1 = q.p by omega]; exact g5
       have hcl := hC.len
       clear hC
       clear g5
       have HA : Hid (SX w q ca cc pa pc ea ec (w.alloc (.cells (subC q ca cc pa pc ea ec) 27))) := SX.new w q ca cc pa pc ea ec
       go_enter Tryz.func174, Tryz.ntmps174
       go_upto_region 1 with fail
       generalize hwa : World.alloc _ _ = wa at *
       clear hwa
       obtain ⟨x0, x1, x2, x3, x4, x5, x6, x7, x8, x9⟩ := sub_cells HA.out.box
       go_wp2_with fail
       refine (HK.out _ HA.out.below).mono ?_
       rintro e wx_HA0 ⟨rfl, hb⟩
       have HA0 : Hid (SX w q ca cc pa pc ea ec wx_HA0) := HA.out.next hb
       clear hb HA x0 x1 x2 x3 x4 x5 x6 x7 x8 x9
       obtain ⟨x0, x1, x2, x3, x4, x5, x6, x7, x8, x9⟩ := sub_cells HA0.out.box
       go_wp2_with fail
       go_ret
       exact ⟨rfl, HA0.out.below⟩
      ·rw [bb_no hbb (fun h => g5 h.2.2.2)]
       clear hbb
       have HK : Hid (∀ wx, Below w.heap.size w wx → Calls Tryz.prog 129 #[.slice ca q.C.length cc, .int .i64 q.p] wx fun e w' => e = .returned (.bool false) ∧ Below wx.heap.size wx w') := fun wx hb => by
        rw [show q.p = ((q.p.toNat - 1 : Nat) : Int) + 1 by omega]
        refine (s_within q.C ca cc (q.p.toNat - 1) (by omega) false (ff_iff ?_) wx (hC.below hb)).mono fun e w' h => ⟨h.1, by rw [h.2]; exact Below.refl _ _⟩
        rw [show ((q.p.toNat - 1 : Nat) : Int) + 1 = q.p by omega]; exact g5
       have hcl := hC.len
       clear hC
       clear g5
       have HA : Hid (SX w q ca cc pa pc ea ec (w.alloc (.cells (subC q ca cc pa pc ea ec) 27))) := SX.new w q ca cc pa pc ea ec
       go_enter Tryz.func174, Tryz.ntmps174
       go_upto_region 1 with fail
       generalize hwa : World.alloc _ _ = wa at *
       clear hwa
       obtain ⟨x0, x1, x2, x3, x4, x5, x6, x7, x8, x9⟩ := sub_cells HA.out.box
       go_wp2_with fail
       refine (HK.out _ HA.out.below).mono ?_
       rintro e wx_HA0 ⟨rfl, hb⟩
       have HA0 : Hid (SX w q ca cc pa pc ea ec wx_HA0) := HA.out.next hb
       clear hb HA x0 x1 x2 x3 x4 x5 x6 x7 x8 x9
       obtain ⟨x0, x1, x2, x3, x4, x5, x6, x7, x8, x9⟩ := sub_cells HA0.out.box
       go_wp2_with fail
       go_ret
       exact ⟨rfl, HA0.out.below⟩
end Go.Proofs.YthgpleelpeacjaaGreatDoor
