/- Own text: the walk of the program's Pack. -/
import Derived.Test.YtaepgjheknkojaaGreatG16x
namespace Go.Proofs.YtaepgjheknkojaaGreat
open Go.RowKit
set_option linter.unusedSimpArgs false
set_option linter.unusedVariables false

set_option maxRecDepth 20000 in
set_option maxHeartbeats 3200000 in
theorem pack_no (p : Pcm) (ao : Option Addr) (cap : Nat) (big uns : Bool) (w : World) (hr : RowsAt w ao p.pl) (hc : ¬ checkN p = 0) :
    Calls Tryz.prog 30 #[pcmV p ao cap, .agg #[.bool big, .bool uns]] w fun e w' => e = .returned (.tuple #[.string ⟨#[]⟩, .int .i64 (checkN p)]) ∧ Below w.heap.size w w' := by
  have HB0 : Hid (Bx w p ao cap ((w.alloc (.cells (pcmC p ao cap) 24)).alloc (.cells #[.bool big, .bool uns] 59))) := (Bx.new w p ao cap).next ((Below.refl _ _).alloc (Nat.le_refl _) _)
  have d0 := HB0.out.c0
  have d1 := HB0.out.c1
  have d2 := HB0.out.c2
  have d3 := HB0.out.c3
  have kc : Calls Tryz.prog 51 #[pcmV p ao cap] ((w.alloc (.cells (pcmC p ao cap) 24)).alloc (.cells #[.bool big, .bool uns] 59)) fun e w' => e = .returned (.int .i64 (checkN p)) ∧ Hid (Bx w p ao cap w') :=
    (check_spec p ao cap _ (hr.below HB0.out.below)).mono fun e w' h => ⟨h.1, HB0.out.next h.2⟩
  have hbn : (checkN p == 0) = false := by rw [beq_eq_false_iff_ne]; exact hc
  have hbn2 : (checkN p != 0) = true := by rw [bne_iff_ne]; exact hc
  clear hr hc
  generalize checkN p = n at *
  go_enter Tryz.func30, Tryz.ntmps30
  go_wp2_with fail
  refine kc.mono ?_
  rintro e w4 ⟨rfl, h4⟩
  clear kc d0 d1 d2 d3
  go_wp2_with fail
  go_ret2
  exact ⟨rfl, h4.out.below⟩

set_option maxRecDepth 20000 in
set_option maxHeartbeats 6400000 in
theorem pack_yes (p : Pcm) (ao : Option Addr) (cap : Nat) (big uns : Bool) (w : World) (hr : RowsAt w ao p.pl) (hc : checkN p = 0) :
    Calls Tryz.prog 30 #[pcmV p ao cap, .agg #[.bool big, .bool uns]] w fun e w' => e = .returned (.tuple #[.string (textOf (packL p big uns (lenP p))), .int .i64 0]) ∧ Below w.heap.size w w' := by
  obtain ⟨hh, hl, h2, hch, hsm⟩ := ok_parts p hc
  have hm := check_head_ok p hc
  have hnb : nby p.wd ≤ 4 := (nby_range p.wd (by omega) (by omega)).2.1
  obtain ⟨b, off, rfl, _⟩ := hr.lies (by omega)
  have HB0 : Hid (Bx w p (some ⟨b, off, none⟩) cap ((w.alloc (.cells (pcmC p (some ⟨b, off, none⟩) cap) 24)).alloc (.cells #[.bool big, .bool uns] 59))) := (Bx.new w p _ cap).next ((Below.refl _ _).alloc (Nat.le_refl _) _)
  have d0 := HB0.out.c0
  have d1 := HB0.out.c1
  have d2 := HB0.out.c2
  have d3 := HB0.out.c3
  have HLY : Hid (((w.alloc (.cells (pcmC p (some ⟨b, off, none⟩) cap) 24)).alloc (.cells #[.bool big, .bool uns] 59)).heap[w.heap.size + 1]? = some (.cells #[.bool big, .bool uns] 59 (0, 0))) := by
    show _ = _
    rw [← show (w.alloc (.cells (pcmC p (some ⟨b, off, none⟩) cap) 24)).heap.size = w.heap.size + 1 from by simp]
    exact heap_alloc_new _ _
  have kc : Calls Tryz.prog 51 #[pcmV p (some ⟨b, off, none⟩) cap] ((w.alloc (.cells (pcmC p (some ⟨b, off, none⟩) cap) 24)).alloc (.cells #[.bool big, .bool uns] 59)) fun e w' => e = .returned (.int .i64 0) ∧ Hid (Bx w p (some ⟨b, off, none⟩) cap w') ∧ Hid (w'.heap[w.heap.size + 1]? = some (.cells #[.bool big, .bool uns] 59 (0, 0))) :=
    (check_spec p _ cap _ (hr.below HB0.out.below)).mono fun e w' h => ⟨by rw [h.1, hc], HB0.out.next h.2, by show _ = _; rw [h.2.block _ (lt_of_block HLY.out)]; exact HLY.out⟩
  have KO : Hid (∀ wx, Hid (Bx w p (some ⟨b, off, none⟩) cap wx) → Calls Tryz.prog 57 #[.int .i64 p.wd, .agg #[.bool big, .bool uns]] wx fun e w' => e = .returned (.agg (cellC p.wd big uns)) ∧ Hid (Bx w p (some ⟨b, off, none⟩) cap w')) := fun wx hx =>
    (cellOf_spec p.wd big uns (by omega) (by omega) wx).mono fun e w' h => ⟨h.1, hx.out.next h.2⟩
  have HC : Hid (checkN p = 0) := hc
  have HR : Hid (RowsAt w (some ⟨b, off, none⟩) p.pl) := hr
  obtain ⟨c, hcc⟩ : ∃ c : Nat, p.pl.length = c := ⟨_, rfl⟩
  have hpc : p.ch = (c : Int) := by omega
  obtain ⟨X, hX⟩ : ∃ X : Nat, lenP p * c = X := ⟨_, rfl⟩
  obtain ⟨Y, hY⟩ : ∃ Y : Nat, X * nby p.wd = Y := ⟨_, rfl⟩
  have hXb : X ≤ 8388608 := by rw [← hX]; exact Nat.le_trans (Nat.mul_le_mul hl (show c ≤ 8 by omega)) (by decide)
  have hYb : Y ≤ 33554432 := by rw [← hY]; exact Nat.le_trans (Nat.mul_le_mul hXb hnb) (by decide)
  have hXi : (lenP p : Int) * p.ch = (X : Int) := by rw [hpc, ← hX, Int.natCast_mul]
  have hYi : (X : Int) * (nby p.wd : Int) = (Y : Int) := by rw [← hY, Int.natCast_mul]
  have HWX : Hid (IntKind.i64.wrap (X : Int) = (X : Int)) := by show _ = _; rw [IntKind.wrap_i64]; omega
  have HWY : Hid (IntKind.i64.wrap (Y : Int) = (Y : Int)) := by show _ = _; rw [IntKind.wrap_i64]; omega
  have HYI : Hid ((X : Int) * (nby p.wd : Int) = (Y : Int)) := hYi
  clear hr hc hh h2 hch hsm hX hY hcc hpc hYi
  go_enter Tryz.func30, Tryz.ntmps30
  go_wp2_with fail
  refine kc.mono ?_
  rintro e w4 ⟨rfl, h4, hy4⟩
  clear kc d0 d1 d2 d3
  have d2 := h4.out.c2
  have y0 : w4.cell? ⟨w.heap.size + 1, 0, none⟩ = some (.bool big) := by rw [cell_of_row _ _ _ _ _ _ hy4.out]; rfl
  have y1 : w4.cell? ⟨w.heap.size + 1, 1, none⟩ = some (.bool uns) := by rw [cell_of_row _ _ _ _ _ _ hy4.out]; rfl
  have ko := KO.out w4 h4
  go_wp2_with fail
  refine ko.mono ?_
  rintro e w5 ⟨rfl, h5⟩
  clear ko d2 y0 y1 h4 hy4 HB0 HLY KO
  have HG : Hid (Pg w5 w5.heap.size (w5.heap.size + 1) p.wd big uns ((w5.alloc (.cells (cellC p.wd big uns) 104)).alloc (.cells #[.pointer none, .slice none 0 0] 109))) := by
    refine ⟨?_, ?_, Nat.le_refl _, Nat.lt_succ_self _, ((Below.refl _ _).alloc (Nat.le_refl _) _).alloc (by simp) _⟩
    · rw [((Below.refl _ _).alloc (Nat.le_refl _) _).block _ (by simp)]
      exact heap_alloc_new _ _
    · rw [← show (w5.alloc (.cells (cellC p.wd big uns) 104)).heap.size = w5.heap.size + 1 from by simp]
      exact heap_alloc_new _ _
  go_wp2_with fail
  generalize hw6 : World.alloc (World.alloc w5 _) _ = w6
  have H6 : Hid (Pg w5 w5.heap.size (w5.heap.size + 1) p.wd big uns w6) := by
    rw [← hw6]
    exact HG.out
  clear hw6 HG
  generalize hC : w5.heap.size = C at *
  have KL : Hid (∀ wx, Hid (Pg w5 C (C + 1) p.wd big uns wx) → Calls Tryz.prog 59 #[pcmV p (some ⟨b, off, none⟩) cap] wx fun e w' => e = .returned (.int .i64 (lenP p : Int)) ∧ Hid (Pg w5 C (C + 1) p.wd big uns w')) := fun wx hx =>
    (len_spec p _ cap wx ((HR.out.below h5.out.below).below hx.out.below)).mono fun e w' h => ⟨h.1, hx.out.next h.2⟩
  have KG : Hid (∀ wx, Hid (Pg w5 C (C + 1) p.wd big uns wx) → Calls Tryz.prog 58 #[.pointer (some ⟨C + 1, 0, none⟩), .int .i64 (Y : Int)] wx fun e w' => e = .returned (.tuple #[]) ∧ Hid (Pw w5 C (C + 1) p.wd big uns [] w')) := fun wx hx =>
    (hx.out.grow Y (by omega)).mono fun e w' h => ⟨h.1, h.2⟩
  have HS : Hid (∀ wx, Below w5.heap.size w5 wx → wx.heap[C]? = some (.cells (cellC p.wd big uns) 104 (0, 0)) → wx.cell? ⟨w.heap.size, 0, none⟩ = some (.int .i64 p.rate) ∧ wx.cell? ⟨w.heap.size, 1, none⟩ = some (.int .i64 p.ch) ∧ wx.cell? ⟨w.heap.size, 2, none⟩ = some (.int .i64 p.wd) ∧ wx.cell? ⟨w.heap.size, 3, none⟩ = some (.slice (some ⟨b, off, none⟩) p.pl.length cap) ∧ wx.cell? ⟨C, 1, none⟩ = some (.int .i64 (nby p.wd : Int))) := fun wx hB hcl =>
    have hbx := h5.out.next hB
    ⟨hbx.c0, hbx.c1, hbx.c2, hbx.c3, by rw [cell_of_row _ _ _ _ _ _ hcl]; rfl⟩
  have HSG : Hid (∀ wx, Hid (Pg w5 C (C + 1) p.wd big uns wx) → wx.cell? ⟨w.heap.size, 0, none⟩ = some (.int .i64 p.rate) ∧ wx.cell? ⟨w.heap.size, 1, none⟩ = some (.int .i64 p.ch) ∧ wx.cell? ⟨w.heap.size, 2, none⟩ = some (.int .i64 p.wd) ∧ wx.cell? ⟨w.heap.size, 3, none⟩ = some (.slice (some ⟨b, off, none⟩) p.pl.length cap) ∧ wx.cell? ⟨C, 1, none⟩ = some (.int .i64 (nby p.wd : Int))) := fun wx hx => HS.out wx hx.out.below hx.out.cell
  have HSW : Hid (∀ wx, Hid (Pw w5 C (C + 1) p.wd big uns [] wx) → wx.cell? ⟨w.heap.size, 0, none⟩ = some (.int .i64 p.rate) ∧ wx.cell? ⟨w.heap.size, 1, none⟩ = some (.int .i64 p.ch) ∧ wx.cell? ⟨w.heap.size, 2, none⟩ = some (.int .i64 p.wd) ∧ wx.cell? ⟨w.heap.size, 3, none⟩ = some (.slice (some ⟨b, off, none⟩) p.pl.length cap) ∧ wx.cell? ⟨C, 1, none⟩ = some (.int .i64 (nby p.wd : Int))) := fun wx hx => HS.out wx hx.out.below hx.out.cell
  have H6d : Hid (Pg w5 C (C + 1) p.wd big uns w6.drew) := H6.out.next ⟨rfl, rfl, rfl, Nat.le_refl _, fun _ _ => rfl⟩
  go_region_held3 (fun wx => wx.cell? ⟨w.heap.size, 0, none⟩ = some (.int .i64 p.rate) ∧ wx.cell? ⟨w.heap.size, 1, none⟩ = some (.int .i64 p.ch) ∧ wx.cell? ⟨w.heap.size, 2, none⟩ = some (.int .i64 p.wd) ∧ wx.cell? ⟨w.heap.size, 3, none⟩ = some (.slice (some ⟨b, off, none⟩) p.pl.length cap) ∧ wx.cell? ⟨C, 1, none⟩ = some (.int .i64 (nby p.wd : Int))) (first | exact HSG.out _ (by assumption) | exact HSW.out _ (by assumption))
    (first
      | (go_at_call 59; refine (KL.out _ (by assumption)).mono ?_; rintro e w7 ⟨rfl, h7⟩)
      | (go_at_call 58; rw [HWX.out, HYI.out, HWY.out]; refine (KG.out _ (by assumption)).mono ?_; rintro e w8 ⟨rfl, h8⟩))
  have KT : Calls Tryz.prog 60 #[.slice (some ⟨b, off, none⟩) p.pl.length cap, .func (.func 61) #[] #[.pointer (some ⟨C + 1, 0, none⟩), .pointer (some ⟨C, 0, none⟩)]] w8 fun e w' => e = .returned (.bool true) ∧ Hid (Pw w5 C (C + 1) p.wd big uns (packL p big uns (lenP p)) w') := by
    have hch := (ok_parts p HC.out).2.2.2.1
    obtain ⟨ra, rc, hT⟩ := packTurn p b off big uns w5 (HR.out.below h5.out.below) HC.out C (C + 1)
    refine (inTurn_spec b off (lenP p) p.pl.length cap ra rc 61 _ _ _ (enters_of Tryz.func61 (by kernel_rfl) rfl) hT (by omega) (by omega) (by omega) w8 ⟨Nat.zero_le _, h8.out⟩).mono ?_
    rintro e w' (⟨rfl, _, h1⟩ | ⟨_, h1⟩)
    · rw [hch, packT_full] at h1
      exact ⟨rfl, h1⟩
    · exact h1.elim
  clear KL KG HS HSG HSW H6 H6d
  have e3 := (h5.out.next h8.out.below).c3
  clear h8 h7
  go_wp2_with fail
  refine KT.mono ?_
  rintro e w9 ⟨rfl, h9⟩
  clear KT e3
  have kst := h9.out.string
  go_wp2_with fail
  refine kst.mono ?_
  rintro e wz ⟨rfl, hz⟩
  have HZ : Hid (Below w.heap.size w wz) := h5.out.below.trans (hz.mono h5.out.below.size)
  clear kst hz
  go_wp2_with fail
  go_ret2
  exact ⟨rfl, HZ.out⟩

theorem pack_spec (p : Pcm) (ao : Option Addr) (cap : Nat) (big uns : Bool) (w : World) (hr : RowsAt w ao p.pl) :
    Calls Tryz.prog 30 #[pcmV p ao cap, .agg #[.bool big, .bool uns]] w fun e w' => e = .returned (.tuple #[.string (pakN p big uns), .int .i64 (checkN p)]) ∧ Below w.heap.size w w' := by
  unfold pakN
  by_cases hc : checkN p = 0
  · rw [if_pos hc, hc]
    exact pack_yes p ao cap big uns w hr hc
  · rw [if_neg hc]
    exact pack_no p ao cap big uns w hr hc

end Go.Proofs.YtaepgjheknkojaaGreat
