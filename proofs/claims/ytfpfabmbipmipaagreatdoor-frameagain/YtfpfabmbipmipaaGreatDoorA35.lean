/- Own text. -/
import Derived.Test.YtfpfabmbipmipaaGreatDoorA34
set_option linter.unusedSimpArgs false
set_option linter.unusedVariables false
set_option maxRecDepth 20000
set_option maxHeartbeats 12800000
namespace Go.Proofs.YtfpfabmbipmipaaGreatDoor
open Go.RowKit
theorem alloc_size (w : World) (o : Obj) : (w.alloc o).heap.size = w.heap.size + 1 := by simp
structure Fill2 (w : World) (g h : Nat) (X Y : List Int) (i j : Nat) (wx : World) : Prop where
 x : Fill w g X i wx
 y : Fill w h Y j wx
 ne : g ≠ h
section
variable {w wx w' : World} {g h : Nat} {X Y : List Int} {i j : Nat}
theorem Fill2.made (w : World) (X Y : List Int) (n : Nat) (hx : X.length = n) (hy : Y.length = n) : Fill2 w w.heap.size (w.heap.size + 1) X Y 0 0 ((w.alloc (.cells (madeCells #[.int .i64 0] n) 3)).alloc (.cells (madeCells #[.int .i64 0] n) 3)) := by
 have h1 := Fill.made w w (Below.refl _ _) X
 rw [hx] at h1
 have h2 := Fill.made w (w.alloc (.cells (madeCells #[.int .i64 0] n) 3)) h1.below Y
 rw [hy, alloc_size] at h2
 exact ⟨h1.low aQ, h2, by omega⟩
theorem Fill2.swap (a : Fill2 w g h X Y i j wx) : Fill2 w h g Y X j i wx := ⟨a.y, a.x, fun e => a.ne e.symm⟩
theorem Fill2.low (a : Fill2 w g h X Y i j wx) (hb : Lo wx w') : Fill2 w g h X Y i j w' := ⟨a.x.low hb, a.y.low hb, a.ne⟩
theorem Fill2.setX (a : Fill2 w g h X Y i j wx) (hi : i < X.length) : Fill2 w g h X Y (i + 1) j (wx.setCell ⟨g, i, none⟩ (.int .i64 (X.getD i 0))) := ⟨a.x.set hi, a.y.other _ _ a.ne a.x.le, a.ne⟩
theorem Fill2.setY (a : Fill2 w g h X Y i j wx) (hj : j < Y.length) : Fill2 w g h X Y i (j + 1) (wx.setCell ⟨h, j, none⟩ (.int .i64 (Y.getD j 0))) := ⟨a.x.other _ _ (fun e => a.ne e.symm) a.y.le, a.y.set hj, a.ne⟩
end
theorem qstereo_spec (m : Int) (a b : List Int) (aa ba : OA) (ac bc : Nat) (w : World) (ha : IntsAt w aa a) (hb : IntsAt w ba b) : Calls Tryz.prog 66 #[.int .i64 m, .slice aa a.length ac, .slice ba b.length bc] w (RetF (stR m a b) w) := by
 have kt := qtwo_spec m a b 1099511627776 (by decide) (by decide) aa ba ac bc w ha hb
 have hal := ha.len
 have hbl := hb.len
 cases ht : twoB m a b 1099511627776 with
 | false =>
  have HR : Hid (stR m a b = none) := by
   show _ = _
   unfold stR
   rw [if_neg (fun h => by rw [(twoB_iff m a b 1099511627776).2 h] at ht; cases ht)]
  rw [ht] at kt
  clear ht ha hb
  go_enter Tryz.func66, Tryz.ntmps66
  go_wp2_with fail
  refine kt.mono ?_
  rintro e w2 ⟨rfl, hw2⟩
  subst hw2
  clear kt
  go_wp2_with fail
  go_ret3
  exact retF_none HR.out rfl (Below.refl _ _)
 | true =>
  have hh := (twoB_iff m a b 1099511627776).1 ht
  have HR0 : stR m a b = some (zipN (stP m.toNat) a b a.length, zipN (stQ m.toNat) a b a.length) := by unfold stR; rw [if_pos hh]
  obtain ⟨⟨m0, m3⟩, hlen, hia, hib⟩ := hh
  obtain ⟨m', rfl⟩ : ∃ m' : Nat, m = (m' : Int) := ⟨m.toNat, by omega⟩
  rw [Int.toNat_natCast] at HR0
  have hm3 : m' <= 3 := by omega
  rw [ht] at kt
  clear ht
  obtain ⟨X, hX⟩ : ∃ X, X = zipN (stP m') a b a.length := ⟨_, rfl⟩
  obtain ⟨Y, hY⟩ : ∃ Y, Y = zipN (stQ m') a b a.length := ⟨_, rfl⟩
  have HR : Hid (stR (m' : Int) a b = some (X, Y)) := by show _ = _; rw [HR0, hX, hY]
  have HXL : Hid (X.length = a.length) := by show _ = _; rw [hX, zipN_len]
  have HYL : Hid (Y.length = a.length) := by show _ = _; rw [hY, zipN_len]
  have HXR : Hid (Rng X) := by show Rng X; rw [hX]; exact zipN_num _ a b 1099511627776 (by decide) hia hib (fun p q h1 h2 => by unfold stP; split; omega; split <;> omega) _
  have HYR : Hid (Rng Y) := by show Rng Y; rw [hY]; exact zipN_num _ a b 1099511627776 (by decide) hia hib (fun p q h1 h2 => by unfold stQ; split; omega; split <;> omega) _
  have HKA0 : ∀ i, i < a.length -> ∀ wx, Calls Tryz.prog 121 #[.int .i64 (m' : Int), .int .i64 (a.getD i 0), .int .i64 (b.getD i 0)] wx fun e w' => e = .returned (.tuple #[.int .i64 (X.getD i 0), .int .i64 (Y.getD i 0)]) /\ w' = wx := fun i hi wx => by
   rw [hX, hY, zipN_at _ _ _ _ _ hi, zipN_at _ _ _ _ _ hi]
   exact qcoded_spec m' hm3 _ _ (inB_at a 1099511627776 hia (by decide) i) (inB_at b 1099511627776 hib (by decide) i) wx
  have hmk := make_ints a.length hal
  have HF1 : Hid (Fill2 w w.heap.size (w.heap.size + 1) X Y 0 0 (((w.alloc (.cells (madeCells #[.int .i64 0] a.length) 3)).alloc (.cells (madeCells #[.int .i64 0] a.length) 3)).drew)) := (Fill2.made w X Y a.length HXL.out HYL.out).low dQ
  have HF2 : Hid (Fill2 w (w.heap.size + 1) w.heap.size X Y 0 0 (((w.alloc (.cells (madeCells #[.int .i64 0] a.length) 3)).alloc (.cells (madeCells #[.int .i64 0] a.length) 3)).drew)) := (Fill2.made w Y X a.length HYL.out HXL.out).swap.low dQ
  have HKA : Hid (∀ i, i < a.length -> ∀ wx, G0 121 #[.int .i64 (m' : Int), .int .i64 (a.getD i 0), .int .i64 (b.getD i 0)] wx (.tuple #[.int .i64 (X.getD i 0), .int .i64 (Y.getD i 0)])) := HKA0
  clear HKA0
  have HIA := kQ ha
  have HIB := kQ hb
  clear hX hY HR0 ha hb hia hib m0 m3
  generalize hna : a.length = n at *
  have HNB := kQ hlen.symm
  have HNA := kQ hna
  rw [HNB.out] at kt
  rw [HNB.out]
  clear hlen hna
  go_enter Tryz.func66, Tryz.ntmps66
  go_wp2_with fail
  refine kt.mono ?_
  rintro e w2 ⟨rfl, hw2⟩
  subst hw2
  clear kt
  go_wp2_with fail
  go_region
  ·go_wp2_with fail
   generalize World.drew _ = wa at *
   have HA := kQ HF1.out
   clear HF1 HF2 hmk
   go_loopw [11, 25] (fun s11 s25 wr => ∃ i : Nat, i <= n /\ s25 = .int .i64 (i : Int) /\ Fill2 w2 (w2.heap.size) (w2.heap.size + 1) X Y i i wr) (fun _ s25 _ => n - (intOf s25).toNat)
   case atStart => exact ⟨0, Nat.zero_le _, rfl, HA.out⟩
   case round =>
    clear HA
    obtain ⟨i, hi, rfl, hf⟩ := hrel
    by_cases hlt : i < n
    ·obtain ⟨b1, o1, rfl, q1⟩ := HIA.out.at i (by rw [HNA.out]; exact hlt)
     obtain ⟨b2, o2, rfl, q2⟩ := HIB.out.at i (by rw [HNB.out]; exact hlt)
     have HQ1 : Hid (∀ wx, Lo w2 wx -> wx.cell? ⟨b1, o1 + i, none⟩ = some (.int .i64 (a.getD i 0))) := fun wx hh => q1 wx hh
     have HQ2 : Hid (∀ wx, Lo w2 wx -> wx.cell? ⟨b2, o2 + i, none⟩ = some (.int .i64 (b.getD i 0))) := fun wx hh => q2 wx hh
     have HKC := kQ (HKA.out i hlt)
     have HD : Hid (Fill2 w2 (w2.heap.size) (w2.heap.size + 1) X Y i i wr.drew) := hf.low dQ
     have HX1 : Hid (Fill2 w2 (w2.heap.size) (w2.heap.size + 1) X Y (i + 1) i (wr.drew.setCell ⟨w2.heap.size, i, none⟩ (.int .i64 (X.getD i 0)))) := HD.out.setX (by rw [HXL.out]; exact hlt)
     have HX2 : Hid (Fill2 w2 (w2.heap.size) (w2.heap.size + 1) X Y (i + 1) (i + 1) ((wr.drew.setCell ⟨w2.heap.size, i, none⟩ (.int .i64 (X.getD i 0))).setCell ⟨w2.heap.size + 1, i, none⟩ (.int .i64 (Y.getD i 0)))) := HX1.out.setY (by rw [HYL.out]; exact hlt)
     have y5 := HD.out.x.cell i (by rw [HXL.out]; exact hlt)
     have z5 := HD.out.x.frozen i
     have y6 := HX1.out.y.cell i (by rw [HYL.out]; exact hlt)
     have z6 := HX1.out.y.frozen i
     have y7 := hf.y.cell i (by rw [HYL.out]; exact hlt)
     have z7 := hf.y.frozen i
     have y8 := hf.x.cell i (by rw [HXL.out]; exact hlt)
     have z8 := hf.x.frozen i
     clear q1 q2 hf
     generalize X.getD i 0 = P at *
     generalize Y.getD i 0 = Q at *
     generalize a.getD i 0 = p at *
     generalize b.getD i 0 = q at *
     generalize (if i < i then P else 0) = v5 at *
     generalize (if i < i then Q else 0) = v6 at *
     go_wp2_with fail
     refine wp_region_held_drew (S := fun wx => Lo w2 wx) (by kernel_rfl) HD.out.x.below (fun hS => ?_)
     refine vQ 0 (.slice (some ⟨w2.heap.size, 0, none⟩) n n) hS ?_
     simp only [SL]
     refine vQ 1 (.int .i64 (i : Int)) hS ?_
     simp only [SL]
     refine vQ 2 (.slice (some ⟨w2.heap.size + 1, 0, none⟩) n n) hS ?_
     simp only [SL]
     refine vQ 3 (.int .i64 (i : Int)) hS ?_
     simp only [SL]
     refine vQ 4 (.int .i64 (m' : Int)) hS ?_
     simp only [SL]
     refine vQ 5 (.slice (some ⟨b1, o1, none⟩) n ac) hS ?_
     simp only [SL]
     refine vQ 6 (.int .i64 (i : Int)) hS ?_
     simp only [SL]
     refine vQ 7 (.pointer (some ⟨b1, o1 + i, none⟩)) hS ?_
     simp only [SL]
     refine uQ 8 (.int .i64 p) rfl hS (Or.inl ⟨by rfl, fun w hSw => by have r1 := HQ1.out w hSw; go_simp⟩) ?_
     simp only [SL]
     refine vQ 9 (.slice (some ⟨b2, o2, none⟩) n bc) hS ?_
     simp only [SL]
     refine vQ 10 (.int .i64 (i : Int)) hS ?_
     simp only [SL]
     refine vQ 11 (.pointer (some ⟨b2, o2 + i, none⟩)) hS ?_
     simp only [SL]
     refine uQ 12 (.int .i64 q) rfl hS (Or.inl ⟨by rfl, fun w hSw => by have r1 := HQ2.out w hSw; go_simp⟩) ?_
     simp only [SL]
     refine wpAnyH_ready (rs := [13]) (by kernel_rfl) (by simp) ?_
     refine AllReadyH.cons rfl (fun K hK => ?_) AllReadyH.nil
     go_simp
     refine (HKC.out _).mono ?_
     rintro e w5 ⟨rfl, hw5⟩
     subst hw5
     refine hK.out _ _ hS (fun hS5 => ?_)
     clear hK K
     try simp only [SL]
     refine vQ 14 (.tuple #[.int .i64 P, .int .i64 Q]) hS5 ?_
     simp only [SL]
     refine vQ 15 (.int .i64 P) hS5 ?_
     simp only [SL]
     refine vQ 16 (.int .i64 Q) hS5 ?_
     simp only [SL]
     refine vQ 17 (.pointer (some ⟨w2.heap.size, i, none⟩)) hS5 ?_
     simp only [SL]
     refine wpAnyH_ready (rs := [18]) (by kernel_rfl) (by simp) ?_
     refine AllReadyH.cons rfl (fun K hK => ?_) AllReadyH.nil
     go_simp
     refine hK.out _ _ HX1.out.x.below (fun hS6 => ?_)
     clear hK K
     try simp only [SL]
     refine vQ 19 (.pointer (some ⟨w2.heap.size + 1, i, none⟩)) hS6 ?_
     simp only [SL]
     refine wpAnyH_ready (rs := [20]) (by kernel_rfl) (by simp) ?_
     refine AllReadyH.cons rfl (fun K hK => ?_) AllReadyH.nil
     go_simp
     refine hK.out _ _ HX2.out.x.below (fun hS7 => ?_)
     clear hK K
     refine wpAnyH_done (by kernel_rfl) ?_ _
     go_wp2_with fail
     go_roundw
     case rel => exact ⟨i + 1, by omega, by go_num, HX2.out⟩
     case measure => simp [intOf]; omega
    ·have hin : i = n := by omega
     subst hin
     have HI : Hid (IntsAt wr (some ⟨w2.heap.size, 0, none⟩) X /\ IntsAt wr (some ⟨w2.heap.size + 1, 0, none⟩) Y /\ Lo w2 wr) := ⟨Fill.ints (by rw [HXL.out]; exact hf.x) (by rw [HXL.out]; omega) HXR.out, Fill.ints (by rw [HYL.out]; exact hf.y) (by rw [HYL.out]; omega) HYR.out, hf.x.below⟩
     clear hf
     go_wp2_with fail
     go_ret3
     exact retF_some HR.out (by rw [HXL.out, HYL.out]; rfl) HXL.out HYL.out HI.out.1 HI.out.2.1 HI.out.2.2 (by omega) (by omega)
  ·go_wp2_with fail
   generalize World.drew _ = wa at *
   have HA := kQ HF2.out
   clear HF1 HF2 hmk
   go_loopw [11, 25] (fun s11 s25 wr => ∃ i : Nat, i <= n /\ s25 = .int .i64 (i : Int) /\ Fill2 w2 (w2.heap.size + 1) (w2.heap.size) X Y i i wr) (fun _ s25 _ => n - (intOf s25).toNat)
   case atStart => exact ⟨0, Nat.zero_le _, rfl, HA.out⟩
   case round =>
    clear HA
    obtain ⟨i, hi, rfl, hf⟩ := hrel
    by_cases hlt : i < n
    ·obtain ⟨b1, o1, rfl, q1⟩ := HIA.out.at i (by rw [HNA.out]; exact hlt)
     obtain ⟨b2, o2, rfl, q2⟩ := HIB.out.at i (by rw [HNB.out]; exact hlt)
     have HQ1 : Hid (∀ wx, Lo w2 wx -> wx.cell? ⟨b1, o1 + i, none⟩ = some (.int .i64 (a.getD i 0))) := fun wx hh => q1 wx hh
     have HQ2 : Hid (∀ wx, Lo w2 wx -> wx.cell? ⟨b2, o2 + i, none⟩ = some (.int .i64 (b.getD i 0))) := fun wx hh => q2 wx hh
     have HKC := kQ (HKA.out i hlt)
     have HD : Hid (Fill2 w2 (w2.heap.size + 1) (w2.heap.size) X Y i i wr.drew) := hf.low dQ
     have HX1 : Hid (Fill2 w2 (w2.heap.size + 1) (w2.heap.size) X Y (i + 1) i (wr.drew.setCell ⟨w2.heap.size + 1, i, none⟩ (.int .i64 (X.getD i 0)))) := HD.out.setX (by rw [HXL.out]; exact hlt)
     have HX2 : Hid (Fill2 w2 (w2.heap.size + 1) (w2.heap.size) X Y (i + 1) (i + 1) ((wr.drew.setCell ⟨w2.heap.size + 1, i, none⟩ (.int .i64 (X.getD i 0))).setCell ⟨w2.heap.size, i, none⟩ (.int .i64 (Y.getD i 0)))) := HX1.out.setY (by rw [HYL.out]; exact hlt)
     have y5 := HD.out.x.cell i (by rw [HXL.out]; exact hlt)
     have z5 := HD.out.x.frozen i
     have y6 := HX1.out.y.cell i (by rw [HYL.out]; exact hlt)
     have z6 := HX1.out.y.frozen i
     have y7 := hf.y.cell i (by rw [HYL.out]; exact hlt)
     have z7 := hf.y.frozen i
     have y8 := hf.x.cell i (by rw [HXL.out]; exact hlt)
     have z8 := hf.x.frozen i
     clear q1 q2 hf
     generalize X.getD i 0 = P at *
     generalize Y.getD i 0 = Q at *
     generalize a.getD i 0 = p at *
     generalize b.getD i 0 = q at *
     generalize (if i < i then P else 0) = v5 at *
     generalize (if i < i then Q else 0) = v6 at *
     go_wp2_with fail
     refine wp_region_held_drew (S := fun wx => Lo w2 wx) (by kernel_rfl) HD.out.x.below (fun hS => ?_)
     refine vQ 0 (.slice (some ⟨w2.heap.size + 1, 0, none⟩) n n) hS ?_
     simp only [SL]
     refine vQ 1 (.int .i64 (i : Int)) hS ?_
     simp only [SL]
     refine vQ 2 (.slice (some ⟨w2.heap.size, 0, none⟩) n n) hS ?_
     simp only [SL]
     refine vQ 3 (.int .i64 (i : Int)) hS ?_
     simp only [SL]
     refine vQ 4 (.int .i64 (m' : Int)) hS ?_
     simp only [SL]
     refine vQ 5 (.slice (some ⟨b1, o1, none⟩) n ac) hS ?_
     simp only [SL]
     refine vQ 6 (.int .i64 (i : Int)) hS ?_
     simp only [SL]
     refine vQ 7 (.pointer (some ⟨b1, o1 + i, none⟩)) hS ?_
     simp only [SL]
     refine uQ 8 (.int .i64 p) rfl hS (Or.inl ⟨by rfl, fun w hSw => by have r1 := HQ1.out w hSw; go_simp⟩) ?_
     simp only [SL]
     refine vQ 9 (.slice (some ⟨b2, o2, none⟩) n bc) hS ?_
     simp only [SL]
     refine vQ 10 (.int .i64 (i : Int)) hS ?_
     simp only [SL]
     refine vQ 11 (.pointer (some ⟨b2, o2 + i, none⟩)) hS ?_
     simp only [SL]
     refine uQ 12 (.int .i64 q) rfl hS (Or.inl ⟨by rfl, fun w hSw => by have r1 := HQ2.out w hSw; go_simp⟩) ?_
     simp only [SL]
     refine wpAnyH_ready (rs := [13]) (by kernel_rfl) (by simp) ?_
     refine AllReadyH.cons rfl (fun K hK => ?_) AllReadyH.nil
     go_simp
     refine (HKC.out _).mono ?_
     rintro e w5 ⟨rfl, hw5⟩
     subst hw5
     refine hK.out _ _ hS (fun hS5 => ?_)
     clear hK K
     try simp only [SL]
     refine vQ 14 (.tuple #[.int .i64 P, .int .i64 Q]) hS5 ?_
     simp only [SL]
     refine vQ 15 (.int .i64 P) hS5 ?_
     simp only [SL]
     refine vQ 16 (.int .i64 Q) hS5 ?_
     simp only [SL]
     refine vQ 17 (.pointer (some ⟨w2.heap.size + 1, i, none⟩)) hS5 ?_
     simp only [SL]
     refine wpAnyH_ready (rs := [18]) (by kernel_rfl) (by simp) ?_
     refine AllReadyH.cons rfl (fun K hK => ?_) AllReadyH.nil
     go_simp
     refine hK.out _ _ HX1.out.x.below (fun hS6 => ?_)
     clear hK K
     try simp only [SL]
     refine vQ 19 (.pointer (some ⟨w2.heap.size, i, none⟩)) hS6 ?_
     simp only [SL]
     refine wpAnyH_ready (rs := [20]) (by kernel_rfl) (by simp) ?_
     refine AllReadyH.cons rfl (fun K hK => ?_) AllReadyH.nil
     go_simp
     refine hK.out _ _ HX2.out.x.below (fun hS7 => ?_)
     clear hK K
     refine wpAnyH_done (by kernel_rfl) ?_ _
     go_wp2_with fail
     go_roundw
     case rel => exact ⟨i + 1, by omega, by go_num, HX2.out⟩
     case measure => simp [intOf]; omega
    ·have hin : i = n := by omega
     subst hin
     have HI : Hid (IntsAt wr (some ⟨w2.heap.size + 1, 0, none⟩) X /\ IntsAt wr (some ⟨w2.heap.size, 0, none⟩) Y /\ Lo w2 wr) := ⟨Fill.ints (by rw [HXL.out]; exact hf.x) (by rw [HXL.out]; omega) HXR.out, Fill.ints (by rw [HYL.out]; exact hf.y) (by rw [HYL.out]; omega) HYR.out, hf.x.below⟩
     clear hf
     go_wp2_with fail
     go_ret3
     exact retF_some HR.out (by rw [HXL.out, HYL.out]; rfl) HXL.out HYL.out HI.out.1 HI.out.2.1 HI.out.2.2 (by omega) (by omega)
theorem qunstereo_spec (m : Int) (a b : List Int) (aa ba : OA) (ac bc : Nat) (w : World) (ha : IntsAt w aa a) (hb : IntsAt w ba b) : Calls Tryz.prog 103 #[.int .i64 m, .slice aa a.length ac, .slice ba b.length bc] w (RetF (ustR m a b) w) := by
 have kt := qtwo_spec m a b 4398046511104 (by decide) (by decide) aa ba ac bc w ha hb
 have hal := ha.len
 have hbl := hb.len
 cases ht : twoB m a b 4398046511104 with
 | false =>
  have HR : Hid (ustR m a b = none) := by
   show _ = _
   unfold ustR
   rw [if_neg (fun h => by rw [(twoB_iff m a b 4398046511104).2 h] at ht; cases ht)]
  rw [ht] at kt
  clear ht ha hb
  go_enter Tryz.func103, Tryz.ntmps103
  go_wp2_with fail
  refine kt.mono ?_
  rintro e w2 ⟨rfl, hw2⟩
  subst hw2
  clear kt
  go_wp2_with fail
  go_ret3
  exact retF_none HR.out rfl (Below.refl _ _)
 | true =>
  have hh := (twoB_iff m a b 4398046511104).1 ht
  have HR0 : ustR m a b = some (zipN (unP m.toNat) a b a.length, zipN (unQ m.toNat) a b a.length) := by unfold ustR; rw [if_pos hh]
  obtain ⟨⟨m0, m3⟩, hlen, hia, hib⟩ := hh
  obtain ⟨m', rfl⟩ : ∃ m' : Nat, m = (m' : Int) := ⟨m.toNat, by omega⟩
  rw [Int.toNat_natCast] at HR0
  have hm3 : m' <= 3 := by omega
  rw [ht] at kt
  clear ht
  obtain ⟨X, hX⟩ : ∃ X, X = zipN (unP m') a b a.length := ⟨_, rfl⟩
  obtain ⟨Y, hY⟩ : ∃ Y, Y = zipN (unQ m') a b a.length := ⟨_, rfl⟩
  have HR : Hid (ustR (m' : Int) a b = some (X, Y)) := by show _ = _; rw [HR0, hX, hY]
  have HXL : Hid (X.length = a.length) := by show _ = _; rw [hX, zipN_len]
  have HYL : Hid (Y.length = a.length) := by show _ = _; rw [hY, zipN_len]
  have HXR : Hid (Rng X) := by show Rng X; rw [hX]; exact zipN_num _ a b 4398046511104 (by decide) hia hib (fun p q h1 h2 => by unfold unP; split; omega; split <;> omega) _
  have HYR : Hid (Rng Y) := by show Rng Y; rw [hY]; exact zipN_num _ a b 4398046511104 (by decide) hia hib (fun p q h1 h2 => by unfold unQ; split; omega; split <;> omega) _
  have HKA0 : ∀ i, i < a.length -> ∀ wx, Calls Tryz.prog 143 #[.int .i64 (m' : Int), .int .i64 (a.getD i 0), .int .i64 (b.getD i 0)] wx fun e w' => e = .returned (.tuple #[.int .i64 (X.getD i 0), .int .i64 (Y.getD i 0)]) /\ w' = wx := fun i hi wx => by
   rw [hX, hY, zipN_at _ _ _ _ _ hi, zipN_at _ _ _ _ _ hi]
   exact quncoded_spec m' hm3 _ _ (inB_at a 4398046511104 hia (by decide) i) (inB_at b 4398046511104 hib (by decide) i) wx
  have hmk := make_ints a.length hal
  have HF1 : Hid (Fill2 w w.heap.size (w.heap.size + 1) X Y 0 0 (((w.alloc (.cells (madeCells #[.int .i64 0] a.length) 3)).alloc (.cells (madeCells #[.int .i64 0] a.length) 3)).drew)) := (Fill2.made w X Y a.length HXL.out HYL.out).low dQ
  have HF2 : Hid (Fill2 w (w.heap.size + 1) w.heap.size X Y 0 0 (((w.alloc (.cells (madeCells #[.int .i64 0] a.length) 3)).alloc (.cells (madeCells #[.int .i64 0] a.length) 3)).drew)) := (Fill2.made w Y X a.length HYL.out HXL.out).swap.low dQ
  have HKA : Hid (∀ i, i < a.length -> ∀ wx, G0 143 #[.int .i64 (m' : Int), .int .i64 (a.getD i 0), .int .i64 (b.getD i 0)] wx (.tuple #[.int .i64 (X.getD i 0), .int .i64 (Y.getD i 0)])) := HKA0
  clear HKA0
  have HIA := kQ ha
  have HIB := kQ hb
  clear hX hY HR0 ha hb hia hib m0 m3
  generalize hna : a.length = n at *
  have HNB := kQ hlen.symm
  have HNA := kQ hna
  rw [HNB.out] at kt
  rw [HNB.out]
  clear hlen hna
  go_enter Tryz.func103, Tryz.ntmps103
  go_wp2_with fail
  refine kt.mono ?_
  rintro e w2 ⟨rfl, hw2⟩
  subst hw2
  clear kt
  go_wp2_with fail
  go_region
  ·go_wp2_with fail
   generalize World.drew _ = wa at *
   have HA := kQ HF1.out
   clear HF1 HF2 hmk
   go_loopw [11, 25] (fun s11 s25 wr => ∃ i : Nat, i <= n /\ s25 = .int .i64 (i : Int) /\ Fill2 w2 (w2.heap.size) (w2.heap.size + 1) X Y i i wr) (fun _ s25 _ => n - (intOf s25).toNat)
   case atStart => exact ⟨0, Nat.zero_le _, rfl, HA.out⟩
   case round =>
    clear HA
    obtain ⟨i, hi, rfl, hf⟩ := hrel
    by_cases hlt : i < n
    ·obtain ⟨b1, o1, rfl, q1⟩ := HIA.out.at i (by rw [HNA.out]; exact hlt)
     obtain ⟨b2, o2, rfl, q2⟩ := HIB.out.at i (by rw [HNB.out]; exact hlt)
     have HQ1 : Hid (∀ wx, Lo w2 wx -> wx.cell? ⟨b1, o1 + i, none⟩ = some (.int .i64 (a.getD i 0))) := fun wx hh => q1 wx hh
     have HQ2 : Hid (∀ wx, Lo w2 wx -> wx.cell? ⟨b2, o2 + i, none⟩ = some (.int .i64 (b.getD i 0))) := fun wx hh => q2 wx hh
     have HKC := kQ (HKA.out i hlt)
     have HD : Hid (Fill2 w2 (w2.heap.size) (w2.heap.size + 1) X Y i i wr.drew) := hf.low dQ
     have HX1 : Hid (Fill2 w2 (w2.heap.size) (w2.heap.size + 1) X Y (i + 1) i (wr.drew.setCell ⟨w2.heap.size, i, none⟩ (.int .i64 (X.getD i 0)))) := HD.out.setX (by rw [HXL.out]; exact hlt)
     have HX2 : Hid (Fill2 w2 (w2.heap.size) (w2.heap.size + 1) X Y (i + 1) (i + 1) ((wr.drew.setCell ⟨w2.heap.size, i, none⟩ (.int .i64 (X.getD i 0))).setCell ⟨w2.heap.size + 1, i, none⟩ (.int .i64 (Y.getD i 0)))) := HX1.out.setY (by rw [HYL.out]; exact hlt)
     have y5 := HD.out.x.cell i (by rw [HXL.out]; exact hlt)
     have z5 := HD.out.x.frozen i
     have y6 := HX1.out.y.cell i (by rw [HYL.out]; exact hlt)
     have z6 := HX1.out.y.frozen i
     have y7 := hf.y.cell i (by rw [HYL.out]; exact hlt)
     have z7 := hf.y.frozen i
     have y8 := hf.x.cell i (by rw [HXL.out]; exact hlt)
     have z8 := hf.x.frozen i
     clear q1 q2 hf
     generalize X.getD i 0 = P at *
     generalize Y.getD i 0 = Q at *
     generalize a.getD i 0 = p at *
     generalize b.getD i 0 = q at *
     generalize (if i < i then P else 0) = v5 at *
     generalize (if i < i then Q else 0) = v6 at *
     go_wp2_with fail
     refine wp_region_held_drew (S := fun wx => Lo w2 wx) (by kernel_rfl) HD.out.x.below (fun hS => ?_)
     refine vQ 0 (.slice (some ⟨w2.heap.size, 0, none⟩) n n) hS ?_
     simp only [SL]
     refine vQ 1 (.int .i64 (i : Int)) hS ?_
     simp only [SL]
     refine vQ 2 (.slice (some ⟨w2.heap.size + 1, 0, none⟩) n n) hS ?_
     simp only [SL]
     refine vQ 3 (.int .i64 (i : Int)) hS ?_
     simp only [SL]
     refine vQ 4 (.int .i64 (m' : Int)) hS ?_
     simp only [SL]
     refine vQ 5 (.slice (some ⟨b1, o1, none⟩) n ac) hS ?_
     simp only [SL]
     refine vQ 6 (.int .i64 (i : Int)) hS ?_
     simp only [SL]
     refine vQ 7 (.pointer (some ⟨b1, o1 + i, none⟩)) hS ?_
     simp only [SL]
     refine uQ 8 (.int .i64 p) rfl hS (Or.inl ⟨by rfl, fun w hSw => by have r1 := HQ1.out w hSw; go_simp⟩) ?_
     simp only [SL]
     refine vQ 9 (.slice (some ⟨b2, o2, none⟩) n bc) hS ?_
     simp only [SL]
     refine vQ 10 (.int .i64 (i : Int)) hS ?_
     simp only [SL]
     refine vQ 11 (.pointer (some ⟨b2, o2 + i, none⟩)) hS ?_
     simp only [SL]
     refine uQ 12 (.int .i64 q) rfl hS (Or.inl ⟨by rfl, fun w hSw => by have r1 := HQ2.out w hSw; go_simp⟩) ?_
     simp only [SL]
     refine wpAnyH_ready (rs := [13]) (by kernel_rfl) (by simp) ?_
     refine AllReadyH.cons rfl (fun K hK => ?_) AllReadyH.nil
     go_simp
     refine (HKC.out _).mono ?_
     rintro e w5 ⟨rfl, hw5⟩
     subst hw5
     refine hK.out _ _ hS (fun hS5 => ?_)
     clear hK K
     try simp only [SL]
     refine vQ 14 (.tuple #[.int .i64 P, .int .i64 Q]) hS5 ?_
     simp only [SL]
     refine vQ 15 (.int .i64 P) hS5 ?_
     simp only [SL]
     refine vQ 16 (.int .i64 Q) hS5 ?_
     simp only [SL]
     refine vQ 17 (.pointer (some ⟨w2.heap.size, i, none⟩)) hS5 ?_
     simp only [SL]
     refine wpAnyH_ready (rs := [18]) (by kernel_rfl) (by simp) ?_
     refine AllReadyH.cons rfl (fun K hK => ?_) AllReadyH.nil
     go_simp
     refine hK.out _ _ HX1.out.x.below (fun hS6 => ?_)
     clear hK K
     try simp only [SL]
     refine vQ 19 (.pointer (some ⟨w2.heap.size + 1, i, none⟩)) hS6 ?_
     simp only [SL]
     refine wpAnyH_ready (rs := [20]) (by kernel_rfl) (by simp) ?_
     refine AllReadyH.cons rfl (fun K hK => ?_) AllReadyH.nil
     go_simp
     refine hK.out _ _ HX2.out.x.below (fun hS7 => ?_)
     clear hK K
     refine wpAnyH_done (by kernel_rfl) ?_ _
     go_wp2_with fail
     go_roundw
     case rel => exact ⟨i + 1, by omega, by go_num, HX2.out⟩
     case measure => simp [intOf]; omega
    ·have hin : i = n := by omega
     subst hin
     have HI : Hid (IntsAt wr (some ⟨w2.heap.size, 0, none⟩) X /\ IntsAt wr (some ⟨w2.heap.size + 1, 0, none⟩) Y /\ Lo w2 wr) := ⟨Fill.ints (by rw [HXL.out]; exact hf.x) (by rw [HXL.out]; omega) HXR.out, Fill.ints (by rw [HYL.out]; exact hf.y) (by rw [HYL.out]; omega) HYR.out, hf.x.below⟩
     clear hf
     go_wp2_with fail
     go_ret3
     exact retF_some HR.out (by rw [HXL.out, HYL.out]; rfl) HXL.out HYL.out HI.out.1 HI.out.2.1 HI.out.2.2 (by omega) (by omega)
  ·go_wp2_with fail
   generalize World.drew _ = wa at *
   have HA := kQ HF2.out
   clear HF1 HF2 hmk
   go_loopw [11, 25] (fun s11 s25 wr => ∃ i : Nat, i <= n /\ s25 = .int .i64 (i : Int) /\ Fill2 w2 (w2.heap.size + 1) (w2.heap.size) X Y i i wr) (fun _ s25 _ => n - (intOf s25).toNat)
   case atStart => exact ⟨0, Nat.zero_le _, rfl, HA.out⟩
   case round =>
    clear HA
    obtain ⟨i, hi, rfl, hf⟩ := hrel
    by_cases hlt : i < n
    ·obtain ⟨b1, o1, rfl, q1⟩ := HIA.out.at i (by rw [HNA.out]; exact hlt)
     obtain ⟨b2, o2, rfl, q2⟩ := HIB.out.at i (by rw [HNB.out]; exact hlt)
     have HQ1 : Hid (∀ wx, Lo w2 wx -> wx.cell? ⟨b1, o1 + i, none⟩ = some (.int .i64 (a.getD i 0))) := fun wx hh => q1 wx hh
     have HQ2 : Hid (∀ wx, Lo w2 wx -> wx.cell? ⟨b2, o2 + i, none⟩ = some (.int .i64 (b.getD i 0))) := fun wx hh => q2 wx hh
     have HKC := kQ (HKA.out i hlt)
     have HD : Hid (Fill2 w2 (w2.heap.size + 1) (w2.heap.size) X Y i i wr.drew) := hf.low dQ
     have HX1 : Hid (Fill2 w2 (w2.heap.size + 1) (w2.heap.size) X Y (i + 1) i (wr.drew.setCell ⟨w2.heap.size + 1, i, none⟩ (.int .i64 (X.getD i 0)))) := HD.out.setX (by rw [HXL.out]; exact hlt)
     have HX2 : Hid (Fill2 w2 (w2.heap.size + 1) (w2.heap.size) X Y (i + 1) (i + 1) ((wr.drew.setCell ⟨w2.heap.size + 1, i, none⟩ (.int .i64 (X.getD i 0))).setCell ⟨w2.heap.size, i, none⟩ (.int .i64 (Y.getD i 0)))) := HX1.out.setY (by rw [HYL.out]; exact hlt)
     have y5 := HD.out.x.cell i (by rw [HXL.out]; exact hlt)
     have z5 := HD.out.x.frozen i
     have y6 := HX1.out.y.cell i (by rw [HYL.out]; exact hlt)
     have z6 := HX1.out.y.frozen i
     have y7 := hf.y.cell i (by rw [HYL.out]; exact hlt)
     have z7 := hf.y.frozen i
     have y8 := hf.x.cell i (by rw [HXL.out]; exact hlt)
     have z8 := hf.x.frozen i
     clear q1 q2 hf
     generalize X.getD i 0 = P at *
     generalize Y.getD i 0 = Q at *
     generalize a.getD i 0 = p at *
     generalize b.getD i 0 = q at *
     generalize (if i < i then P else 0) = v5 at *
     generalize (if i < i then Q else 0) = v6 at *
     go_wp2_with fail
     refine wp_region_held_drew (S := fun wx => Lo w2 wx) (by kernel_rfl) HD.out.x.below (fun hS => ?_)
     refine vQ 0 (.slice (some ⟨w2.heap.size + 1, 0, none⟩) n n) hS ?_
     simp only [SL]
     refine vQ 1 (.int .i64 (i : Int)) hS ?_
     simp only [SL]
     refine vQ 2 (.slice (some ⟨w2.heap.size, 0, none⟩) n n) hS ?_
     simp only [SL]
     refine vQ 3 (.int .i64 (i : Int)) hS ?_
     simp only [SL]
     refine vQ 4 (.int .i64 (m' : Int)) hS ?_
     simp only [SL]
     refine vQ 5 (.slice (some ⟨b1, o1, none⟩) n ac) hS ?_
     simp only [SL]
     refine vQ 6 (.int .i64 (i : Int)) hS ?_
     simp only [SL]
     refine vQ 7 (.pointer (some ⟨b1, o1 + i, none⟩)) hS ?_
     simp only [SL]
     refine uQ 8 (.int .i64 p) rfl hS (Or.inl ⟨by rfl, fun w hSw => by have r1 := HQ1.out w hSw; go_simp⟩) ?_
     simp only [SL]
     refine vQ 9 (.slice (some ⟨b2, o2, none⟩) n bc) hS ?_
     simp only [SL]
     refine vQ 10 (.int .i64 (i : Int)) hS ?_
     simp only [SL]
     refine vQ 11 (.pointer (some ⟨b2, o2 + i, none⟩)) hS ?_
     simp only [SL]
     refine uQ 12 (.int .i64 q) rfl hS (Or.inl ⟨by rfl, fun w hSw => by have r1 := HQ2.out w hSw; go_simp⟩) ?_
     simp only [SL]
     refine wpAnyH_ready (rs := [13]) (by kernel_rfl) (by simp) ?_
     refine AllReadyH.cons rfl (fun K hK => ?_) AllReadyH.nil
     go_simp
     refine (HKC.out _).mono ?_
     rintro e w5 ⟨rfl, hw5⟩
     subst hw5
     refine hK.out _ _ hS (fun hS5 => ?_)
     clear hK K
     try simp only [SL]
     refine vQ 14 (.tuple #[.int .i64 P, .int .i64 Q]) hS5 ?_
     simp only [SL]
     refine vQ 15 (.int .i64 P) hS5 ?_
     simp only [SL]
     refine vQ 16 (.int .i64 Q) hS5 ?_
     simp only [SL]
     refine vQ 17 (.pointer (some ⟨w2.heap.size + 1, i, none⟩)) hS5 ?_
     simp only [SL]
     refine wpAnyH_ready (rs := [18]) (by kernel_rfl) (by simp) ?_
     refine AllReadyH.cons rfl (fun K hK => ?_) AllReadyH.nil
     go_simp
     refine hK.out _ _ HX1.out.x.below (fun hS6 => ?_)
     clear hK K
     try simp only [SL]
     refine vQ 19 (.pointer (some ⟨w2.heap.size, i, none⟩)) hS6 ?_
     simp only [SL]
     refine wpAnyH_ready (rs := [20]) (by kernel_rfl) (by simp) ?_
     refine AllReadyH.cons rfl (fun K hK => ?_) AllReadyH.nil
     go_simp
     refine hK.out _ _ HX2.out.x.below (fun hS7 => ?_)
     clear hK K
     refine wpAnyH_done (by kernel_rfl) ?_ _
     go_wp2_with fail
     go_roundw
     case rel => exact ⟨i + 1, by omega, by go_num, HX2.out⟩
     case measure => simp [intOf]; omega
    ·have hin : i = n := by omega
     subst hin
     have HI : Hid (IntsAt wr (some ⟨w2.heap.size + 1, 0, none⟩) X /\ IntsAt wr (some ⟨w2.heap.size, 0, none⟩) Y /\ Lo w2 wr) := ⟨Fill.ints (by rw [HXL.out]; exact hf.x) (by rw [HXL.out]; omega) HXR.out, Fill.ints (by rw [HYL.out]; exact hf.y) (by rw [HYL.out]; omega) HYR.out, hf.x.below⟩
     clear hf
     go_wp2_with fail
     go_ret3
     exact retF_some HR.out (by rw [HXL.out, HYL.out]; rfl) HXL.out HYL.out HI.out.1 HI.out.2.1 HI.out.2.2 (by omega) (by omega)
theorem RowsAt.at {w : World} {ao : OA} {xs : List (List Int)} (h : RowsAt w ao xs) (i : Nat) (hi : i < xs.length) : ∃ b off, ao = some ⟨b, off, none⟩ /\ ∃ a c, (∀ wx, Lo w wx -> wx.cell? ⟨b, off + i, none⟩ = some (.slice a (xs.getD i []).length c)) /\ (xs.getD i []).length <= c /\ (a = none -> c = 0) /\ IntsAt w a (xs.getD i []) := by
 obtain ⟨b, off, e, hc⟩ := h.lies (by omega)
 obtain ⟨a, c, h1, h2, h3, h4⟩ := hc i hi
 exact ⟨b, off, e, a, c, fun wx hb => by rw [World.cell?_of_block (w := w) (hb.block _ (lt_cell h1))]; exact h1, h2, h3, h4⟩
theorem all_of_getD {P : List (List Int)} {Q : List Int -> Prop} (h : ∀ j, j < P.length -> Q (P.getD j [])) : ∀ l ∈ P, Q l := fun l hl => by
 obtain ⟨j, hj, rfl⟩ := mem_getD' P l hl
 exact h j hj
theorem f_long (P : List (List Int)) (po : OA) (pk : Nat) (size : Int) (bb : Bool) (hbb : bb = true ↔ ∀ l ∈ P, (l.length : Int) = size) (w : World) (hp : RowsAt w po P) : Calls Tryz.prog 17 #[.slice po P.length pk, .int .i64 size] w fun en w' => en = .returned (.bool bb) /\ w' = w := by
 have hlen := hp.len
 have HP := kQ hp
 have HBB := kQ hbb
 clear hp hbb
 go_enter Tryz.func17, Tryz.ntmps17
 go_wp2_with fail
 go_loopw [6, 9] (fun s6 s9 wr => ∃ n : Nat, n <= P.length /\ s9 = .int .i64 (n : Int) /\ (∀ j, j < n -> ((P.getD j []).length : Int) = size) /\ wr = w) (fun _ s9 _ => P.length - (intOf s9).toNat)
 case atStart => exact ⟨0, Nat.zero_le _, rfl, fun j hj => absurd hj (Nat.not_lt_zero _), rfl⟩
 case round =>
  obtain ⟨n, hn, rfl, hok, rfl⟩ := hrel
  have HOK := kQ hok
  clear hok
  by_cases hlt : n < P.length
  ·obtain ⟨b, off, rfl, la, lc, q1, q2, q3, q4⟩ := HP.out.at n hlt
   have r1 := q1 wr (Below.refl _ _)
   have hl5 := q4.len
   have HE : Hid (∀ j, j = n -> (P.getD j []).length = (P.getD n []).length) := fun j hj => by rw [hj]
   have HM : Hid (P.getD n [] ∈ P) := getD_mem' P n hlt
   clear q1 q2 q3 q4
   generalize P.getD n [] = l at *
   by_cases hs : (l.length : Int) = size
   ·have hbe : ((l.length : Int) != size) = false := by rw [bne_eq_false_iff_eq]; exact hs
    have HS := kQ hs
    clear hs HM
    go_wp2_with fail
    go_roundw
    case rel =>
     refine ⟨n + 1, by omega, by go_num, fun j hj => ?_, trivial⟩
     by_cases ej : j = n
     ·rw [HE.out j ej]; exact HS.out
     ·exact HOK.out j (by omega)
    case measure => simp [intOf]; omega
   ·have hbe : ((l.length : Int) != size) = true := by rw [bne_iff_ne]; exact hs
    have HF : Hid (bb = false) := bb_no HBB.out (fun h => hs (h l HM.out))
    clear hs HM HE
    go_wp2_with fail
    go_ret
    exact ⟨by rw [HF.out]; rfl, rfl⟩
  ·have HF : Hid (bb = true) := bb_yes HBB.out (all_of_getD (fun j hj => HOK.out j (by omega)))
   go_wp2_with fail
   go_ret
   exact ⟨by rw [HF.out]; rfl, rfl⟩
theorem f_within (P : List (List Int)) (po : OA) (pk : Nat) (k : Nat) (hk : k <= 63) (bb : Bool) (hbb : bb = true ↔ ∀ l ∈ P, ∀ x ∈ l, sigE x ((k : Int) + 1) = 0) (w : World) (hp : RowsAt w po P) : Calls Tryz.prog 18 #[.slice po P.length pk, .int .i64 ((k : Int) + 1)] w fun en w' => en = .returned (.bool bb) /\ w' = w := by
 have hlen := hp.len
 have HP := kQ hp
 have HBB := kQ hbb
 clear hp hbb
 go_enter Tryz.func18, Tryz.ntmps18
 go_wp2_with fail
 go_loopw [6, 8, 9, 12] (fun s6 s8 s9 s12 wr => ∃ n : Nat, n <= P.length /\ s12 = .int .i64 (n : Int) /\ (∀ j, j < n -> ∀ x ∈ P.getD j [], sigE x ((k : Int) + 1) = 0) /\ wr = w) (fun _ _ _ s12 _ => P.length - (intOf s12).toNat)
 case atStart => exact ⟨0, Nat.zero_le _, rfl, fun j hj => absurd hj (Nat.not_lt_zero _), rfl⟩
 case round =>
  obtain ⟨n, hn, rfl, hok, rfl⟩ := hrel
  have HOK := kQ hok
  clear hok
  by_cases hlt : n < P.length
  ·obtain ⟨b, off, rfl, la, lc, q1, q2, q3, q4⟩ := HP.out.at n hlt
   have r1 := q1 wr (Below.refl _ _)
   have hl5 := q4.len
   have HE : Hid (∀ j, j = n -> P.getD j [] = P.getD n []) := fun j hj => by rw [hj]
   have HM : Hid (P.getD n [] ∈ P) := getD_mem' P n hlt
   have HL := kQ q4
   clear q1 q2 q3 q4
   generalize P.getD n [] = l at *
   go_wp2_with fail
   clear r1
   go_loopw [8, 9, 18] (fun s8 s9 t wr2 => ∃ m : Nat, m <= l.length /\ t = .int .i64 (m : Int) /\ (∀ j, j < m -> sigE (l.getD j 0) ((k : Int) + 1) = 0) /\ wr2 = wr) (fun _ _ t _ => l.length - (intOf t).toNat)
   case atStart => exact ⟨0, Nat.zero_le _, rfl, fun j hj => absurd hj (Nat.not_lt_zero _), rfl⟩
   case round =>
    obtain ⟨m, hm, rfl, hs, rfl⟩ := hrel
    have HS := kQ hs
    clear hs
    by_cases hlt2 : m < l.length
    focus
     obtain ⟨b1, o1, rfl, q1⟩ := HL.out.at m hlt2
     have r1 := q1 _ (Below.refl _ _)
     have hsg := sigE_sign (l.getD m 0) k hk
     have hrg := HL.out.rng m
     have HMM : Hid (l.getD m 0 ∈ l) := by
      show _ ∈ _
      rw [List.getD_eq_getElem?_getD, List.getElem?_eq_getElem hlt2]; exact List.getElem_mem hlt2
     have hdr : -9223372036854775808 <= l.getD m 0 / 2 ^ k /\ l.getD m 0 / 2 ^ k <= 9223372036854775807 := div_rng _ k hrg
     have HSG := kQ hsg
     have HE2 : Hid (∀ j, j = m -> l.getD j 0 = l.getD m 0) := fun j hj => by rw [hj]
     clear q1 hsg
     generalize l.getD m 0 = x at *
     by_cases c0 : x / 2 ^ k = 0
     focus
      have hb0 : (x / 2 ^ k != 0) = false := by rw [bne_eq_false_iff_eq]; exact c0
      have HX := kQ (HSG.out.2 (.inl c0))
      clear HSG c0 HMM
     rotate_left
     focus
      by_cases c1 : x / 2 ^ k = -1
      focus
       have hb0 : (x / 2 ^ k != 0) = true := by rw [bne_iff_ne]; exact c0
       have hb1 : (x / 2 ^ k != -1) = false := by rw [bne_eq_false_iff_eq]; exact c1
       have HX := kQ (HSG.out.2 (.inr c1))
       clear HSG c0 c1 HMM
      rotate_left
      ·have hb0 : (x / 2 ^ k != 0) = true := by rw [bne_iff_ne]; exact c0
       have hb1 : (x / 2 ^ k != -1) = true := by rw [bne_iff_ne]; exact c1
       have HF : Hid (bb = false) := bb_no HBB.out (fun h => by
        have := HSG.out.1 (h l HM.out x HMM.out)
        omega)
       clear HSG c0 c1 HMM
       go_wp2_with fail
       go_ret
       exact ⟨by rw [HF.out]; rfl, rfl⟩
     rotate_left
    rotate_left 2
    ·have HALL : Hid (∀ x ∈ l, sigE x ((k : Int) + 1) = 0) := fun x hx => by
      obtain ⟨j, hj, rfl⟩ := List.mem_iff_getElem.1 hx
      have := HS.out j (by omega)
      rw [List.getD_eq_getElem?_getD, List.getElem?_eq_getElem hj] at this
      exact this
     clear HS
     go_wp2_with fail
     go_roundw
     case rel =>
      refine ⟨n + 1, by omega, by go_num, fun j hj => ?_, trivial⟩
      by_cases ej : j = n
      ·rw [HE.out j ej]; exact HALL.out
      ·exact HOK.out j (by omega)
     case measure => simp [intOf]; omega
    all_goals
     go_wp2_with fail
     go_roundw
     case rel =>
      refine ⟨m + 1, by omega, by go_num, fun j hj => ?_, trivial⟩
      by_cases ej : j = m
      ·rw [HE2.out j ej]; exact HX.out
      ·exact HS.out j (by omega)
     case measure => simp [intOf]; omega
  ·have HF : Hid (bb = true) := bb_yes HBB.out (all_of_getD (Q := fun l => ∀ x ∈ l, sigE x ((k : Int) + 1) = 0) (fun j hj => HOK.out j (by omega)))
   go_wp2_with fail
   go_ret
   exact ⟨by rw [HF.out]; rfl, rfl⟩
end Go.Proofs.YtfpfabmbipmipaaGreatDoor
