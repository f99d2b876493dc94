/- Own text. -/
import Derived.Test.YtfpfabmbipmipaaGreatDoorD31
set_option linter.unusedSimpArgs false
set_option linter.unusedVariables false
set_option maxRecDepth 20000
set_option maxHeartbeats 12800000
namespace Go.Proofs.YtfpfabmbipmipaaGreatDoor
open Go.RowKit
theorem alloc_size (w : World) (o : Obj) : (w.alloc o).heap.size = w.heap.size + 1 := by simp
structure Fill2 (w : World) (g h : Nat) (X Y : List Int) (i j : Nat) (wx : World) : Prop where
 x : Fill w g X i wx
 y : Fill w h Y j wx
 ne : g ≠ h
section
variable {w wx w' : World} {g h : Nat} {X Y : List Int} {i j : Nat}
theorem Fill2.made (w : World) (X Y : List Int) (n : Nat) (hx : X.length = n) (hy : Y.length = n) : Fill2 w w.heap.size (w.heap.size + 1) X Y 0 0 ((w.alloc (.cells (madeCells #[.int .i64 0] n) 3)).alloc (.cells (madeCells #[.int .i64 0] n) 3)) := by
 have h1 := Fill.made w w (Below.refl _ _) X
 rw [hx] at h1
 have h2 := Fill.made w (w.alloc (.cells (madeCells #[.int .i64 0] n) 3)) h1.below Y
 rw [hy, alloc_size] at h2
 exact ⟨h1.low aQ, h2, by omega⟩
theorem Fill2.swap (a : Fill2 w g h X Y i j wx) : Fill2 w h g Y X j i wx := ⟨a.y, a.x, fun e => a.ne e.symm⟩
theorem Fill2.low (a : Fill2 w g h X Y i j wx) (hb : Lo wx w') : Fill2 w g h X Y i j w' := ⟨a.x.low hb, a.y.low hb, a.ne⟩
theorem Fill2.setX (a : Fill2 w g h X Y i j wx) (hi : i < X.length) : Fill2 w g h X Y (i + 1) j (wx.setCell ⟨g, i, none⟩ (.int .i64 (X.getD i 0))) := ⟨a.x.set hi, a.y.other _ _ a.ne a.x.le, a.ne⟩
theorem Fill2.setY (a : Fill2 w g h X Y i j wx) (hj : j < Y.length) : Fill2 w g h X Y i (j + 1) (wx.setCell ⟨h, j, none⟩ (.int .i64 (Y.getD j 0))) := ⟨a.x.other _ _ (fun e => a.ne e.symm) a.y.le, a.y.set hj, a.ne⟩
end
theorem qstereo_spec (m : Int) (a b : List Int) (aa ba : OA) (ac bc : Nat) (w : World) (ha : IntsAt w aa a) (hb : IntsAt w ba b) : Calls Tryz.prog 66 #[.int .i64 m, .slice aa a.length ac, .slice ba b.length bc] w (RetF (stR m a b) w) := by
 have kt := qtwo_spec m a b 1099511627776 (by decide) (by decide) aa ba ac bc w ha hb
 have hal := ha.len
 have hbl := hb.len
 cases ht : twoB m a b 1099511627776 with
 | false =>
  have HR : Hid (stR m a b = none) := by
   show _ = _;unfold stR;rw [if_neg (fun h => by rw [(twoB_iff m a b 1099511627776).2 h] at ht; cases ht)]
  rw [ht] at kt;clear ht ha hb;go_enter Tryz.func66, Tryz.ntmps66
  go_wp2_with fail
  refine kt.mono ?_;rintro e w2 ⟨rfl, hw2⟩;subst hw2;clear kt
  go_wp2_with fail
  go_ret3
  exact retF_none HR.out rfl (Below.refl _ _)
 | true =>
  have hh := (twoB_iff m a b 1099511627776).1 ht;have HR0 : stR m a b = some (zipN (stP m.toNat) a b a.length, zipN (stQ m.toNat) a b a.length) := by unfold stR; rw [if_pos hh]
  obtain ⟨⟨m0, m3⟩, hlen, hia, hib⟩ := hh;obtain ⟨m', rfl⟩ : ∃ m' : Nat, m = (m' : Int) := ⟨m.toNat, by omega⟩
  rw [Int.toNat_natCast] at HR0;have hm3 : m' <= 3 := by omega
  rw [ht] at kt;clear ht;obtain ⟨X, hX⟩ : ∃ X, X = zipN (stP m') a b a.length := ⟨_, rfl⟩;obtain ⟨Y, hY⟩ : ∃ Y, Y = zipN (stQ m') a b a.length := ⟨_, rfl⟩;have HR : Hid (stR (m' : Int) a b = some (X, Y)) := by show _ = _; rw [HR0, hX, hY]
  have HXL : Hid (X.length = a.length) := by show _ = _; rw [hX, zipN_len]
  have HYL : Hid (Y.length = a.length) := by show _ = _; rw [hY, zipN_len]
  have HXR : Hid (Rng X) := by show Rng X; rw [hX]; exact zipN_num _ a b 1099511627776 (by decide) hia hib (fun p q h1 h2 => by unfold stP; split; omega; split <;> omega) _
  have HYR : Hid (Rng Y) := by show Rng Y; rw [hY]; exact zipN_num _ a b 1099511627776 (by decide) hia hib (fun p q h1 h2 => by unfold stQ; split; omega; split <;> omega) _
  have HKA0 : ∀ i, i < a.length -> ∀ wx, Calls Tryz.prog 121 #[.int .i64 (m' : Int), .int .i64 (a.getD i 0), .int .i64 (b.getD i 0)] wx fun e w' => e = .returned (.tuple #[.int .i64 (X.getD i 0), .int .i64 (Y.getD i 0)]) /\ w' = wx := fun i hi wx => by
   rw [hX, hY, zipN_at _ _ _ _ _ hi, zipN_at _ _ _ _ _ hi];exact qcoded_spec m' hm3 _ _ (inB_at a 1099511627776 hia (by decide) i) (inB_at b 1099511627776 hib (by decide) i) wx
  have hmk := make_ints a.length hal;have HF1 : Hid (Fill2 w w.heap.size (w.heap.size + 1) X Y 0 0 (((w.alloc (.cells (madeCells #[.int .i64 0] a.length) 3)).alloc (.cells (madeCells #[.int .i64 0] a.length) 3)).drew)) := (Fill2.made w X Y a.length HXL.out HYL.out).low dQ;have HF2 : Hid (Fill2 w (w.heap.size + 1) w.heap.size X Y 0 0 (((w.alloc (.cells (madeCells #[.int .i64 0] a.length) 3)).alloc (.cells (madeCells #[.int .i64 0] a.length) 3)).drew)) := (Fill2.made w Y X a.length HYL.out HXL.out).swap.low dQ;have HKA : Hid (∀ i, i < a.length -> ∀ wx, G0 121 #[.int .i64 (m' : Int), .int .i64 (a.getD i 0), .int .i64 (b.getD i 0)] wx (.tuple #[.int .i64 (X.getD i 0), .int .i64 (Y.getD i 0)])) := HKA0;clear HKA0;have HIA := kQ ha;have HIB := kQ hb;clear hX hY HR0 ha hb hia hib m0 m3;generalize hna : a.length = n at *;have HNB := kQ hlen.symm;have HNA := kQ hna;rw [HNB.out] at kt;rw [HNB.out];clear hlen hna;go_enter Tryz.func66, Tryz.ntmps66
  go_wp2_with fail
  refine kt.mono ?_;rintro e w2 ⟨rfl, hw2⟩;subst hw2;clear kt
  go_wp2_with fail
  go_region
  ·go_wp2_with fail
   generalize World.drew _ = wa at *;have HA := kQ HF1.out;clear HF1 HF2 hmk
   go_loopw [11, 25] (fun s11 s25 wr => ∃ i : Nat, i <= n /\ s25 = .int .i64 (i : Int) /\ Fill2 w2 (w2.heap.size) (w2.heap.size + 1) X Y i i wr) (fun _ s25 _ => n - (intOf s25).toNat)
   case atStart => exact ⟨0, Nat.zero_le _, rfl, HA.out⟩
   case round =>
    clear HA;obtain ⟨i, hi, rfl, hf⟩ := hrel;by_cases hlt : i < n
    ·obtain ⟨b1, o1, rfl, q1⟩ := HIA.out.at i (by rw [HNA.out]; exact hlt)
     obtain ⟨b2, o2, rfl, q2⟩ := HIB.out.at i (by rw [HNB.out]; exact hlt)
     have HQ1 : Hid (∀ wx, Lo w2 wx -> wx.cell? ⟨b1, o1 + i, none⟩ = some (.int .i64 (a.getD i 0))) := fun wx hh => q1 wx hh;have HQ2 : Hid (∀ wx, Lo w2 wx -> wx.cell? ⟨b2, o2 + i, none⟩ = some (.int .i64 (b.getD i 0))) := fun wx hh => q2 wx hh;have HKC := kQ (HKA.out i hlt);have HD : Hid (Fill2 w2 (w2.heap.size) (w2.heap.size + 1) X Y i i wr.drew) := hf.low dQ;have HX1 : Hid (Fill2 w2 (w2.heap.size) (w2.heap.size + 1) X Y (i + 1) i (wr.drew.setCell ⟨w2.heap.size, i, none⟩ (.int .i64 (X.getD i 0)))) := HD.out.setX (by rw [HXL.out]; exact hlt)
     have HX2 : Hid (Fill2 w2 (w2.heap.size) (w2.heap.size + 1) X Y (i + 1) (i + 1) ((wr.drew.setCell ⟨w2.heap.size, i, none⟩ (.int .i64 (X.getD i 0))).setCell ⟨w2.heap.size + 1, i, none⟩ (.int .i64 (Y.getD i 0)))) := HX1.out.setY (by rw [HYL.out]; exact hlt)
     have y5 := HD.out.x.cell i (by rw [HXL.out]; exact hlt)
     have z5 := HD.out.x.frozen i;have y6 := HX1.out.y.cell i (by rw [HYL.out]; exact hlt)
     have z6 := HX1.out.y.frozen i;have y7 := hf.y.cell i (by rw [HYL.out]; exact hlt)
     have z7 := hf.y.frozen i;have y8 := hf.x.cell i (by rw [HXL.out]; exact hlt)
     have z8 := hf.x.frozen i;clear q1 q2 hf;generalize X.getD i 0 = P at *;generalize Y.getD i 0 = Q at *;generalize a.getD i 0 = p at *;generalize b.getD i 0 = q at *;generalize (if i < i then P else 0) = v5 at *
     generalize (if i < i then Q else 0) = v6 at *
     go_wp2_with fail
     refine wp_region_held_drew (S := fun wx => Lo w2 wx) (by kernel_rfl) HD.out.x.below (fun hS => ?_)
     refine vQ 0 (.slice (some ⟨w2.heap.size, 0, none⟩) n n) hS ?_;simp only [SL];refine vQ 1 (.int .i64 (i : Int)) hS ?_;simp only [SL];refine vQ 2 (.slice (some ⟨w2.heap.size + 1, 0, none⟩) n n) hS ?_;simp only [SL];refine vQ 3 (.int .i64 (i : Int)) hS ?_;simp only [SL];refine vQ 4 (.int .i64 (m' : Int)) hS ?_;simp only [SL];refine vQ 5 (.slice (some ⟨b1, o1, none⟩) n ac) hS ?_;simp only [SL];refine vQ 6 (.int .i64 (i : Int)) hS ?_;simp only [SL];refine vQ 7 (.pointer (some ⟨b1, o1 + i, none⟩)) hS ?_;simp only [SL];refine uQ 8 (.int .i64 p) rfl hS (Or.inl ⟨by rfl, fun w hSw => by have r1 := HQ1.out w hSw; go_simp⟩) ?_
     simp only [SL];refine vQ 9 (.slice (some ⟨b2, o2, none⟩) n bc) hS ?_;simp only [SL];refine vQ 10 (.int .i64 (i : Int)) hS ?_;simp only [SL];refine vQ 11 (.pointer (some ⟨b2, o2 + i, none⟩)) hS ?_;simp only [SL];refine uQ 12 (.int .i64 q) rfl hS (Or.inl ⟨by rfl, fun w hSw => by have r1 := HQ2.out w hSw; go_simp⟩) ?_
     simp only [SL];refine wpAnyH_ready (rs := [13]) (by kernel_rfl) (by simp) ?_
     refine AllReadyH.cons rfl (fun K hK => ?_) AllReadyH.nil;go_simp;refine (HKC.out _).mono ?_;rintro e w5 ⟨rfl, hw5⟩;subst hw5;refine hK.out _ _ hS (fun hS5 => ?_);clear hK K
     try simp only [SL]
     refine vQ 14 (.tuple #[.int .i64 P, .int .i64 Q]) hS5 ?_;simp only [SL];refine vQ 15 (.int .i64 P) hS5 ?_;simp only [SL];refine vQ 16 (.int .i64 Q) hS5 ?_;simp only [SL];refine vQ 17 (.pointer (some ⟨w2.heap.size, i, none⟩)) hS5 ?_;simp only [SL];refine wpAnyH_ready (rs := [18]) (by kernel_rfl) (by simp) ?_
     refine AllReadyH.cons rfl (fun K hK => ?_) AllReadyH.nil;go_simp;refine hK.out _ _ HX1.out.x.below (fun hS6 => ?_);clear hK K
     try simp only [SL]
     refine vQ 19 (.pointer (some ⟨w2.heap.size + 1, i, none⟩)) hS6 ?_;simp only [SL];refine wpAnyH_ready (rs := [20]) (by kernel_rfl) (by simp) ?_
     refine AllReadyH.cons rfl (fun K hK => ?_) AllReadyH.nil;go_simp;refine hK.out _ _ HX2.out.x.below (fun hS7 => ?_);clear hK K;refine wpAnyH_done (by kernel_rfl) ?_ _
     go_wp2_with fail
     go_roundw
     case rel => exact ⟨i + 1, by omega, by go_num, HX2.out⟩
     case measure => simp [intOf]; omega
    ·have hin : i = n := by omega
     subst hin;have HI : Hid (IntsAt wr (some ⟨w2.heap.size, 0, none⟩) X /\ IntsAt wr (some ⟨w2.heap.size + 1, 0, none⟩) Y /\ Lo w2 wr) := ⟨Fill.ints (by rw [HXL.out]; exact hf.x) (by rw [HXL.out]; omega) HXR.out, Fill.ints (by rw [HYL.out]; exact hf.y) (by rw [HYL.out]; omega) HYR.out, hf.x.below⟩
     clear hf
     go_wp2_with fail
     go_ret3
     exact retF_some HR.out (by rw [HXL.out, HYL.out]; rfl) HXL.out HYL.out HI.out.1 HI.out.2.1 HI.out.2.2 (by omega) (by omega)
  ·go_wp2_with fail
   generalize World.drew _ = wa at *;have HA := kQ HF2.out;clear HF1 HF2 hmk
   go_loopw [11, 25] (fun s11 s25 wr => ∃ i : Nat, i <= n /\ s25 = .int .i64 (i : Int) /\ Fill2 w2 (w2.heap.size + 1) (w2.heap.size) X Y i i wr) (fun _ s25 _ => n - (intOf s25).toNat)
   case atStart => exact ⟨0, Nat.zero_le _, rfl, HA.out⟩
   case round =>
    clear HA;obtain ⟨i, hi, rfl, hf⟩ := hrel;by_cases hlt : i < n
    ·obtain ⟨b1, o1, rfl, q1⟩ := HIA.out.at i (by rw [HNA.out]; exact hlt)
     obtain ⟨b2, o2, rfl, q2⟩ := HIB.out.at i (by rw [HNB.out]; exact hlt)
     have HQ1 : Hid (∀ wx, Lo w2 wx -> wx.cell? ⟨b1, o1 + i, none⟩ = some (.int .i64 (a.getD i 0))) := fun wx hh => q1 wx hh;have HQ2 : Hid (∀ wx, Lo w2 wx -> wx.cell? ⟨b2, o2 + i, none⟩ = some (.int .i64 (b.getD i 0))) := fun wx hh => q2 wx hh;have HKC := kQ (HKA.out i hlt);have HD : Hid (Fill2 w2 (w2.heap.size + 1) (w2.heap.size) X Y i i wr.drew) := hf.low dQ;have HX1 : Hid (Fill2 w2 (w2.heap.size + 1) (w2.heap.size) X Y (i + 1) i (wr.drew.setCell ⟨w2.heap.size + 1, i, none⟩ (.int .i64 (X.getD i 0)))) := HD.out.setX (by rw [HXL.out]; exact hlt)
     have HX2 : Hid (Fill2 w2 (w2.heap.size + 1) (w2.heap.size) X Y (i + 1) (i + 1) ((wr.drew.setCell ⟨w2.heap.size + 1, i, none⟩ (.int .i64 (X.getD i 0))).setCell ⟨w2.heap.size, i, none⟩ (.int .i64 (Y.getD i 0)))) := HX1.out.setY (by rw [HYL.out]; exact hlt)
     have y5 := HD.out.x.cell i (by rw [HXL.out]; exact hlt)
     have z5 := HD.out.x.frozen i;have y6 := HX1.out.y.cell i (by rw [HYL.out]; exact hlt)
     have z6 := HX1.out.y.frozen i;have y7 := hf.y.cell i (by rw [HYL.out]; exact hlt)
     have z7 := hf.y.frozen i;have y8 := hf.x.cell i (by rw [HXL.out]; exact hlt)
     have z8 := hf.x.frozen i;clear q1 q2 hf;generalize X.getD i 0 = P at *;generalize Y.getD i 0 = Q at *;generalize a.getD i 0 = p at *;generalize b.getD i 0 = q at *;generalize (if i < i then P else 0) = v5 at *
     generalize (if i < i then Q else 0) = v6 at *
     go_wp2_with fail
     refine wp_region_held_drew (S := fun wx => Lo w2 wx) (by kernel_rfl) HD.out.x.below (fun hS => ?_)
     refine vQ 0 (.slice (some ⟨w2.heap.size + 1, 0, none⟩) n n) hS ?_;simp only [SL];refine vQ 1 (.int .i64 (i : Int)) hS ?_;simp only [SL];refine vQ 2 (.slice (some ⟨w2.heap.size, 0, none⟩) n n) hS ?_;simp only [SL];refine vQ 3 (.int .i64 (i : Int)) hS ?_;simp only [SL];refine vQ 4 (.int .i64 (m' : Int)) hS ?_;simp only [SL];refine vQ 5 (.slice (some ⟨b1, o1, none⟩) n ac) hS ?_;simp only [SL];refine vQ 6 (.int .i64 (i : Int)) hS ?_;simp only [SL];refine vQ 7 (.pointer (some ⟨b1, o1 + i, none⟩)) hS ?_;simp only [SL];refine uQ 8 (.int .i64 p) rfl hS (Or.inl ⟨by rfl, fun w hSw => by have r1 := HQ1.out w hSw; go_simp⟩) ?_
     simp only [SL];refine vQ 9 (.slice (some ⟨b2, o2, none⟩) n bc) hS ?_;simp only [SL];refine vQ 10 (.int .i64 (i : Int)) hS ?_;simp only [SL];refine vQ 11 (.pointer (some ⟨b2, o2 + i, none⟩)) hS ?_;simp only [SL];refine uQ 12 (.int .i64 q) rfl hS (Or.inl ⟨by rfl, fun w hSw => by have r1 := HQ2.out w hSw; go_simp⟩) ?_
     simp only [SL];refine wpAnyH_ready (rs := [13]) (by kernel_rfl) (by simp) ?_
     refine AllReadyH.cons rfl (fun K hK => ?_) AllReadyH.nil;go_simp;refine (HKC.out _).mono ?_;rintro e w5 ⟨rfl, hw5⟩;subst hw5;refine hK.out _ _ hS (fun hS5 => ?_);clear hK K
     try simp only [SL]
     refine vQ 14 (.tuple #[.int .i64 P, .int .i64 Q]) hS5 ?_;simp only [SL];refine vQ 15 (.int .i64 P) hS5 ?_;simp only [SL];refine vQ 16 (.int .i64 Q) hS5 ?_;simp only [SL];refine vQ 17 (.pointer (some ⟨w2.heap.size + 1, i, none⟩)) hS5 ?_;simp only [SL];refine wpAnyH_ready (rs := [18]) (by kernel_rfl) (by simp) ?_
     refine AllReadyH.cons rfl (fun K hK => ?_) AllReadyH.nil;go_simp;refine hK.out _ _ HX1.out.x.below (fun hS6 => ?_);clear hK K
     try simp only [SL]
     refine vQ 19 (.pointer (some ⟨w2.heap.size, i, none⟩)) hS6 ?_;simp only [SL];refine wpAnyH_ready (rs := [20]) (by kernel_rfl) (by simp) ?_
     refine AllReadyH.cons rfl (fun K hK => ?_) AllReadyH.nil;go_simp;refine hK.out _ _ HX2.out.x.below (fun hS7 => ?_);clear hK K;refine wpAnyH_done (by kernel_rfl) ?_ _
     go_wp2_with fail
     go_roundw
     case rel => exact ⟨i + 1, by omega, by go_num, HX2.out⟩
     case measure => simp [intOf]; omega
    ·have hin : i = n := by omega
     subst hin;have HI : Hid (IntsAt wr (some ⟨w2.heap.size + 1, 0, none⟩) X /\ IntsAt wr (some ⟨w2.heap.size, 0, none⟩) Y /\ Lo w2 wr) := ⟨Fill.ints (by rw [HXL.out]; exact hf.x) (by rw [HXL.out]; omega) HXR.out, Fill.ints (by rw [HYL.out]; exact hf.y) (by rw [HYL.out]; omega) HYR.out, hf.x.below⟩
     clear hf
     go_wp2_with fail
     go_ret3
     exact retF_some HR.out (by rw [HXL.out, HYL.out]; rfl) HXL.out HYL.out HI.out.1 HI.out.2.1 HI.out.2.2 (by omega) (by omega)
theorem rng_inB (l : List Int) (v : Int) (hv : v <= 25) (h : ∀ x ∈ l, sigE x v = 0) (M : Int) (hM : 33554432 <= M) : inB l M = true := by
 rw [inB_iff]
 intro x hx
 obtain ⟨h1, h2, h3, h4⟩ := (sigE_iff x v).1 (h x hx)
 have hp : (2 : Nat) ^ (v.toNat - 1) <= 2 ^ 24 := Nat.pow_le_pow_right (by decide) (by omega)
 have e : (2 : Nat) ^ 24 = 16777216 := by decide
 rw [pow_int] at h3 h4
 omega
theorem f_coded_0 (P : List (List Int)) (po : OA) (pk : Nat) (w : World) : Calls Tryz.prog 22 #[.int .i64 0, .slice po P.length pk] w fun en w' => en = .returned (.slice po P.length pk) /\ w' = w := by
 go_enter Tryz.func22, Tryz.ntmps22
 go_wp2_with fail
 go_ret
 exact ⟨rfl, rfl⟩
theorem f_coded_2 (mo : Int) (hm : 1 ≤ mo ∧ mo ≤ 3) (P : List (List Int)) (h2 : P.length = 2) (hlen : (P.getD 0 []).length = (P.getD 1 []).length) (hn : (P.getD 0 []).length ≤ 65535) (v : Int) (hv : v ≤ 25) (hs : ∀ l ∈ P, ∀ x ∈ l, sigE x v = 0) (po : Option Addr) (pk : Nat) (w : World) (hp : RowsAt w po P) (F : Nat → Prop) (hF : ∀ k, F k → k < w.heap.size) :
  Calls Tryz.prog 22 #[.int .i64 mo, .slice po P.length pk] w fun en w' => ∃ ro rk, en = .returned (.slice ro 2 rk) ∧ RowsP F w' ro (chnL mo P) ∧ Below w.heap.size w w' := by
 obtain ⟨b, off, rfl, a0, k0, c0, d0, e0, i0⟩ := hp.at 0 (by omega)
 obtain ⟨b2, off2, hbo, a1, k1, c1, d1, e1, i1⟩ := hp.at 1 (by omega)
 have hbe : b2 = b ∧ off2 = off := by
  injection hbo with h
  injection h with h1 h2
  exact ⟨h1.symm, h2.symm⟩
 obtain ⟨rfl, rfl⟩ := hbe
 have hR : stR mo (P.getD 0 []) (P.getD 1 []) = some (zipN (stP mo.toNat) (P.getD 0 []) (P.getD 1 []) (P.getD 0 []).length, zipN (stQ mo.toNat) (P.getD 0 []) (P.getD 1 []) (P.getD 0 []).length) := by
  unfold stR;rw [if_pos ⟨by omega, hlen, rng_inB _ v hv (hs _ (getD_mem' P 0 (by omega))) _ (by decide), rng_inB _ v hv (hs _ (getD_mem' P 1 (by omega))) _ (by decide)⟩]
 have hout : chnL mo P = [zipN (stP mo.toNat) (P.getD 0 []) (P.getD 1 []) (P.getD 0 []).length, zipN (stQ mo.toNat) (P.getD 0 []) (P.getD 1 []) (P.getD 0 []).length] := by unfold chnL; rw [if_neg (by omega)]
 have hks := fun wx (hb : Below w.heap.size w wx) => qstereo_spec mo (P.getD 0 []) (P.getD 1 []) a0 a1 k0 k1 wx (i0.below hb) (i1.below hb)
 rw [hR] at hks
 have hXn : (zipN (stP mo.toNat) (P.getD 0 []) (P.getD 1 []) (P.getD 0 []).length).length ≤ 65535 := by rw [zipN_len]; exact hn
 have hYn : (zipN (stQ mo.toNat) (P.getD 0 []) (P.getD 1 []) (P.getD 0 []).length).length ≤ 65535 := by rw [zipN_len]; exact hn
 rw [hout]
 have HC0 : Hid (∀ wx, Below w.heap.size w wx → wx.cell? ⟨b2, off2, none⟩ = some (.slice a0 (P.getD 0 []).length k0)) := fun wx hb => c0 wx hb
 have HC1 : Hid (∀ wx, Below w.heap.size w wx → wx.cell? ⟨b2, off2 + 1, none⟩ = some (.slice a1 (P.getD 1 []).length k1)) := fun wx hb => c1 wx hb
 have HF : Hid (∀ k, F k → k < w.heap.size) := hF
 have hne : (mo == 0) = false := by rw [beq_eq_false_iff_ne]; omega
 generalize zipN (stP mo.toNat) (P.getD 0 []) (P.getD 1 []) (P.getD 0 []).length = X at *
 generalize zipN (stQ mo.toNat) (P.getD 0 []) (P.getD 1 []) (P.getD 0 []).length = Y at *
 have KS : Hid (∀ wx, Below w.heap.size w wx → Calls Tryz.prog 66 #[.int .i64 mo, .slice a0 (P.getD 0 []).length k0, .slice a1 (P.getD 1 []).length k1] wx fun en w' => ∃ xa xc ya yc, en = .returned (.tuple #[.slice xa X.length xc, .slice ya Y.length yc, .int .i64 0]) ∧ (IntsAt w' xa X ∧ IntsAt w' ya Y ∧ Below wx.heap.size wx w') ∧ (X.length ≤ xc ∧ (xa = none → xc = 0)) ∧ (Y.length ≤ yc ∧ (ya = none → yc = 0)) ∧ Fr wx.heap.size xa ∧ Fr wx.heap.size ya) := hks
 clear c0 c1 d0 d1 e0 e1 i0 i1 hbo hR hks hout hs hp hF hlen
 have hp2 : (P.length : Int) = 2 := by omega
 generalize P.getD 0 [] = l0 at *
 generalize P.getD 1 [] = l1 at *
 rw [h2]
 clear h2 hp2
 go_enter Tryz.func22, Tryz.ntmps22
 go_wp2_with fail
 have HD : Hid (Below w.heap.size w w.drew) := (Below.refl _ _).drew
 refine wp_region_held_drew (S := fun wx => Below w.heap.size w wx) (by kernel_rfl) (HD.out) (fun hS => ?_)
 refine wpAnyH_take (i := 0) (v := .int .i64 mo) rfl (by kernel_rfl) (by kernel_rfl) (by kernel_rfl) (fun _ _ _ h => h) (Or.inl ⟨by rfl, fun w hSw => by go_simp⟩) hS ?_
 simp only [Act.put, List.getElem_toArray, List.getElem_cons_succ, List.getElem_cons_zero, List.setIfInBounds_toArray, List.set_cons_zero, List.set_cons_succ]
 refine wpAnyH_take (i := 1) (v := .slice (some ⟨b2, off2, none⟩) 2 pk) rfl (by kernel_rfl) (by kernel_rfl) (by kernel_rfl) (fun _ _ _ h => h) (Or.inl ⟨by rfl, fun w hSw => by go_simp⟩) hS ?_
 simp only [Act.put, List.getElem_toArray, List.getElem_cons_succ, List.getElem_cons_zero, List.setIfInBounds_toArray, List.set_cons_zero, List.set_cons_succ]
 refine wpAnyH_take (i := 2) (v := .pointer (some ⟨b2, off2, none⟩)) rfl (by kernel_rfl) (by kernel_rfl) (by kernel_rfl) (fun _ _ _ h => h) (Or.inl ⟨by rfl, fun w hSw => by go_simp⟩) hS ?_
 simp only [Act.put, List.getElem_toArray, List.getElem_cons_succ, List.getElem_cons_zero, List.setIfInBounds_toArray, List.set_cons_zero, List.set_cons_succ]
 refine wpAnyH_take (i := 3) (v := .slice a0 l0.length k0) rfl (by kernel_rfl) (by kernel_rfl) (by kernel_rfl) (fun _ _ _ h => h) (Or.inl ⟨by rfl, fun w hSw => by have r1 := HC0.out w hSw; go_simp⟩) hS ?_
 simp only [Act.put, List.getElem_toArray, List.getElem_cons_succ, List.getElem_cons_zero, List.setIfInBounds_toArray, List.set_cons_zero, List.set_cons_succ]
 refine wpAnyH_take (i := 4) (v := .slice (some ⟨b2, off2, none⟩) 2 pk) rfl (by kernel_rfl) (by kernel_rfl) (by kernel_rfl) (fun _ _ _ h => h) (Or.inl ⟨by rfl, fun w hSw => by go_simp⟩) hS ?_
 simp only [Act.put, List.getElem_toArray, List.getElem_cons_succ, List.getElem_cons_zero, List.setIfInBounds_toArray, List.set_cons_zero, List.set_cons_succ]
 refine wpAnyH_take (i := 5) (v := .pointer (some ⟨b2, off2 + 1, none⟩)) rfl (by kernel_rfl) (by kernel_rfl) (by kernel_rfl) (fun _ _ _ h => h) (Or.inl ⟨by rfl, fun w hSw => by go_simp⟩) hS ?_
 simp only [Act.put, List.getElem_toArray, List.getElem_cons_succ, List.getElem_cons_zero, List.setIfInBounds_toArray, List.set_cons_zero, List.set_cons_succ]
 refine wpAnyH_take (i := 6) (v := .slice a1 l1.length k1) rfl (by kernel_rfl) (by kernel_rfl) (by kernel_rfl) (fun _ _ _ h => h) (Or.inl ⟨by rfl, fun w hSw => by have r1 := HC1.out w hSw; go_simp⟩) hS ?_
 simp only [Act.put, List.getElem_toArray, List.getElem_cons_succ, List.getElem_cons_zero, List.setIfInBounds_toArray, List.set_cons_zero, List.set_cons_succ]
 refine wpAnyH_ready (rs := [7]) (by kernel_rfl) (by simp) ?_
 refine AllReadyH.cons rfl (fun K hK => ?_) AllReadyH.nil
 go_simp
 refine (KS.out _ hS).mono ?_
 rintro en w3 ⟨xa, xc, ya, yc, rfl, h3⟩
 have H3 : Hid _ := h3
 clear h3
 refine hK.out _ _ (hS.trans (H3.out.1.2.2.mono hS.size)) (fun hS3 => ?_)
 clear hK K
 try simp only [Act.put, List.getElem_toArray, List.getElem_cons_succ, List.getElem_cons_zero, List.setIfInBounds_toArray, List.set_cons_zero, List.set_cons_succ]
 refine wpAnyH_take (i := 8) (v := .tuple #[.slice xa X.length xc, .slice ya Y.length yc, .int .i64 0]) rfl (by kernel_rfl) (by kernel_rfl) (by kernel_rfl) (fun _ _ _ h => h) (Or.inl ⟨by rfl, fun w hSw => by go_simp⟩) hS3 ?_
 simp only [Act.put, List.getElem_toArray, List.getElem_cons_succ, List.getElem_cons_zero, List.setIfInBounds_toArray, List.set_cons_zero, List.set_cons_succ]
 refine wpAnyH_take (i := 9) (v := .slice xa X.length xc) rfl (by kernel_rfl) (by kernel_rfl) (by kernel_rfl) (fun _ _ _ h => h) (Or.inl ⟨by rfl, fun w hSw => by go_simp⟩) hS3 ?_
 simp only [Act.put, List.getElem_toArray, List.getElem_cons_succ, List.getElem_cons_zero, List.setIfInBounds_toArray, List.set_cons_zero, List.set_cons_succ]
 refine wpAnyH_take (i := 10) (v := .slice ya Y.length yc) rfl (by kernel_rfl) (by kernel_rfl) (by kernel_rfl) (fun _ _ _ h => h) (Or.inl ⟨by rfl, fun w hSw => by go_simp⟩) hS3 ?_
 simp only [Act.put, List.getElem_toArray, List.getElem_cons_succ, List.getElem_cons_zero, List.setIfInBounds_toArray, List.set_cons_zero, List.set_cons_succ]
 refine wpAnyH_take (i := 11) (v := .int .i64 0) rfl (by kernel_rfl) (by kernel_rfl) (by kernel_rfl) (fun _ _ _ h => h) (Or.inl ⟨by rfl, fun w hSw => by go_simp⟩) hS3 ?_
 simp only [Act.put, List.getElem_toArray, List.getElem_cons_succ, List.getElem_cons_zero, List.setIfInBounds_toArray, List.set_cons_zero, List.set_cons_succ]
 refine wpAnyH_take (i := 12) (v := .slice xa X.length xc) rfl (by kernel_rfl) (by kernel_rfl) (by kernel_rfl) (fun _ _ _ h => h) (Or.inl ⟨by rfl, fun w hSw => by go_simp⟩) hS3 ?_
 simp only [Act.put, List.getElem_toArray, List.getElem_cons_succ, List.getElem_cons_zero, List.setIfInBounds_toArray, List.set_cons_zero, List.set_cons_succ]
 refine wpAnyH_take (i := 13) (v := .slice ya Y.length yc) rfl (by kernel_rfl) (by kernel_rfl) (by kernel_rfl) (fun _ _ _ h => h) (Or.inl ⟨by rfl, fun w hSw => by go_simp⟩) hS3 ?_
 simp only [Act.put, List.getElem_toArray, List.getElem_cons_succ, List.getElem_cons_zero, List.setIfInBounds_toArray, List.set_cons_zero, List.set_cons_succ]
 refine wpAnyH_take (i := 14) (v := .int .i64 0) rfl (by kernel_rfl) (by kernel_rfl) (by kernel_rfl) (fun _ _ _ h => h) (Or.inl ⟨by rfl, fun w hSw => by go_simp⟩) hS3 ?_
 simp only [Act.put, List.getElem_toArray, List.getElem_cons_succ, List.getElem_cons_zero, List.setIfInBounds_toArray, List.set_cons_zero, List.set_cons_succ]
 refine wpAnyH_done (by kernel_rfl) ?_ _
 have HAL : Hid (RowsP F (w3.alloc (.cells #[.slice xa X.length xc, .slice ya Y.length yc] 56)) (some ⟨w3.heap.size, 0, none⟩) [X, Y] ∧ Below w.heap.size w (w3.alloc (.cells #[.slice xa X.length xc, .slice ya Y.length yc] 56))) := by
  obtain ⟨⟨q1, q2, q3⟩, q4, q5, q6, q7⟩ := H3.out;have hb3 : Below w3.heap.size w3 (w3.alloc (.cells #[.slice xa X.length xc, .slice ya Y.length yc] 56)) := (Below.refl _ _).alloc (Nat.le_refl _) _;have hrow : (w3.alloc (.cells #[.slice xa X.length xc, .slice ya Y.length yc] 56)).heap[w3.heap.size]? = some (.cells #[.slice xa X.length xc, .slice ya Y.length yc] 56 (0, 0)) := heap_alloc_new _ _;refine ⟨⟨by show 2 ≤ _; decide, fun _ => ⟨w3.heap.size, 0, rfl, fun hf => by have := HF.out _ hf; have := hS3.size; omega, fun c hc => ?_⟩⟩, hS3.trans (hb3.mono hS3.size)⟩
  have hc2 : c = 0 ∨ c = 1 := by have : c < 2 := hc; omega
  rcases hc2 with rfl | rfl
  ·exact ⟨xa, xc, by rw [cell_of_row _ _ _ _ _ _ hrow]; rfl, q4.1, q4.2, q1.below hb3, fun _ b' hb' hf => by have := HF.out _ hf; have := q6 b' hb'; have := hS.size; omega⟩
  ·exact ⟨ya, yc, by rw [cell_of_row _ _ _ _ _ _ hrow]; rfl, q5.1, q5.2, q2.below hb3, fun _ b' hb' hf => by have := HF.out _ hf; have := q7 b' hb'; have := hS.size; omega⟩
 go_wp2_with fail
 go_ret
 exact ⟨_, _, rfl, HAL.out.1, HAL.out.2⟩
theorem f_uncoded_0 (P : List (List Int)) (po : OA) (pk : Nat) (w : World) : Calls Tryz.prog 46 #[.int .i64 0, .slice po P.length pk] w fun en w' => en = .returned (.slice po P.length pk) /\ w' = w := by
 go_enter Tryz.func46, Tryz.ntmps46
 go_wp2_with fail
 go_ret
 exact ⟨rfl, rfl⟩
theorem enc_ok10 : ∀ (q : Sb) (v : Int) (l : List Int) (ca : OA) (cc : Nat) (pa : OA) (pc : Nat) (ea : OA) (ec : Nat) (lo : OA) (cap p : Nat) (ao : OA) (B : List Nat) (w : World), l.length <= cap -> (lo = none -> cap = 0) -> (ca = none -> cc = 0) -> q.C.length <= cc -> Bits01 B -> B.length <= 1200000000000 -> SbAt w q ca pa ea -> IntsAt w lo l -> WrB w p ao B -> Apart p ao ca q.C -> Apart p ao pa q.R.P -> Apart p ao ea q.R.E -> Apart p ao lo l -> okS q v l -> Calls Tryz.prog 64 #[.pointer (some ⟨p, 0, none⟩), subV q ca cc pa pc ea ec, .int .i64 v, .slice lo l.length cap] w fun e w' => e = .returned (.int .i64 0) /\ ∃ ao', WrB w' p ao' (B ++ subB q v l) /\ Stays (foot p ao) w w' /\ Moved w.heap.size ao ao' := fun q v l ca cc pa pc ea ec lo cap p ao B w _ _ _ _ h01 hB hq hl hw _ _ _ _ hok => grp5.2.2.2 q v l ca cc pa pc ea ec lo cap p ao B h01 (by omega) w hq hl hw hok
theorem enc_no10 : ∀ (q : Sb) (v : Int) (l : List Int) (ca : OA) (cc : Nat) (pa : OA) (pc : Nat) (ea : OA) (ec : Nat) (lo : OA) (cap p : Nat) (ao : OA) (B : List Nat) (w : World), l.length <= cap -> (lo = none -> cap = 0) -> (ca = none -> cc = 0) -> q.C.length <= cc -> l.length <= 65535 -> I64 v -> Bits01 B -> B.length <= 1200000000000 -> SbAt w q ca pa ea -> IntsAt w lo l -> WrB w p ao B -> Apart p ao ca q.C -> Apart p ao pa q.R.P -> Apart p ao ea q.R.E -> Apart p ao lo l -> ¬ okS q v l -> Calls Tryz.prog 64 #[.pointer (some ⟨p, 0, none⟩), subV q ca cc pa pc ea ec, .int .i64 v, .slice lo l.length cap] w fun e w' => e = .returned (.int .i64 60) /\ Lo w w' := fun q v l ca cc pa pc ea ec lo cap p ao B w _ _ _ _ _ _ _ _ hq hl _ _ _ _ _ hno => by
 by_cases h1 : subOk q l.length v
 ·by_cases h2 : fitOk q v l
  ·exact grp5.2.2.1 q v l ca cc pa pc ea ec lo cap p w hq hl h1 h2 (fun h3 => hno ⟨h1, h2.1, h2.2.1, h2.2.2, h3⟩)
  ·exact grp5.2.1 q v l ca cc pa pc ea ec lo cap p w hq hl h1 h2
 ·exact grp5.1 q v l ca cc pa pc ea ec lo cap p w hq hl h1
structure DecC (s : ByteArray) (a : Nat) (b v : Int) : Prop where
 ok : ∀ (x : Nat) (l : List Int) (q : Sb) (a1 : Nat) (w : World), a <= 8 * s.size -> Rd w x s a -> decS s a b v = some (l, q, a1) -> Calls Tryz.prog 102 #[.pointer (some ⟨x, 0, none⟩), .int .i64 b, .int .i64 v] w fun e w' => ∃ la lc ca cc pa pc ea ec, e = .returned (.tuple #[.slice la l.length lc, subV q ca cc pa pc ea ec, .int .i64 0]) /\ IntsAt w' la l /\ (l.length <= lc /\ (la = none -> lc = 0)) /\ SbAt w' q ca pa ea /\ (q.C.length <= cc /\ (ca = none -> cc = 0)) /\ (Fr w.heap.size la /\ Fr w.heap.size ca /\ Fr w.heap.size pa /\ Fr w.heap.size ea) /\ Rd w' x s a1 /\ Stays (only x) w w'
 no : ∀ (x : Nat) (w : World), a <= 8 * s.size -> Rd w x s a -> decS s a b v = none -> Calls Tryz.prog 102 #[.pointer (some ⟨x, 0, none⟩), .int .i64 b, .int .i64 v] w fun e w' => e = .returned (.tuple #[.slice none 0 0, subV S0 none 0 none 0 none 0, .int .i64 2]) /\ Stays (only x) w w'
end Go.Proofs.YtfpfabmbipmipaaGreatDoor
