/- Own text. -/
import Derived.Test.YtfpfabmbipmipaaGreatDoorD39
set_option linter.unusedSimpArgs false
set_option linter.unusedVariables false
set_option maxRecDepth 20000
set_option maxHeartbeats 12800000
namespace Go.Proofs.YtfpfabmbipmipaaGreatDoor
open Go.RowKit
def RowsI (w : World) (po : OA) (P : List (List Int)) : Prop := 0 < P.length -> ∃ b off, po = some ⟨b, off, none⟩ /\ ∀ c, c < P.length -> ∃ a k, w.cell? ⟨b, off + c, none⟩ = some (.slice a (P.getD c []).length k) /\ IntsAt w a (P.getD c [])
theorem RowsI.of {w : World} {po : OA} {P : List (List Int)} (h : RowsAt w po P) : RowsI w po P := fun h0 => by
 obtain ⟨b, off, e, hc⟩ := h.lies h0
 exact ⟨b, off, e, fun c hl => by obtain ⟨a, k, h1, _, _, h4⟩ := hc c hl; exact ⟨a, k, h1, h4⟩⟩
theorem RowsI.two {w : World} {X Y : List Int} {xa ya : OA} {xc yc : Nat} (hx : IntsAt w xa X) (hy : IntsAt w ya Y) : RowsI (w.alloc (.cells #[.slice xa X.length xc, .slice ya Y.length yc] 56)) (some ⟨w.heap.size, 0, none⟩) [X, Y] := fun _ => by
 have hb3 : Lo w (w.alloc (.cells #[.slice xa X.length xc, .slice ya Y.length yc] 56)) := aQ
 have hrow : (w.alloc (.cells #[.slice xa X.length xc, .slice ya Y.length yc] 56)).heap[w.heap.size]? = some (.cells #[.slice xa X.length xc, .slice ya Y.length yc] 56 (0, 0)) := heap_alloc_new _ _
 refine ⟨w.heap.size, 0, rfl, fun c hc => ?_⟩
 have hc2 : c = 0 ∨ c = 1 := by have : c < 2 := hc; omega
 rcases hc2 with rfl | rfl
 ·exact ⟨xa, xc, by rw [cell_of_row _ _ _ _ _ _ hrow]; rfl, hx.below hb3⟩
 ·exact ⟨ya, yc, by rw [cell_of_row _ _ _ _ _ _ hrow]; rfl, hy.below hb3⟩
structure FV (we : World) (y : Nat) (aj : OA) (D : List Nat) (wx : World) : Prop where
 lo : Lo we wx
 xw : XwB wx y aj D
 ge : we.heap.size <= y
 nb : ∀ b, blockOf aj = some b -> we.heap.size <= b
section
variable {we wx w' : World} {y : Nat} {aj aj' : OA} {D D' : List Nat}
theorem FV.start (we : World) : FV we we.heap.size none [] (we.alloc (.cells #[.slice none 0 0] 62)) := ⟨aQ, XwB.new we, Nat.le_refl _, fun b hb => by cases hb⟩
theorem FV.low (h : FV we y aj D wx) (hb : Lo wx w') : FV we y aj D w' := ⟨h.lo.trans (hb.mono h.lo.size), h.xw.below hb, h.ge, h.nb⟩
theorem FV.put (h : FV we y aj D wx) (hw : XwB w' y aj' D') (hS : Stays (foot y aj) wx w') (hM : Moved wx.heap.size aj aj') : FV we y aj' D' w' :=
 ⟨h.lo.trans (foot_below hS h.lo.size h.ge h.nb), hw, h.ge, fun b hb => by
  rcases hM b hb with h1 | h1
  ·exact h.nb b h1
  ·exact Nat.le_trans h.lo.size h1⟩
end
theorem be_two (n : Nat) (h : n < 65536) : S2.beT (n : Int) 2 = textOf (be2 n) := by
 have hf : S2.fitsB (n : Int) ((2 : Nat) : Int) = true := S2.fits_of_nat n 2 (by decide) (by decide) (by omega)
 have e := S2.beT_nat n 2 hf
 have e2 : S2.highL n 2 = be2 n := by
  unfold S2.highL be2;show [n / 256 ^ 1 % 256, n / 256 ^ 0 % 256] = _;have h1 : n / 256 ^ 1 % 256 = n / 256 := by omega
  have h2 : n / 256 ^ 0 % 256 = n % 256 := by omega
  rw [h1, h2]
 rw [e2] at e
 exact e
theorem xbd_chk (f : Fm) (so : OA) (sk : Nat) (a b c d : Int) (i : Inf) (e : Int) (s : ByteArray) (hr : I64 i.rate) (P : List (List Int)) (po : OA) (pk : Nat) (w : World) (hf : FmAt w f so sk) (hP : RowsAt w po P) (T : ByteArray) (r : Int) (HYES : Hid (okF f i P -> T = textOf (frL f i P) /\ r = 0)) (HNO : Hid (¬ okF f i P -> T = ⟨#[]⟩ /\ r = 60)) (h : ¬ okC f i) : Calls Tryz.prog 9 #[fmV f so sk, infV a b c d i e s, .slice po P.length pk] w fun en w' => en = .returned (.tuple #[.string T, .int .i64 r]) /\ Lo w w' := by
 have K1 : Hid (∀ wx, Hid (FX w f so sk a b c d i e s wx) -> Calls Tryz.prog 11 #[fmV f so sk, infV a b c d i e s] wx fun en w' => en = .returned (.int .i64 60) /\ Hid (FX w f so sk a b c d i e s w')) := fun wx hx => (xcheck11 f so sk a b c d i e s hr 60 (fun hq => absurd hq h) (fun _ => rfl) wx (hf.below hx.out.below)).mono fun en w' hh => ⟨hh.1, hx.out.next hh.2⟩
 have HF : Hid (T = ⟨#[]⟩ /\ r = 60) := HNO.out (fun hq => h hq.1)
 clear h hf hP HYES HNO
 have HA : Hid (FX w f so sk a b c d i e s ((w.alloc (.cells (fmC f so sk) 24)).alloc (.cells (infC a b c d i e s) 26))) := FX.new w f so sk a b c d i e s
 go_enter Tryz.func9, Tryz.ntmps9
 go_upto_region 1 with fail
 generalize World.alloc _ _ = wa at *
 obtain ⟨f0, f1, f2, f3, f4, f5, f6, f7, i0, i1, i2, i3, i4, i5, i6, i7, i8⟩ := HA.out.cells
 go_wp2_with fail
 refine (K1.out _ HA).mono ?_
 rintro en w1 ⟨rfl, HB⟩
 clear HA f0 f1 f2 f3 f4 f5 f6 f7 i0 i1 i2 i3 i4 i5 i6 i7 i8
 obtain ⟨f0, f1, f2, f3, f4, f5, f6, f7, i0, i1, i2, i3, i4, i5, i6, i7, i8⟩ := HB.out.cells
 go_wp2_with fail
 go_ret2
 exact ⟨by rw [HF.out.1, HF.out.2]; rfl, HB.out.below⟩
theorem xbd_len (f : Fm) (so : OA) (sk : Nat) (a b c d : Int) (i : Inf) (e : Int) (s : ByteArray) (hr : I64 i.rate) (P : List (List Int)) (po : OA) (pk : Nat) (w : World) (hf : FmAt w f so sk) (hP : RowsAt w po P) (T : ByteArray) (r : Int) (HYES : Hid (okF f i P -> T = textOf (frL f i P) /\ r = 0)) (HNO : Hid (¬ okF f i P -> T = ⟨#[]⟩ /\ r = 60)) (h : okC f i) (h2 : ¬ (P.length : Int) = i.ch) : Calls Tryz.prog 9 #[fmV f so sk, infV a b c d i e s, .slice po P.length pk] w fun en w' => en = .returned (.tuple #[.string T, .int .i64 r]) /\ Lo w w' := by
 have hlen := hP.len
 have K1 : Hid (∀ wx, Hid (FX w f so sk a b c d i e s wx) -> Calls Tryz.prog 11 #[fmV f so sk, infV a b c d i e s] wx fun en w' => en = .returned (.int .i64 0) /\ Hid (FX w f so sk a b c d i e s w')) := fun wx hx => (xcheck11 f so sk a b c d i e s hr 0 (fun _ => rfl) (fun hq => absurd h hq) wx (hf.below hx.out.below)).mono fun en w' hh => ⟨hh.1, hx.out.next hh.2⟩
 have HF : Hid (T = ⟨#[]⟩ /\ r = 60) := HNO.out (fun hq => h2 hq.2.1.1)
 have t1 : ((P.length : Int) != i.ch) = true := by rw [bne_iff_ne]; exact h2
 clear h h2 hf hP HYES HNO
 have HA : Hid (FX w f so sk a b c d i e s ((w.alloc (.cells (fmC f so sk) 24)).alloc (.cells (infC a b c d i e s) 26))) := FX.new w f so sk a b c d i e s
 go_enter Tryz.func9, Tryz.ntmps9
 go_upto_region 1 with fail
 generalize World.alloc _ _ = wa at *
 obtain ⟨f0, f1, f2, f3, f4, f5, f6, f7, i0, i1, i2, i3, i4, i5, i6, i7, i8⟩ := HA.out.cells
 go_wp2_with fail
 refine (K1.out _ HA).mono ?_
 rintro en w1 ⟨rfl, HB⟩
 clear HA f0 f1 f2 f3 f4 f5 f6 f7 i0 i1 i2 i3 i4 i5 i6 i7 i8
 obtain ⟨f0, f1, f2, f3, f4, f5, f6, f7, i0, i1, i2, i3, i4, i5, i6, i7, i8⟩ := HB.out.cells
 go_wp2_with fail
 go_ret2
 exact ⟨by rw [HF.out.1, HF.out.2]; rfl, HB.out.below⟩
theorem xbd_main (f : Fm) (so : OA) (sk : Nat) (a b c d : Int) (i : Inf) (e : Int) (s : ByteArray) (hr : I64 i.rate) (P : List (List Int)) (po : OA) (pk : Nat) (w : World) (hf : FmAt w f so sk) (hP : RowsAt w po P) (T : ByteArray) (r : Int) (HYES : Hid (okF f i P -> T = textOf (frL f i P) /\ r = 0)) (HNO : Hid (¬ okF f i P -> T = ⟨#[]⟩ /\ r = 60)) (h : okC f i) (h2 : (P.length : Int) = i.ch) : Calls Tryz.prog 9 #[fmV f so sk, infV a b c d i e s, .slice po P.length pk] w fun en w' => en = .returned (.tuple #[.string T, .int .i64 r]) /\ Lo w w' := by
 have hlen := hP.len
 have HP := kQ hP
 have HS := kQ hf.S
 have hsl := hf.S.len
 have HOKC := kQ h
 have HLC := kQ h2
 have hwd : 4 <= i.wd /\ i.wd <= 24 := h.1.1.2.1
 have K1 : Hid (∀ wx, Hid (FX w f so sk a b c d i e s wx) -> Calls Tryz.prog 11 #[fmV f so sk, infV a b c d i e s] wx fun en w' => en = .returned (.int .i64 0) /\ Hid (FX w f so sk a b c d i e s w')) := fun wx hx => (xcheck11 f so sk a b c d i e s hr 0 (fun _ => rfl) (fun hq => absurd h hq) wx (hf.below hx.out.below)).mono fun en w' hh => ⟨hh.1, hx.out.next hh.2⟩
 have t1 : ((P.length : Int) != i.ch) = false := by rw [bne_eq_false_iff_eq]; exact h2
 clear h h2 hf hP
 have HA : Hid (FX w f so sk a b c d i e s ((w.alloc (.cells (fmC f so sk) 24)).alloc (.cells (infC a b c d i e s) 26))) := FX.new w f so sk a b c d i e s
 go_enter Tryz.func9, Tryz.ntmps9
 go_upto_region 1 with fail
 generalize World.alloc _ _ = wa at *
 obtain ⟨f0, f1, f2, f3, f4, f5, f6, f7, i0, i1, i2, i3, i4, i5, i6, i7, i8⟩ := HA.out.cells
 go_wp2_with fail
 refine (K1.out _ HA).mono ?_
 rintro en w1 ⟨rfl, HB⟩
 clear HA f0 f1 f2 f3 f4 f5 f6 f7 i0 i1 i2 i3 i4 i5 i6 i7 i8
 obtain ⟨f0, f1, f2, f3, f4, f5, f6, f7, i0, i1, i2, i3, i4, i5, i6, i7, i8⟩ := HB.out.cells
 go_wp2_with fail
 clear f0 f1 f2 f3 f4 f5 f6 f7 i0 i1 i2 i3 i4 i5 i6 i7 i8
 go_loopw [9, 10] (fun s9 _ wr => ∃ n : Nat, n <= P.length /\ s9 = .int .i64 (n : Int) /\ (∀ j, j < n -> ((P.getD j []).length : Int) = f.size /\ ∀ x ∈ P.getD j [], sigE x i.wd = 0) /\ FX w f so sk a b c d i e s wr) (fun s9 _ _ => P.length - (intOf s9).toNat)
 case atStart => exact ⟨0, Nat.zero_le _, rfl, fun j hj => absurd hj (Nat.not_lt_zero _), HB.out⟩
 case round =>
  clear HB;obtain ⟨n, hn, rfl, hok, hfx⟩ := hrel;have HOK := kQ hok;have HW_ := kQ hfx;clear hok hfx;obtain ⟨f0, f1, f2, f3, f4, f5, f6, f7, i0, i1, i2, i3, i4, i5, i6, i7, i8⟩ := HW_.out.cells;by_cases hlt : n < P.length
  focus
   obtain ⟨bp, off, rfl, la, lc, q1, q2, q3, q4⟩ := HP.out.at n hlt;have HC1 := kQ q1;have hl5 := q4.len;have HI := kQ q4;have HE : Hid (∀ j, j = n -> P.getD j [] = P.getD n []) := fun j hj => by rw [hj]
   have HM : Hid (P.getD n [] ∈ P) := getD_mem' P n hlt;clear q1 q2 q3 q4;generalize P.getD n [] = l at *;by_cases hs : (l.length : Int) = f.size
   focus
    have hbe : ((l.length : Int) != f.size) = false := by rw [bne_eq_false_iff_eq]; exact hs
    have HS := kQ hs
   rotate_left
   focus
    have hbe : ((l.length : Int) != f.size) = true := by rw [bne_iff_ne]; exact hs
    have HF : Hid (T = ⟨#[]⟩ /\ r = 60) := HNO.out (fun hq => hs (hq.2.1.2 l HM.out).1)
   rotate_left
  rotate_left 2
  ·have HPK : Hid (∀ l ∈ P, (l.length : Int) = f.size /\ ∀ x ∈ l, sigE x i.wd = 0) := all_of_getD (Q := fun l => (l.length : Int) = f.size /\ ∀ x ∈ l, sigE x i.wd = 0) (fun j hj => HOK.out j (by omega))
   have HPL : Hid (P.length = (chnL f.mo P).length /\ 0 < P.length /\ (chnL f.mo P).length = f.S.length /\ (chnL f.mo P).length <= 8) := by
    have h1 := chnL_len f.mo P i.ch HLC.out HOKC.out.1.2.2.2.1.2.2;have h2 := HLC.out;have h3 := HOKC.out.1.1.1;have h4 := HOKC.out.2.1;exact ⟨by omega, by omega, by omega, by omega⟩
   have HSZ : Hid (∀ c, c < (chnL f.mo P).length -> ((chnL f.mo P).getD c []).length = f.size) := chnL_size f.mo P f.size (fun l hl => (HPK.out l hl).1) HPL.out.2.1;clear HOK
   go_upto_if 66 with fail
   go_cut [11, 12, 13, 14] from 64 to 82 (fun s11 _ _ _ wx => ∃ lo lk, s11 = .slice lo (chnL f.mo P).length lk /\ RowsI wx lo (chnL f.mo P) /\ FX w f so sk a b c d i e s wx)
   case first =>
    by_cases gm : f.mo = 0
    ·have hmb : (f.mo != 0) = false := by rw [bne_eq_false_iff_eq]; exact gm
     have HL0 : Hid ((chnL f.mo P) = P) := by show _ = _; unfold chnL; rw [if_pos gm]
     clear gm
     go_wp2_with fail
     go_meet
     exact ⟨po, pk, by rw [HL0.out], by rw [HL0.out]; exact RowsI.of (HP.out.below HW_.out.below), HW_.out⟩
    ·have hmb : (f.mo != 0) = true := by rw [bne_iff_ne]; exact gm
     have h22 : P.length = 2 := by have h1 := HLC.out; have h2 := HOKC.out.1.2.2.2.1; omega
     obtain ⟨bp, off, rfl, a0, k0, c0, d0, e0, i0_⟩ := HP.out.at 0 (by omega)
     obtain ⟨b2, off2, hbo, a1, k1, c1, d1, e1, i1_⟩ := HP.out.at 1 (by omega)
     have hbe : b2 = bp /\ off2 = off := by
      injection hbo with h
      injection h with h1 h2
      exact ⟨h1.symm, h2.symm⟩
     obtain ⟨rfl, rfl⟩ := hbe
     have hR : stR f.mo (P.getD 0 []) (P.getD 1 []) = some (zipN (stP f.mo.toNat) (P.getD 0 []) (P.getD 1 []) (P.getD 0 []).length, zipN (stQ f.mo.toNat) (P.getD 0 []) (P.getD 1 []) (P.getD 0 []).length) := by
      have m0 := getD_mem' P 0 (by omega)
      have m1 := getD_mem' P 1 (by omega)
      have z0 := (HPK.out _ m0).1;have z1 := (HPK.out _ m1).1;have hmo := HOKC.out.1.2.2.2.1;unfold stR;rw [if_pos ⟨by omega, by omega, rng_inB _ i.wd (by omega) (HPK.out _ m0).2 _ (by decide), rng_inB _ i.wd (by omega) (HPK.out _ m1).2 _ (by decide)⟩]
     have HL2 : Hid ((chnL f.mo P) = [zipN (stP f.mo.toNat) (P.getD 0 []) (P.getD 1 []) (P.getD 0 []).length, zipN (stQ f.mo.toNat) (P.getD 0 []) (P.getD 1 []) (P.getD 0 []).length]) := by show _ = _; unfold chnL; rw [if_neg gm]
     have hks := fun wx (hb : Lo w wx) => xstereo_spec f.mo (P.getD 0 []) (P.getD 1 []) a0 a1 k0 k1 wx (i0_.below hb) (i1_.below hb);rw [hR] at hks;have HC0 : Hid (∀ wx, Lo w wx -> wx.cell? ⟨b2, off2, none⟩ = some (.slice a0 (P.getD 0 []).length k0)) := fun wx hb => c0 wx hb;have HC1 : Hid (∀ wx, Lo w wx -> wx.cell? ⟨b2, off2 + 1, none⟩ = some (.slice a1 (P.getD 1 []).length k1)) := fun wx hb => c1 wx hb;generalize zipN (stP f.mo.toNat) (P.getD 0 []) (P.getD 1 []) (P.getD 0 []).length = X at *;generalize zipN (stQ f.mo.toNat) (P.getD 0 []) (P.getD 1 []) (P.getD 0 []).length = Y at *
     have KS : Hid (∀ wx, Hid (FX w f so sk a b c d i e s wx) -> Calls Tryz.prog 28 #[.int .i64 f.mo, .slice a0 (P.getD 0 []).length k0, .slice a1 (P.getD 1 []).length k1] wx fun en w' => ∃ xa xc ya yc, en = .returned (.tuple #[.slice xa X.length xc, .slice ya Y.length yc, .int .i64 0]) /\ Hid (IntsAt w' xa X /\ IntsAt w' ya Y /\ FX w f so sk a b c d i e s w')) := fun wx hx => (hks wx hx.out.below).mono fun en w' hh => by
      obtain ⟨xa, xc, ya, yc, h1, h2, h3, h4⟩ := hh;exact ⟨xa, xc, ya, yc, h1, h2, h3, hx.out.next h4⟩
     clear c0 c1 d0 d1 e0 e1 i0_ i1_ hbo hR hks gm;have hp0 : (0 : Int) < (P.length : Int) := by omega
     have hp1 : (1 : Int) < (P.length : Int) := by omega
     have hpne : ¬ P = [] := fun h => by rw [h] at h22; cases h22
     clear h22;generalize P.getD 0 [] = l0 at *;generalize P.getD 1 [] = l1 at *;have HD := kQ HW_.out.drew;clear HW_ f0 f1 f2 f3 f4 f5 f6 f7 i0 i1 i2 i3 i4 i5 i6 i7 i8
     go_wp2_with fail
     refine wp_region_held_drew (S := fun wx => FX w f so sk a b c d i e s wx) (by kernel_rfl) (HD.out) (fun hS => ?_)
     refine vQ 0 (.pointer (some ⟨w.heap.size, 6, none⟩)) hS ?_;simp only [SL];refine uQ 1 (.int .i64 f.mo) rfl hS (Or.inl ⟨by rfl, fun w hSw => by obtain ⟨f0, f1, f2, f3, f4, f5, f6, f7, i0, i1, i2, i3, i4, i5, i6, i7, i8⟩ := hSw.cells; go_simp⟩) ?_
     simp only [SL];refine vQ 2 (.slice (some ⟨b2, off2, none⟩) P.length pk) hS ?_;simp only [SL];refine vQ 3 (.pointer (some ⟨b2, off2, none⟩)) hS ?_;simp only [SL];refine uQ 4 (.slice a0 l0.length k0) rfl hS (Or.inl ⟨by rfl, fun w hSw => by have r1 := HC0.out w hSw.below; go_simp⟩) ?_
     simp only [SL];refine vQ 5 (.slice (some ⟨b2, off2, none⟩) P.length pk) hS ?_;simp only [SL];refine vQ 6 (.pointer (some ⟨b2, off2 + 1, none⟩)) hS ?_;simp only [SL];refine uQ 7 (.slice a1 l1.length k1) rfl hS (Or.inl ⟨by rfl, fun w hSw => by have r1 := HC1.out w hSw.below; go_simp⟩) ?_
     simp only [SL];refine wpAnyH_ready (rs := [8]) (by kernel_rfl) (by simp) ?_
     refine AllReadyH.cons rfl (fun K hK => ?_) AllReadyH.nil;go_simp;refine (KS.out _ hS).mono ?_;rintro en w3 ⟨xa, xc, ya, yc, rfl, h3⟩;refine hK.out _ _ h3.out.2.2 (fun hS3 => ?_);clear hK K
     try simp only [SL]
     refine vQ 9 (.tuple #[.slice xa X.length xc, .slice ya Y.length yc, .int .i64 0]) hS3 ?_;simp only [SL];refine vQ 10 (.slice xa X.length xc) hS3 ?_;simp only [SL];refine vQ 11 (.slice ya Y.length yc) hS3 ?_;simp only [SL];refine vQ 12 (.int .i64 0) hS3 ?_;simp only [SL];refine vQ 13 (.slice xa X.length xc) hS3 ?_;simp only [SL];refine vQ 14 (.slice ya Y.length yc) hS3 ?_;simp only [SL];refine vQ 15 (.int .i64 0) hS3 ?_;simp only [SL];refine wpAnyH_done (by kernel_rfl) ?_ _
     go_wp2_with fail
     go_meet
     exact ⟨some ⟨w3.heap.size, 0, none⟩, 2, by rw [HL2.out]; rfl, by rw [HL2.out]; exact RowsI.two h3.out.1 h3.out.2.1, h3.out.2.2.next aQ⟩
   case rest =>
    clear HW_ f0 f1 f2 f3 f4 f5 f6 f7 i0 i1 i2 i3 i4 i5 i6 i7 i8;obtain ⟨lo, lk, rfl, hri, hfx⟩ := hcut;obtain ⟨we, hwe⟩ : ∃ X, X = wc := ⟨_, rfl⟩;rw [<- hwe] at hri hfx ⊢;clear hwe;have HE0 := kQ hfx;have HRI := kQ hri;have HV0 : Hid (FV we we.heap.size none [] (we.alloc (.cells #[.slice none 0 0] 62))) := FV.start we;clear hri hfx
    go_upto_region 21 with fail
    generalize hw0 : World.alloc _ _ = w0 at *;generalize hyy : we.heap.size = y at *;have HYY := kQ hyy;clear hw0 hyy;obtain ⟨L, hL⟩ : ∃ L, L = (chnL f.mo P) := ⟨_, rfl⟩;rw [<- hL] at HPL HSZ HRI ⊢;have HLL := kQ hL;clear hL;have hL8 : L.length <= 8 := HPL.out.2.2.2;have HLS := kQ HPL.out.2.2.1
    have HBL : Hid (∀ n, n <= L.length -> (∀ j, j < n -> okS (f.S.getD j Sb0) (wdA i f.mo j) (L.getD j [])) -> (chB i f.mo f.S L n).length <= 800000000000) := fun n hn hok => by
     have h1 := chB_room i f.mo f.S L n (by omega) (fun j hj => ⟨hok j hj, by have := HSZ.out j (by omega); have := HOKC.out.1.2.1; omega⟩)
     have h2 : 90000000000 * n <= 90000000000 * 8 := Nat.mul_le_mul_left _ (by omega)
     omega
    have HKN : Hid ((∀ j, j < L.length -> okS (f.S.getD j Sb0) (wdA i f.mo j) (L.getD j [])) ↔ okF f i P) := by
     have g := (chn_all f i P HOKC.out ⟨HLC.out, HPK.out⟩).2.2.2;rw [<- HLL.out] at g;exact g
    have HSO : Hid (∀ n, n < L.length -> subOk (f.S.getD n Sb0) (L.getD n []).length (wdA i f.mo n)) := fun n hn => by
     rw [HSZ.out n hn]; exact HOKC.out.2.2 n (by have := HLS.out; omega)
    go_wp2_with fail
    go_loopw [16, 17] (fun s16 _ wr => ∃ (n : Nat) (aj : OA), n <= L.length /\ s16 = .int .i64 (n : Int) /\ (∀ j, j < n -> okS (f.S.getD j Sb0) (wdA i f.mo j) (L.getD j [])) /\ FV we y aj (chB i f.mo f.S L n) wr) (fun s16 _ _ => L.length - (intOf s16).toNat)
    case atStart => exact ⟨0, none, Nat.zero_le _, rfl, fun j hj => absurd hj (Nat.not_lt_zero _), HV0.out⟩
    case round =>
     clear HV0;obtain ⟨n, aj, hn, rfl, hok, hv_⟩ := hrel;have HOK := kQ hok;have HV := kQ hv_;clear hok hv_;by_cases hlt : n < L.length
     focus
      obtain ⟨sb, sf, rfl, q1⟩ := HS.out.lies (by have := HLS.out; omega)
      obtain ⟨ca, cc, pa, pc, ea, ec, m1, m2, m3⟩ := q1 n (by have := HLS.out; omega)
      have hnS : (n : Int) < (f.S.length : Int) := by have := HLS.out; omega
      have hnL : (n : Int) < (L.length : Int) := by omega
      have hn0 : (0 : Int) <= (n : Int) := by omega
      obtain ⟨rb, rf, rfl, q2⟩ := HRI.out (by omega)
      obtain ⟨la, lc, n1, n4⟩ := q2 n hlt;have KW : Hid (∀ aw Dw wx, Hid (FV we y aw (Dw) wx) -> Calls Tryz.prog 30 #[infV a b c d i e s, .int .i64 f.mo, .int .i64 (n : Int)] wx fun en w' => en = .returned (.int .i64 (wdA i f.mo n)) /\ Hid (FV we y aw (Dw) w')) := fun aw Dw wx hx => (xwidths11 a b c d i e s hwd f.mo n wx).mono fun en w' hh => ⟨hh.1, hx.out.low hh.2⟩
      have HC : Hid (∀ aw Dw wx, Hid (FV we y aw (Dw) wx) -> wx.cell? ⟨w.heap.size, 6, none⟩ = some (.int .i64 f.mo) /\ wx.cell? ⟨w.heap.size, 7, none⟩ = some (.slice (some ⟨sb, sf, none⟩) f.S.length sk) /\ wx.cell? ⟨w.heap.size + 1, 0, none⟩ = some (.int .i64 a) /\ wx.cell? ⟨w.heap.size + 1, 1, none⟩ = some (.int .i64 b) /\ wx.cell? ⟨w.heap.size + 1, 2, none⟩ = some (.int .i64 c) /\ wx.cell? ⟨w.heap.size + 1, 3, none⟩ = some (.int .i64 d) /\ wx.cell? ⟨w.heap.size + 1, 4, none⟩ = some (.int .i64 i.rate) /\ wx.cell? ⟨w.heap.size + 1, 5, none⟩ = some (.int .i64 i.ch) /\ wx.cell? ⟨w.heap.size + 1, 6, none⟩ = some (.int .i64 i.wd) /\ wx.cell? ⟨w.heap.size + 1, 7, none⟩ = some (.int .i64 e) /\ wx.cell? ⟨w.heap.size + 1, 8, none⟩ = some (.string s) /\ wx.cell? ⟨sb, sf + n * 10, none⟩ = some (.int .i64 (f.S.getD n Sb0).k) /\ wx.cell? ⟨sb, sf + n * 10 + 1, none⟩ = some (.int .i64 (f.S.getD n Sb0).o) /\ wx.cell? ⟨sb, sf + n * 10 + 2, none⟩ = some (.int .i64 (f.S.getD n Sb0).w) /\ wx.cell? ⟨sb, sf + n * 10 + 3, none⟩ = some (.int .i64 (f.S.getD n Sb0).p) /\ wx.cell? ⟨sb, sf + n * 10 + 4, none⟩ = some (.int .i64 (f.S.getD n Sb0).h) /\ wx.cell? ⟨sb, sf + n * 10 + 5, none⟩ = some (.slice ca (f.S.getD n Sb0).C.length cc) /\ wx.cell? ⟨sb, sf + n * 10 + 6, none⟩ = some (.int .i64 (f.S.getD n Sb0).R.m) /\ wx.cell? ⟨sb, sf + n * 10 + 7, none⟩ = some (.int .i64 (f.S.getD n Sb0).R.o) /\ wx.cell? ⟨sb, sf + n * 10 + 8, none⟩ = some (.slice pa (f.S.getD n Sb0).R.P.length pc) /\ wx.cell? ⟨sb, sf + n * 10 + 9, none⟩ = some (.slice ea (f.S.getD n Sb0).R.E.length ec) /\ wx.cell? ⟨rb, rf + n, none⟩ = some (.slice la (L.getD n []).length lc)) := fun aw Dw wx h => by
       have hfx := HE0.out.next h.out.lo;obtain ⟨f0, f1, f2, f3, f4, f5, f6, f7, i0, i1, i2, i3, i4, i5, i6, i7, i8⟩ := hfx.cells;have g := m1.keep (hfx.below.block _ (lt_cell m1.1));unfold SubIn at g;obtain ⟨x0, x1, x2, x3, x4, x5, x6, x7, x8, x9⟩ := g;have g2 : wx.cell? ⟨rb, rf + n, none⟩ = some (.slice la (L.getD n []).length lc) := by rw [World.cell?_of_block (w := we) (h.out.lo.block _ (lt_cell n1))]; exact n1
       exact ⟨f6, f7, i0, i1, i2, i3, i4, i5, i6, i7, i8, x0, x1, x2, x3, x4, x5, x6, x7, x8, x9, g2⟩
      have hbl := HBL.out n (by omega) HOK.out
      have hsu := HSO.out n hlt;have hw31 : (f.S.getD n Sb0).w <= 31 := by have h1 := hsu.2.2.1; have h2 := wdA_rng i f.mo n hwd; omega
      by_cases hs : goesOk (f.S.getD n Sb0) (wdA i f.mo n) (L.getD n [])
      focus
       have KE0 : Hid (∀ wx, Hid (FV we y aj (chB i f.mo f.S L n) wx) -> Calls Tryz.prog 29 #[.pointer (some ⟨y, 0, none⟩), subV (f.S.getD n Sb0) ca cc pa pc ea ec, .int .i64 (wdA i f.mo n), .slice la (L.getD n []).length lc] wx fun en w' => XEnd wx y aj (chB i f.mo f.S L n) (subB (f.S.getD n Sb0) (wdA i f.mo n) (L.getD n [])) true en w') := fun wx hx => xenc10 _ ca cc pa pc ea ec _ _ la lc y aj _ (by omega) wx (m2.below (HE0.out.next hx.out.lo).below) (n4.below hx.out.lo) hx.out.xw hsu hw31 true (tt_iff hs)
       have HSN : Hid (∀ j, j = n -> okS (f.S.getD j Sb0) (wdA i f.mo j) (L.getD j [])) := fun j hj => by rw [hj]; exact ⟨hsu, hs⟩
       have HNX : Hid (chB i f.mo f.S L (n + 1) = chB i f.mo f.S L n ++ subB (f.S.getD n Sb0) (wdA i f.mo n) (L.getD n [])) := rfl;clear hs q1 q2 m1 m2 m3 n1 n4 hsu hw31;generalize subB (f.S.getD n Sb0) (wdA i f.mo n) (L.getD n []) = SB at *;generalize L.getD n [] = l at *;generalize f.S.getD n Sb0 = q at *;generalize wdA i f.mo n = v at *;generalize chB i f.mo f.S L n = BJ at *
       have KE : Hid (∀ wx, Hid (FV we y aj (BJ) wx) -> Calls Tryz.prog 29 #[.pointer (some ⟨y, 0, none⟩), subV q ca cc pa pc ea ec, .int .i64 v, .slice la l.length lc] wx fun en w' => en = .returned (.int .i64 0) /\ ∃ a5, Hid (FV we y a5 (BJ ++ SB) w')) := fun wx hx => (KE0.out wx hx).mono fun en w' hh => by
        obtain ⟨h1, a5, h2, h3, h4⟩ := hh;exact ⟨h1, a5, hx.out.put h2 h3 h4⟩
      rotate_left
      focus
       have KE0 : Hid (∀ wx, Hid (FV we y aj (chB i f.mo f.S L n) wx) -> Calls Tryz.prog 29 #[.pointer (some ⟨y, 0, none⟩), subV (f.S.getD n Sb0) ca cc pa pc ea ec, .int .i64 (wdA i f.mo n), .slice la (L.getD n []).length lc] wx fun en w' => XEnd wx y aj (chB i f.mo f.S L n) (subB (f.S.getD n Sb0) (wdA i f.mo n) (L.getD n [])) false en w') := fun wx hx => xenc10 _ ca cc pa pc ea ec _ _ la lc y aj _ (by omega) wx (m2.below (HE0.out.next hx.out.lo).below) (n4.below hx.out.lo) hx.out.xw hsu hw31 false (ff_iff hs)
       have HF : Hid (T = ⟨#[]⟩ /\ r = 60) := HNO.out (fun hq => hs (HKN.out.2 hq n hlt).2);clear hs q1 q2 m1 m2 m3 n1 n4 hsu hw31;generalize subB (f.S.getD n Sb0) (wdA i f.mo n) (L.getD n []) = SB at *;generalize L.getD n [] = l at *;generalize f.S.getD n Sb0 = q at *;generalize wdA i f.mo n = v at *;generalize chB i f.mo f.S L n = BJ at *
       have KE : Hid (∀ wx, Hid (FV we y aj (BJ) wx) -> Calls Tryz.prog 29 #[.pointer (some ⟨y, 0, none⟩), subV q ca cc pa pc ea ec, .int .i64 v, .slice la l.length lc] wx fun en w' => en = .returned (.int .i64 60) /\ ∃ a5, Hid (FV we y a5 (BJ) w')) := fun wx hx => (KE0.out wx hx).mono fun en w' hh => by
        obtain ⟨h1, a5, h2, h3, h4⟩ := hh;exact ⟨h1, a5, hx.out.put h2 h3 h4⟩
      rotate_left
     rotate_left 2
     ·have HNL : Hid (n = L.length) := by show _ = _; omega
      have HOF : Hid (okF f i P) := HKN.out.1 (fun j hj => HOK.out j (by omega))
      have HFF := kQ (HYES.out HOF.out);have HBS : Hid (chB i f.mo f.S L n = subsB f i P f.S.length) := by show _ = _; rw [subsB_ch, <- HLL.out, HNL.out, HLS.out]
      have hso := subsB_ok f i P HOF.out;rw [HBS.out] at HV;generalize hDD : subsB f i P f.S.length = DD at *;have HDD := kQ hDD;clear hDD HBS HBL HKN HSO HOK;have HFX := kQ (HE0.out.next HV.out.lo);obtain ⟨f0, f1, f2, f3, f4, f5, f6, f7, i0, i1, i2, i3, i4, i5, i6, i7, i8⟩ := HFX.out.cells;have kh := xhead11 f so sk a b c d i e s hr HOKC.out.1 wr;generalize hTH : textOf (hedC f i) = th at *;have HTH := kQ hTH;have hsh : th.size <= 1000 := by rw [<- hTH, textOf_size]; have := hedC_room f i; omega
      clear hTH
      go_wp2_with fail
      refine kh.mono ?_;rintro en w4 ⟨rfl, hb4⟩;have HV4 := kQ (HV.out.low hb4);clear hb4 kh HV HFX f0 f1 f2 f3 f4 f5 f6 f7 i0 i1 i2 i3 i4 i5 i6 i7 i8;have kb := xbytes_spec y w4 aj DD hso.1 (by omega) HV4.out.xw
      generalize hTB : textOf (pack DD) = tb at *;have HTB := kQ hTB;have hsb : tb.size <= 200000000000 := by rw [<- hTB, textOf_size, pack_length]; omega
      have H01 := kQ hso.1;clear hTB hso
      go_wp2_with fail
      refine kb.mono ?_;rintro en w5 ⟨rfl, hb5⟩;have HV5 := kQ (HV4.out.low hb5);clear hb5 kb HV4;have hsum : ¬ (9223372036854775807 < th.size + tb.size) := by omega
      have hz2 : (th ++ tb).size = th.size + tb.size := ByteArray.size_append;have HTX : Hid (th ++ tb = textOf (hedC f i ++ pack DD)) := by show _ = _; rw [<- HTH.out, <- HTB.out, textOf_app]
      have HLT : Hid (∀ x ∈ hedC f i ++ pack DD, x < 256) := fun x hx => by
       rcases List.mem_append.1 hx with h | h
       ·exact hedC_lt f i HOKC.out.1 x h
       ·exact pack_lt _ H01.out x h
      have k16 := fun wx => S3.refCrc16_spec (th ++ tb) (by rw [hz2]; omega) wx
      have HCR : Hid (S3.c16 (th ++ tb) = crc16N (hedC f i ++ pack DD)) := by
       show _ = _;rw [HTX.out];unfold S3.c16 crc16N;rw [bytesOf_textOf _ HLT.out]
      rw [HCR.out] at k16;have hcl := crc16_lt (hedC f i ++ pack DD)
      have HFI : Hid (textOf (frL f i P) = th ++ tb ++ textOf (be2 (crc16N (hedC f i ++ pack DD)))) := by
       show _ = _;rw [HTX.out, textOf_app];unfold frL outL;rw [HDD.out]
      have kbe := fun wx => S2.refbe_spec (crc16N (hedC f i ++ pack DD) : Int) 2 (by omega) (by omega) wx
      rw [be_two _ hcl] at kbe;clear HCR HTX HLT hz2;generalize crc16N (hedC f i ++ pack DD) = cr at *;generalize hT2 : textOf (be2 cr) = t2 at *;have hs2 : t2.size <= 2 := by rw [<- hT2, textOf_size]; exact Nat.le_refl _
      clear hT2;have hsum2 : ¬ (9223372036854775807 < th.size + tb.size + t2.size) := by omega
      go_wp2_with fail
      refine (k16 _).mono ?_;rintro en w6 ⟨rfl, hw6⟩;have hw7 := hw6.symm;clear hw6;subst hw7
      go_wp2_with fail
      refine (kbe _).mono ?_;rintro en w7 ⟨rfl, hb7⟩;have HV7 := kQ (HV5.out.low hb7);clear hb7 HV5
      go_wp2_with fail
      go_ret2
      exact ⟨by rw [HFF.out.1, HFF.out.2, HFI.out]; rfl, (HE0.out.next HV7.out.lo).below⟩
     all_goals
      clear KE0;have HD : Hid (FV we y aj (BJ) wr.drew) := HV.out.low dQ;clear HV
      go_wp2_with fail
      go_region_held3 (fun wx => wx.cell? ⟨w.heap.size, 6, none⟩ = some (.int .i64 f.mo) /\ wx.cell? ⟨w.heap.size, 7, none⟩ = some (.slice (some ⟨sb, sf, none⟩) f.S.length sk) /\ wx.cell? ⟨w.heap.size + 1, 0, none⟩ = some (.int .i64 a) /\ wx.cell? ⟨w.heap.size + 1, 1, none⟩ = some (.int .i64 b) /\ wx.cell? ⟨w.heap.size + 1, 2, none⟩ = some (.int .i64 c) /\ wx.cell? ⟨w.heap.size + 1, 3, none⟩ = some (.int .i64 d) /\ wx.cell? ⟨w.heap.size + 1, 4, none⟩ = some (.int .i64 i.rate) /\ wx.cell? ⟨w.heap.size + 1, 5, none⟩ = some (.int .i64 i.ch) /\ wx.cell? ⟨w.heap.size + 1, 6, none⟩ = some (.int .i64 i.wd) /\ wx.cell? ⟨w.heap.size + 1, 7, none⟩ = some (.int .i64 e) /\ wx.cell? ⟨w.heap.size + 1, 8, none⟩ = some (.string s) /\ wx.cell? ⟨sb, sf + n * 10, none⟩ = some (.int .i64 q.k) /\ wx.cell? ⟨sb, sf + n * 10 + 1, none⟩ = some (.int .i64 q.o) /\ wx.cell? ⟨sb, sf + n * 10 + 2, none⟩ = some (.int .i64 q.w) /\ wx.cell? ⟨sb, sf + n * 10 + 3, none⟩ = some (.int .i64 q.p) /\ wx.cell? ⟨sb, sf + n * 10 + 4, none⟩ = some (.int .i64 q.h) /\ wx.cell? ⟨sb, sf + n * 10 + 5, none⟩ = some (.slice ca q.C.length cc) /\ wx.cell? ⟨sb, sf + n * 10 + 6, none⟩ = some (.int .i64 q.R.m) /\ wx.cell? ⟨sb, sf + n * 10 + 7, none⟩ = some (.int .i64 q.R.o) /\ wx.cell? ⟨sb, sf + n * 10 + 8, none⟩ = some (.slice pa q.R.P.length pc) /\ wx.cell? ⟨sb, sf + n * 10 + 9, none⟩ = some (.slice ea q.R.E.length ec) /\ wx.cell? ⟨rb, rf + n, none⟩ = some (.slice la l.length lc)) (exact HC.out _ _ _ (by assumption))
       (first
        | (go_at_call 30; refine (KW.out _ _ _ (by assumption)).mono ?_; rintro en w4 ⟨rfl, h4⟩)
        | (go_at_call 29; refine (KE.out _ (by assumption)).mono ?_; rintro en w5 ⟨rfl, a5, h5⟩))
      go_wp2_with fail
     ·go_roundw
      case rel =>
       refine ⟨n + 1, a5, by omega, by go_num, fun j hj => ?_, by rw [HNX.out]; exact h5.out⟩
       by_cases ej : j = n
       ·exact HSN.out j ej
       ·exact HOK.out j (by omega)
      case measure => simp [intOf]; omega
     ·go_ret2
      exact ⟨by rw [HF.out.1, HF.out.2]; rfl, (HE0.out.next h5.out.lo).below⟩
  all_goals
   clear hs;have HD := kQ HW_.out.drew
   go_wp2_with fail
   clear HW_ f0 f1 f2 f3 f4 f5 f6 f7 i0 i1 i2 i3 i4 i5 i6 i7 i8;refine wp_region_held_drew (S := fun wx => FX w f so sk a b c d i e s wx) (by kernel_rfl) (HD.out) (fun hS => ?_)
   refine vQ 0 (.slice (some ⟨bp, off, none⟩) P.length pk) hS ?_;simp only [SL];refine vQ 1 (.int .i64 (n : Int)) hS ?_;simp only [SL];refine vQ 2 (.pointer (some ⟨bp, off + n, none⟩)) hS ?_;simp only [SL];refine uQ 3 (.slice la l.length lc) rfl hS (Or.inl ⟨by rfl, fun w hSw => by have r1 := HC1.out w hSw.below; go_simp⟩) ?_
   simp only [SL];refine vQ 4 (.int .i64 (l.length : Int)) hS ?_;simp only [SL];refine vQ 5 (.pointer (some ⟨w.heap.size, 2, none⟩)) hS ?_;simp only [SL];refine uQ 6 (.int .i64 f.size) rfl hS (Or.inl ⟨by rfl, fun w hSw => by obtain ⟨f0, f1, f2, f3, f4, f5, f6, f7, i0, i1, i2, i3, i4, i5, i6, i7, i8⟩ := hSw.cells; go_simp⟩) ?_
   simp only [SL]
  ·refine vQ 7 (.bool false) hS ?_
   simp only [SL];refine wpAnyH_done (by kernel_rfl) ?_ _
   go_wp2_with fail
   go_loopw [10] (fun s10 wr => ∃ k : Nat, k <= l.length /\ s10 = .int .i64 (k : Int) /\ (∀ j, j < k -> sigE (l.getD j 0) i.wd = 0) /\ FX w f so sk a b c d i e s wr) (fun s10 _ => l.length - (intOf s10).toNat)
   case atStart => exact ⟨0, Nat.zero_le _, rfl, fun j hj => absurd hj (Nat.not_lt_zero _), HD.out⟩
   case round =>
    clear HD;obtain ⟨k, hk, rfl, hok, hfx⟩ := hrel;have HOK2 := kQ hok;have HW_ := kQ hfx;clear hok hfx;obtain ⟨f0, f1, f2, f3, f4, f5, f6, f7, i0, i1, i2, i3, i4, i5, i6, i7, i8⟩ := HW_.out.cells;by_cases hkl : k < l.length
    focus
     obtain ⟨lb, lf, rfl⟩ := HI.out.addr (by omega)
     have hdk : decide ((k : Int) < f.size) = true := decide_eq_true (by have := HS.out; omega)
     have HC2 : Hid (∀ wx, Lo w wx -> wx.cell? ⟨lb, lf + k, none⟩ = some (.int .i64 (l.getD k 0))) := fun wx hb => (HI.out.below hb).get k hkl
     have HKF : Hid (∀ wx, G0 27 #[.int .i64 (l.getD k 0), .int .i64 i.wd] wx (.bool (decide (sigE (l.getD k 0) i.wd = 0)))) := fun wx => by
      have hn := HI.out.num _ (getD_mem l k hkl);have e : ((i.wd.toNat : Nat) : Int) = i.wd := by omega
      have kk := fits_in (l.getD k 0) hn.1 hn.2 i.wd.toNat (by omega) (by omega) wx
      rw [e] at kk;refine kk.mono fun en w' hh => ⟨by rw [hh.1]; congr 2; exact decide_eq_decide.2 ⟨fun h => (sigE_iff _ _).2 ⟨by omega, by omega, h.1, h.2⟩, fun h => ((sigE_iff _ _).1 h).2.2⟩, hh.2⟩
     have HE2 : Hid (∀ j, j = k -> l.getD j 0 = l.getD k 0) := fun j hj => by rw [hj]
     have HM2 : Hid (l.getD k 0 ∈ l) := getD_mem l k hkl;generalize l.getD k 0 = xv at *;have hkP : (n : Int) < (P.length : Int) := by omega
     have hkL : (k : Int) < (l.length : Int) := by omega
     have hn0 : (0 : Int) <= (n : Int) := by omega
     have hk0 : (0 : Int) <= (k : Int) := by omega
     by_cases hfit : sigE xv i.wd = 0
     focus
      have KF : Hid (∀ wx, Hid (FX w f so sk a b c d i e s wx) -> Calls Tryz.prog 27 #[.int .i64 xv, .int .i64 i.wd] wx fun en w' => en = .returned (.bool true) /\ Hid (FX w f so sk a b c d i e s w')) := fun wx hx => (HKF.out wx).mono fun en w' hh => ⟨by rw [hh.1, decide_eq_true hfit], by rw [hh.2]; exact hx⟩
      have HFI := kQ hfit
     rotate_left
     focus
      have KF : Hid (∀ wx, Hid (FX w f so sk a b c d i e s wx) -> Calls Tryz.prog 27 #[.int .i64 xv, .int .i64 i.wd] wx fun en w' => en = .returned (.bool false) /\ Hid (FX w f so sk a b c d i e s w')) := fun wx hx => (HKF.out wx).mono fun en w' hh => ⟨by rw [hh.1, decide_eq_false hfit], by rw [hh.2]; exact hx⟩
      have HF : Hid (T = ⟨#[]⟩ /\ r = 60) := HNO.out (fun hq => hfit ((hq.2.1.2 l HM.out).2 xv HM2.out))
     rotate_left
    rotate_left 2
    ·have hdk : decide ((k : Int) < f.size) = false := decide_eq_false (by have := HS.out; omega)
     go_wp2_with fail
     go_roundw
     case rel =>
      refine ⟨n + 1, by omega, by go_num, fun j hj => ?_, HW_.out⟩
      by_cases ej : j = n
      ·rw [HE.out j ej]
       refine ⟨HS.out, fun x hx => ?_⟩;obtain ⟨t, ht, e⟩ := List.mem_iff_getElem.1 hx;have := HOK2.out t (by omega)
       rw [List.getD_eq_getElem?_getD, List.getElem?_eq_getElem ht] at this;rw [<- e]; exact this
      ·exact HOK.out j (by omega)
     case measure => simp [intOf]; omega
    all_goals
     clear hfit HKF;have HD := kQ HW_.out.drew
     go_wp2_with fail
     clear HW_ f0 f1 f2 f3 f4 f5 f6 f7 i0 i1 i2 i3 i4 i5 i6 i7 i8;refine wp_region_held_drew (S := fun wx => FX w f so sk a b c d i e s wx) (by kernel_rfl) (HD.out) (fun hS => ?_)
     refine vQ 0 (.slice (some ⟨bp, off, none⟩) P.length pk) hS ?_;simp only [SL];refine vQ 1 (.int .i64 (n : Int)) hS ?_;simp only [SL];refine vQ 2 (.pointer (some ⟨bp, off + n, none⟩)) hS ?_;simp only [SL];refine uQ 3 (.slice (some ⟨lb, lf, none⟩) l.length lc) rfl hS (Or.inl ⟨by rfl, fun w hSw => by have r1 := HC1.out w hSw.below; go_simp⟩) ?_
     simp only [SL];refine vQ 4 (.int .i64 (k : Int)) hS ?_;simp only [SL];refine vQ 5 (.pointer (some ⟨lb, lf + k, none⟩)) hS ?_;simp only [SL];refine uQ 6 (.int .i64 xv) rfl hS (Or.inl ⟨by rfl, fun w hSw => by have r1 := HC2.out w hSw.below; go_simp⟩) ?_
     simp only [SL];refine vQ 7 (.pointer (some ⟨w.heap.size + 1, 6, none⟩)) hS ?_;simp only [SL];refine uQ 8 (.int .i64 i.wd) rfl hS (Or.inl ⟨by rfl, fun w hSw => by obtain ⟨f0, f1, f2, f3, f4, f5, f6, f7, i0, i1, i2, i3, i4, i5, i6, i7, i8⟩ := hSw.cells; go_simp⟩) ?_
     simp only [SL];refine wpAnyH_ready (rs := [9]) (by kernel_rfl) (by simp) ?_
     refine AllReadyH.cons rfl (fun K hK => ?_) AllReadyH.nil;go_simp;refine (KF.out _ hS).mono ?_;rintro en w4 ⟨rfl, h4⟩;refine hK.out _ _ h4.out (fun hSw4 => ?_);clear hK K
     try simp only [SL]
    ·refine vQ 10 (.bool false) hSw4 ?_
     simp only [SL];refine wpAnyH_done (by kernel_rfl) ?_ _
     go_wp2_with fail
     go_roundw
     case rel =>
      refine ⟨k + 1, by omega, by go_num, fun j hj => ?_, h4.out⟩
      by_cases ej : j = k
      ·rw [HE2.out j ej]; exact HFI.out
      ·exact HOK2.out j (by omega)
     case measure => simp [intOf]; omega
    ·refine vQ 10 (.bool true) hSw4 ?_
     simp only [SL];refine wpAnyH_done (by kernel_rfl) ?_ _
     go_wp2_with fail
     go_ret2
     exact ⟨by rw [HF.out.1, HF.out.2]; rfl, h4.out.below⟩
  ·refine vQ 7 (.bool true) hS ?_
   simp only [SL];refine wpAnyH_done (by kernel_rfl) ?_ _
   go_wp2_with fail
   go_ret2
   exact ⟨by rw [HF.out.1, HF.out.2]; rfl, HD.out.below⟩
theorem xbuild11 (f : Fm) (so : OA) (sk : Nat) (a b c d : Int) (i : Inf) (e : Int) (s : ByteArray) (hr : I64 i.rate) (P : List (List Int)) (po : OA) (pk : Nat) (w : World) (hf : FmAt w f so sk) (hP : RowsAt w po P) (T : ByteArray) (r : Int) (HYES : Hid (okF f i P -> T = textOf (frL f i P) /\ r = 0)) (HNO : Hid (¬ okF f i P -> T = ⟨#[]⟩ /\ r = 60)) : Calls Tryz.prog 9 #[fmV f so sk, infV a b c d i e s, .slice po P.length pk] w fun en w' => en = .returned (.tuple #[.string T, .int .i64 r]) /\ Lo w w' := by
 by_cases h1 : okC f i
 case neg => exact xbd_chk f so sk a b c d i e s hr P po pk w hf hP T r HYES HNO h1
 by_cases h2 : (P.length : Int) = i.ch
 case neg => exact xbd_len f so sk a b c d i e s hr P po pk w hf hP T r HYES HNO h1 h2
 exact xbd_main f so sk a b c d i e s hr P po pk w hf hP T r HYES HNO h1 h2
end Go.Proofs.YtfpfabmbipmipaaGreatDoor
