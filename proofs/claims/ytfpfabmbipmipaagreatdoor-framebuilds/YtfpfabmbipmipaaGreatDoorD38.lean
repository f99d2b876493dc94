/- Own text. -/
import Derived.Test.YtfpfabmbipmipaaGreatDoorD37
set_option linter.unusedSimpArgs false
set_option linter.unusedVariables false
set_option maxRecDepth 20000
set_option maxHeartbeats 12800000
namespace Go.Proofs.YtfpfabmbipmipaaGreatDoor
open Go.RowKit
structure FW (w : World) (f : Fm) (so : OA) (sk : Nat) (a b c d : Int) (i : Inf) (e : Int) (s : ByteArray) (y : Nat) (aj : OA) (D : List Nat) (wx : World) : Prop where
 fx : FX w f so sk a b c d i e s wx
 xw : XwB wx y aj D
 lt : w.heap.size + 1 < y
 nb : ∀ b, blockOf aj = some b -> w.heap.size + 1 < b
section
variable {w wx w' : World} {f : Fm} {so : OA} {sk : Nat} {a b c d : Int} {i : Inf} {e : Int} {s : ByteArray} {y : Nat} {aj aj' : OA} {D D' : List Nat}
theorem FW.start (h : FX w f so sk a b c d i e s wx) : FW w f so sk a b c d i e s wx.heap.size none [] (wx.alloc (.cells #[.slice none 0 0] 62)) :=
 ⟨h.next aQ, XwB.new wx, lt_of_block h.ib, fun b hb => by cases hb⟩
theorem FW.low (h : FW w f so sk a b c d i e s y aj D wx) (hb : Lo wx w') : FW w f so sk a b c d i e s y aj D w' := ⟨h.fx.next hb, h.xw.below hb, h.lt, h.nb⟩
theorem FW.put (h : FW w f so sk a b c d i e s y aj D wx) (hw : XwB w' y aj' D') (hS : Stays (foot y aj) wx w') (hM : Moved wx.heap.size aj aj') : FW w f so sk a b c d i e s y aj' D' w' := by
 have hl := lt_of_block h.fx.ib
 have hl0 := lt_of_block h.fx.fb
 have hlt := h.lt
 have key : ∀ g, g <= w.heap.size + 1 -> w'.heap[g]? = wx.heap[g]? := fun g hg => hS.block g (by omega) (fun hf => by
  rcases hf with hf | hf
  ·omega
  ·have := h.nb _ hf; omega)
 refine ⟨⟨by rw [key _ (by omega)]; exact h.fx.fb, by rw [key _ (Nat.le_refl _)]; exact h.fx.ib, h.fx.below.trans (foot_below hS h.fx.below.size (by omega) (fun b hb => by have := h.nb b hb; omega))⟩, hw, h.lt, fun b hb => ?_⟩
 rcases hM b hb with h1 | h1
 ·exact h.nb b h1
 ·omega
end
theorem textOf_app (a b : List Nat) : textOf a ++ textOf b = textOf (a ++ b) := by
 apply ByteArray.ext
 unfold textOf
 simp [ByteArray.data_append]
theorem put_14_1 : putB 16382 14 ++ putB 0 1 = putB 32764 15 := by decide
theorem four_lt (f : Fm) (i : Inf) (h : okH f i) : (∀ b ∈ fourL f i, b < 256) /\ (∀ b ∈ sizL f ++ ratL f i, b < 256) := by
 have g := hedL_lt f i h
 unfold hedL at g
 refine ⟨fun b hb => g b ?_, fun b hb => g b ?_⟩
 ·exact List.mem_append.2 (.inl (List.mem_append.2 (.inl (List.mem_append.2 (.inl hb)))))
 ·rcases List.mem_append.1 hb with h1 | h1
  ·exact List.mem_append.2 (.inl (List.mem_append.2 (.inr h1)))
  ·exact List.mem_append.2 (.inr h1)
theorem sizL_le (f : Fm) : (sizL f).length <= 2 := by unfold sizL; split; simp; split <;> simp
theorem ratL_le (f : Fm) (i : Inf) : (ratL f i).length <= 2 := by unfold ratL; split; simp; split; simp; split <;> simp
theorem code_size (n : Nat) : (textOf (codeL n (clen n))).size <= 7 := by rw [textOf_size, codeL_length]; exact (clen_range n).2
theorem xhead11 (f : Fm) (so : OA) (sk : Nat) (a b c d : Int) (i : Inf) (e : Int) (s : ByteArray) (hr : I64 i.rate) (hok : okH f i) (w : World) : Calls Tryz.prog 31 #[fmV f so sk, infV a b c d i e s] w fun en w' => en = .returned (.string (textOf (hedC f i))) /\ Lo w w' := by
 have HOK := kQ hok
 have hch : 1 <= i.ch /\ i.ch <= 8 := hok.1.1
 have hsc : 1 <= f.sc /\ f.sc <= 15 := hok.2.2.2.2.1.1
 have hrc : 0 <= f.rc /\ f.rc <= 14 := by have := rc_rng hok.2.2.2.2.2.1; omega
 have hwc : 0 <= f.wc /\ f.wc <= 6 := by have := wc_rng hok.2.2.2.2.2.2; omega
 have hmo : 0 <= f.mo /\ f.mo <= 3 := ⟨hok.2.2.2.1.1, hok.2.2.2.1.2.1⟩
 have hsz : 1 <= f.size /\ f.size <= 4608 := hok.2.1
 have hnum : 0 <= f.num /\ f.num < 68719476736 := num36 hok
 have hrt : 1 <= i.rate /\ i.rate <= 9223372036854775807 := ⟨hok.1.2.2, hr.2⟩
 clear hok hr
 have HA : Hid (FX w f so sk a b c d i e s ((w.alloc (.cells (fmC f so sk) 24)).alloc (.cells (infC a b c d i e s) 26))) := FX.new w f so sk a b c d i e s
 go_enter Tryz.func31, Tryz.ntmps31
 go_upto_region 1 with fail
 generalize World.alloc _ _ = wa at *
 have H0a : Hid (FW w f so sk a b c d i e s wa.heap.size none ([]) (wa.alloc (.cells #[.slice none 0 0] 62))) := FW.start HA.out
 go_upto_region 2 with fail
 generalize hw1 : World.alloc _ _ = w1 at *
 generalize wa.heap.size = y at *
 clear hw1 HA
 obtain ⟨D1, hD1⟩ : ∃ X : List Nat, X = [] := ⟨_, rfl⟩
 obtain ⟨a1, ha1⟩ : ∃ X : OA, X = none := ⟨_, rfl⟩
 rw [<- hD1, <- ha1] at H0a
 have H1 := H0a
 have E1 := kQ hD1
 have l1 : D1.length <= 0 := by rw [hD1]; exact Nat.le_refl _
 clear hD1 ha1 H0a
 obtain ⟨f0, f1, f2, f3, f4, f5, f6, f7, i0, i1, i2, i3, i4, i5, i6, i7, i8⟩ := H1.out.fx.cells
 have kp := xput_all w1 a1 D1 y 16382 14 (by omega) (by omega) (by omega) H1.out.xw
 go_wp2_with fail
 refine kp.mono ?_
 rintro en w2 ⟨rfl, a2, hw', hs', hm'⟩
 obtain ⟨D2, hD'⟩ : ∃ X, X = D1 ++ putB 16382 14 := ⟨_, rfl⟩
 rw [<- hD'] at hw'
 have E2 : Hid (D2 = D1 ++ putB 16382 14) := hD'
 have l2 : D2.length <= 40000000 := by rw [hD', List.length_append]; have := putB_len 16382 14; omega
 have H2 := kQ (H1.out.put hw' hs' hm')
 clear hw' hs' hm' kp hD' H1
 clear f0 f1 f2 f3 f4 f5 f6 f7 i0 i1 i2 i3 i4 i5 i6 i7 i8
 obtain ⟨f0, f1, f2, f3, f4, f5, f6, f7, i0, i1, i2, i3, i4, i5, i6, i7, i8⟩ := H2.out.fx.cells
 have kp := xput_all w2 a2 D2 y 0 1 (by omega) (by omega) (by omega) H2.out.xw
 go_wp2_with fail
 refine kp.mono ?_
 rintro en w3 ⟨rfl, a3, hw', hs', hm'⟩
 obtain ⟨D3, hD'⟩ : ∃ X, X = D2 ++ putB 0 1 := ⟨_, rfl⟩
 rw [<- hD'] at hw'
 have E3 : Hid (D3 = D2 ++ putB 0 1) := hD'
 have l3 : D3.length <= 60000000 := by rw [hD', List.length_append]; have := putB_len 0 1; omega
 have H3 := kQ (H2.out.put hw' hs' hm')
 clear hw' hs' hm' kp hD' H2
 clear f0 f1 f2 f3 f4 f5 f6 f7 i0 i1 i2 i3 i4 i5 i6 i7 i8
 obtain ⟨f0, f1, f2, f3, f4, f5, f6, f7, i0, i1, i2, i3, i4, i5, i6, i7, i8⟩ := H3.out.fx.cells
 obtain ⟨D4, hD4⟩ : ∃ X, X = D3 ++ putB (if f.v then 1 else 0) 1 := ⟨_, rfl⟩
 have E4 := kQ hD4
 have l4 : D4.length <= 80000000 := by rw [hD4, List.length_append]; have := putB_len (if f.v then 1 else 0) 1; omega
 clear hD4
 go_upto_if 17 with fail
 go_cut [17] from 16 to 21 (fun _ wx => ∃ aj, FW w f so sk a b c d i e s y aj (D4) wx)
 case first =>
  have kt := xput_all w3 a3 D3 y 1 1 (by omega) (by omega) (by omega) H3.out.xw
  have kf := xput_all w3 a3 D3 y 0 1 (by omega) (by omega) (by omega) H3.out.xw
  go_wp2_with fail
  ·have HV : Hid (f.v = true) := by show f.v = true; assumption
   refine kt.mono ?_;rintro en w8 ⟨rfl, a8, hw', hs', hm'⟩
   go_wp2_with fail
   go_meet
   exact ⟨a8, by rw [E4.out, if_pos HV.out]; exact H3.out.put hw' hs' hm'⟩
  ·have HV : Hid (f.v = false) := by show f.v = false; assumption
   refine kf.mono ?_;rintro en w8 ⟨rfl, a8, hw', hs', hm'⟩
   go_wp2_with fail
   go_meet
   exact ⟨a8, by rw [E4.out, if_neg (by rw [HV.out]; decide)]; exact H3.out.put hw' hs' hm'⟩
 case rest =>
  clear H3 f0 f1 f2 f3 f4 f5 f6 f7 i0 i1 i2 i3 i4 i5 i6 i7 i8;obtain ⟨a4, hfw⟩ := hcut;obtain ⟨w4, hw4⟩ : ∃ X, X = wc := ⟨_, rfl⟩;rw [<- hw4] at hfw ⊢;clear hw4;have H4 := kQ hfw;clear hfw;obtain ⟨f0, f1, f2, f3, f4, f5, f6, f7, i0, i1, i2, i3, i4, i5, i6, i7, i8⟩ := H4.out.fx.cells;have hcu : IntKind.u64.wrap (f.sc) = f.sc := by rw [IntKind.wrap_u64]; omega
  have kp := xput_all w4 a4 D4 y f.sc 4 (by omega) (by omega) (by omega) H4.out.xw
  go_wp2_with fail
  refine kp.mono ?_;rintro en w5 ⟨rfl, a5, hw', hs', hm'⟩;obtain ⟨D5, hD'⟩ : ∃ X, X = D4 ++ putB f.sc 4 := ⟨_, rfl⟩;rw [<- hD'] at hw';have E5 : Hid (D5 = D4 ++ putB f.sc 4) := hD';have l5 : D5.length <= 100000000 := by rw [hD', List.length_append]; have := putB_len f.sc 4; omega
  have H5 := kQ (H4.out.put hw' hs' hm');clear hw' hs' hm' kp hD' H4;clear f0 f1 f2 f3 f4 f5 f6 f7 i0 i1 i2 i3 i4 i5 i6 i7 i8;obtain ⟨f0, f1, f2, f3, f4, f5, f6, f7, i0, i1, i2, i3, i4, i5, i6, i7, i8⟩ := H5.out.fx.cells;clear hcu;have hcu : IntKind.u64.wrap (f.rc) = f.rc := by rw [IntKind.wrap_u64]; omega
  have kp := xput_all w5 a5 D5 y f.rc 4 (by omega) (by omega) (by omega) H5.out.xw
  go_wp2_with fail
  refine kp.mono ?_;rintro en w6 ⟨rfl, a6, hw', hs', hm'⟩;obtain ⟨D6, hD'⟩ : ∃ X, X = D5 ++ putB f.rc 4 := ⟨_, rfl⟩;rw [<- hD'] at hw';have E6 : Hid (D6 = D5 ++ putB f.rc 4) := hD';have l6 : D6.length <= 120000000 := by rw [hD', List.length_append]; have := putB_len f.rc 4; omega
  have H6 := kQ (H5.out.put hw' hs' hm');clear hw' hs' hm' kp hD' H5;clear f0 f1 f2 f3 f4 f5 f6 f7 i0 i1 i2 i3 i4 i5 i6 i7 i8;obtain ⟨f0, f1, f2, f3, f4, f5, f6, f7, i0, i1, i2, i3, i4, i5, i6, i7, i8⟩ := H6.out.fx.cells;clear hcu;obtain ⟨D7, hD7⟩ : ∃ X, X = D6 ++ putB (if f.mo = 0 then i.ch - 1 else 7 + f.mo) 4 := ⟨_, rfl⟩
  have E7 := kQ hD7;have l7 : D7.length <= 140000000 := by rw [hD7, List.length_append]; have := putB_len (if f.mo = 0 then i.ch - 1 else 7 + f.mo) 4; omega
  clear hD7
  go_upto_if 34 with fail
  go_cut [34] from 32 to 46 (fun _ wx => ∃ aj, FW w f so sk a b c d i e s y aj (D7) wx)
  case first =>
   by_cases gm : f.mo = 0
   focus
    have HE : Hid (D7 = D6 ++ putB (i.ch - 1) 4) := by show _ = _; rw [E7.out, if_pos gm]
    have hmb : (f.mo == 0) = true := by rw [beq_iff_eq]; exact gm
    clear gm;have hcw : wrap64 (i.ch - 1) = i.ch - 1 := by unfold wrap64; omega
    have hcu : IntKind.u64.wrap (i.ch - 1) = i.ch - 1 := by rw [IntKind.wrap_u64]; omega
    have kt := xput_all w6 a6 D6 y (i.ch - 1) 4 (by omega) (by omega) (by omega) H6.out.xw
   rotate_left
   focus
    have HE : Hid (D7 = D6 ++ putB (7 + f.mo) 4) := by show _ = _; rw [E7.out, if_neg gm]
    have hmb : (f.mo == 0) = false := by rw [beq_eq_false_iff_ne]; exact gm
    clear gm;have hcw : wrap64 (7 + f.mo) = 7 + f.mo := by unfold wrap64; omega
    have hcu : IntKind.u64.wrap (7 + f.mo) = 7 + f.mo := by rw [IntKind.wrap_u64]; omega
    have kt := xput_all w6 a6 D6 y (7 + f.mo) 4 (by omega) (by omega) (by omega) H6.out.xw
   rotate_left
   all_goals
    go_wp2_with fail
    refine kt.mono ?_;rintro en w8 ⟨rfl, a8, hw', hs', hm'⟩
    go_wp2_with fail
    go_meet
    exact ⟨a8, by rw [HE.out]; exact H6.out.put hw' hs' hm'⟩
  case rest =>
   clear H6 f0 f1 f2 f3 f4 f5 f6 f7 i0 i1 i2 i3 i4 i5 i6 i7 i8;obtain ⟨a7, hfw⟩ := hcut;obtain ⟨w7, hw7⟩ : ∃ X, X = wc := ⟨_, rfl⟩;rw [<- hw7] at hfw ⊢;clear hw7;have H7 := kQ hfw;clear hfw;obtain ⟨f0, f1, f2, f3, f4, f5, f6, f7, i0, i1, i2, i3, i4, i5, i6, i7, i8⟩ := H7.out.fx.cells;have hcu : IntKind.u64.wrap (f.wc) = f.wc := by rw [IntKind.wrap_u64]; omega
   have kp := xput_all w7 a7 D7 y f.wc 3 (by omega) (by omega) (by omega) H7.out.xw
   go_wp2_with fail
   refine kp.mono ?_;rintro en w8 ⟨rfl, a8, hw', hs', hm'⟩;obtain ⟨D8, hD'⟩ : ∃ X, X = D7 ++ putB f.wc 3 := ⟨_, rfl⟩;rw [<- hD'] at hw';have E8 : Hid (D8 = D7 ++ putB f.wc 3) := hD';have l8 : D8.length <= 160000000 := by rw [hD', List.length_append]; have := putB_len f.wc 3; omega
   have H8 := kQ (H7.out.put hw' hs' hm');clear hw' hs' hm' kp hD' H7;clear f0 f1 f2 f3 f4 f5 f6 f7 i0 i1 i2 i3 i4 i5 i6 i7 i8;obtain ⟨f0, f1, f2, f3, f4, f5, f6, f7, i0, i1, i2, i3, i4, i5, i6, i7, i8⟩ := H8.out.fx.cells;clear hcu;have kp := xput_all w8 a8 D8 y 0 1 (by omega) (by omega) (by omega) H8.out.xw
   go_wp2_with fail
   refine kp.mono ?_;rintro en w9 ⟨rfl, a9, hw', hs', hm'⟩;obtain ⟨D9, hD'⟩ : ∃ X, X = D8 ++ putB 0 1 := ⟨_, rfl⟩;rw [<- hD'] at hw';have E9 : Hid (D9 = D8 ++ putB 0 1) := hD';have l9 : D9.length <= 180000000 := by rw [hD', List.length_append]; have := putB_len 0 1; omega
   have H9 := kQ (H8.out.put hw' hs' hm');clear hw' hs' hm' kp hD' H8;clear f0 f1 f2 f3 f4 f5 f6 f7 i0 i1 i2 i3 i4 i5 i6 i7 i8;obtain ⟨f0, f1, f2, f3, f4, f5, f6, f7, i0, i1, i2, i3, i4, i5, i6, i7, i8⟩ := H9.out.fx.cells
   have HD9 : Hid (D9 = sbits (fourL f i)) := by
    show _ = _;rw [E9.out, E8.out, E7.out, E6.out, E5.out, E4.out, E3.out, E2.out, E1.out, List.nil_append, <- four_put f i HOK.out, <- put_14_1]
   have H01 : Hid (Bits01 D9) := by show Bits01 D9; rw [HD9.out]; exact sbits_01 _
   have HT1 : Hid (textOf (pack D9) = textOf (fourL f i)) := by show _ = _; rw [HD9.out, pack_sbits _ (four_lt f i HOK.out).1]
   clear E1 E2 E3 E4 E5 E6 E7 E8 E9 HD9;obtain ⟨nm, hnm⟩ : ∃ n : Nat, f.num = n := ⟨f.num.toNat, by omega⟩
   have HNM : Hid (f.num.toNat = nm) := by show _ = _; omega
   have kc := S2.refcoded_spec f.num (by omega) (by omega) w9
   rw [show S2.codT f.num = textOf (codeL nm (clen nm)) from by rw [hnm]; exact S2.codT_nat nm (by omega)] at kc
   clear hnm;generalize hT2 : textOf (codeL nm (clen nm)) = t2 at *;have HT2 := kQ hT2;have hs2 : t2.size <= 7 := by rw [<- hT2]; exact code_size nm
   clear hT2
   go_wp2_with fail
   refine kc.mono ?_;rintro en w10 ⟨rfl, hb⟩;have H10 := kQ (H9.out.low hb);clear hb H9 kc f0 f1 f2 f3 f4 f5 f6 f7 i0 i1 i2 i3 i4 i5 i6 i7 i8;obtain ⟨f0, f1, f2, f3, f4, f5, f6, f7, i0, i1, i2, i3, i4, i5, i6, i7, i8⟩ := H10.out.fx.cells;have kb := xbytes_spec y w10 a9 D9 H01.out (by omega) H10.out.xw
   rw [HT1.out] at kb;generalize hT1 : textOf (fourL f i) = t1 at *;have HT1b := kQ hT1;have hs1 : t1.size <= 4 := by rw [<- hT1, textOf_size]; unfold fourL; simp
   clear hT1 HT1
   go_wp2_with fail
   refine kb.mono ?_;rintro en w11 ⟨rfl, hb⟩;have H11 := kQ (H10.out.low hb);clear hb H10 kb f0 f1 f2 f3 f4 f5 f6 f7 i0 i1 i2 i3 i4 i5 i6 i7 i8;have hsum : ¬ (9223372036854775807 < t1.size + t2.size) := by omega
   obtain ⟨f0, f1, f2, f3, f4, f5, f6, f7, i0, i1, i2, i3, i4, i5, i6, i7, i8⟩ := H11.out.fx.cells;have H12a : Hid (FW w f so sk a b c d i e s w11.heap.size none ([]) (w11.alloc (.cells #[.slice none 0 0] 62))) := FW.start H11.out.fx;clear H11
   go_upto_region 17 with fail
   generalize hw1 : World.alloc _ _ = w12 at *;generalize w11.heap.size = z at *;clear hw1 f0 f1 f2 f3 f4 f5 f6 f7 i0 i1 i2 i3 i4 i5 i6 i7 i8;have H12 : Hid (FW w f so sk a b c d i e s z none ([]) w12) := H12a;clear H12a;obtain ⟨DS, hDS⟩ : ∃ X, X = sbits (sizL f) := ⟨_, rfl⟩;have EDS := kQ hDS;have lds : DS.length <= 16 := by rw [hDS, sbits_length]; have := sizL_le f; omega
   clear hDS;obtain ⟨f0, f1, f2, f3, f4, f5, f6, f7, i0, i1, i2, i3, i4, i5, i6, i7, i8⟩ := H12.out.fx.cells
   go_upto_block 0 with fail
   go_cut [68] from 68 to 83 (fun _ wx => ∃ aj, FW w f so sk a b c d i e s z aj (DS) wx)
   case first =>
    by_cases g6 : f.sc = 6
    focus
     have hsb6 : (f.sc == 6) = true := by rw [beq_iff_eq]; exact g6
     have HE : Hid (DS = putB (f.size - 1) 8) := by
      show _ = _;have h8 := HOK.out.2.2.2.2.1.2;have w6 := sizN_at.2.2.2.2.2.1;have w7 := sizN_at.2.2.2.2.2.2.1;rw [EDS.out];unfold sizL;rw [if_pos g6]
      have g := put_8 (f.size - 1).toNat (by rw [g6] at h8; rcases h8 with h8 | h8 | h8 <;> omega)
      rw [show (((f.size - 1).toNat : Nat) : Int) = f.size - 1 by omega] at g
      exact g.symm
     clear g6;have hcw : wrap64 (f.size - 1) = f.size - 1 := by unfold wrap64; omega
     have hcu : IntKind.u64.wrap (f.size - 1) = f.size - 1 := by rw [IntKind.wrap_u64]; omega
     have kt := xput_all w12 none [] z (f.size - 1) 8 (by omega) (by omega) (by simp) H12.out.xw
    rotate_left
    focus
     by_cases g7 : f.sc = 7
     focus
      have hsb6 : (f.sc == 6) = false := by rw [beq_eq_false_iff_ne]; exact g6
      have hsb7 : (f.sc == 7) = true := by rw [beq_iff_eq]; exact g7
      have HE : Hid (DS = putB (f.size - 1) 16) := by
       show _ = _;have h8 := HOK.out.2.2.2.2.1.2;have w6 := sizN_at.2.2.2.2.2.1;have w7 := sizN_at.2.2.2.2.2.2.1;rw [EDS.out];unfold sizL;rw [if_neg g6, if_pos g7];have g := put_16 (f.size - 1).toNat (by omega)
       rw [show (((f.size - 1).toNat : Nat) : Int) = f.size - 1 by omega] at g
       exact g.symm
      clear g6 g7;have hcw : wrap64 (f.size - 1) = f.size - 1 := by unfold wrap64; omega
      have hcu : IntKind.u64.wrap (f.size - 1) = f.size - 1 := by rw [IntKind.wrap_u64]; omega
      have kt := xput_all w12 none [] z (f.size - 1) 16 (by omega) (by omega) (by simp) H12.out.xw
     rotate_left
     ·have hsb6 : (f.sc == 6) = false := by rw [beq_eq_false_iff_ne]; exact g6
      have hsb7 : (f.sc == 7) = false := by rw [beq_eq_false_iff_ne]; exact g7
      have HE : Hid (DS = []) := by
       show _ = _;rw [EDS.out];unfold sizL;rw [if_neg g6, if_neg g7];rfl
      clear g6 g7
      go_wp2_with fail
      go_meet
      exact ⟨none, by rw [HE.out]; exact H12.out⟩
    rotate_left
    all_goals
     go_wp2_with fail
     refine kt.mono ?_;rintro en w8 ⟨rfl, a8, hw', hs', hm'⟩
     go_wp2_with fail
     go_meet
     exact ⟨a8, by rw [HE.out]; exact H12.out.put hw' hs' hm'⟩
   case rest =>
    clear H12 f0 f1 f2 f3 f4 f5 f6 f7 i0 i1 i2 i3 i4 i5 i6 i7 i8;obtain ⟨a13, hfw⟩ := hcut;obtain ⟨w13, hw13⟩ : ∃ X, X = wc := ⟨_, rfl⟩;rw [<- hw13] at hfw ⊢;clear hw13;have H13 := kQ hfw;clear hfw;obtain ⟨f0, f1, f2, f3, f4, f5, f6, f7, i0, i1, i2, i3, i4, i5, i6, i7, i8⟩ := H13.out.fx.cells
    go_upto_block 1 with fail
    obtain ⟨DR, hDR⟩ : ∃ X, X = DS ++ sbits (ratL f i) := ⟨_, rfl⟩;have EDR := kQ hDR;have ldr : DR.length <= 32 := by rw [hDR, List.length_append, sbits_length]; have := ratL_le f i; omega
    clear hDR
    go_cut [86] from 86 to 108 (fun _ wx => ∃ aj, FW w f so sk a b c d i e s z aj (DR) wx)
    case first =>
     by_cases g12 : f.rc = 12
     focus
      have hrb12 : (f.rc == 12) = true := by rw [beq_iff_eq]; exact g12
      have HE : Hid (DR = DS ++ putB (i.rate / 1000) 8 /\ 0 <= (i.rate / 1000) /\ (i.rate / 1000) <= 65535) := by
       have h8 : i.rate <= 255000 := by
        have := HOK.out.2.2.2.2.2.1
        rcases this with h8 | h8 | h8 | h8 | h8 <;> omega
       refine ⟨?_, by omega, by omega⟩
       rw [EDR.out];unfold ratL;rw [if_pos g12];have g := put_8 (i.rate / 1000).toNat (by omega)
       rw [show (((i.rate / 1000).toNat : Nat) : Int) = (i.rate / 1000) by omega] at g
       rw [g]
      have hu := HE.out.2;clear g12;have hcw : wrap64 ((i.rate / 1000)) = (i.rate / 1000) := by unfold wrap64; omega
      have hcu : IntKind.u64.wrap ((i.rate / 1000)) = (i.rate / 1000) := by rw [IntKind.wrap_u64]; omega
      have kt := xput_all w13 a13 DS z ((i.rate / 1000)) 8 (by omega) (by omega) (by omega) H13.out.xw
     rotate_left
     focus
      by_cases g13 : f.rc = 13
      focus
       have hrb12 : (f.rc == 12) = false := by rw [beq_eq_false_iff_ne]; exact g12
       have hrb13 : (f.rc == 13) = true := by rw [beq_iff_eq]; exact g13
       have HE : Hid (DR = DS ++ putB i.rate 16 /\ 0 <= i.rate /\ i.rate <= 65535) := by
        have h8 : i.rate <= 65535 := by
         have := HOK.out.2.2.2.2.2.1
         rcases this with h8 | h8 | h8 | h8 | h8 <;> omega
        refine ⟨?_, by omega, by omega⟩
        rw [EDR.out];unfold ratL;rw [if_neg g12, if_pos g13];have g := put_16 i.rate.toNat (by omega)
        rw [show ((i.rate.toNat : Nat) : Int) = i.rate by omega] at g
        rw [g]
       have hu := HE.out.2;clear g12 g13;have hcu : IntKind.u64.wrap (i.rate) = i.rate := by rw [IntKind.wrap_u64]; omega
       have kt := xput_all w13 a13 DS z (i.rate) 16 (by omega) (by omega) (by omega) H13.out.xw
      rotate_left
      focus
       by_cases g14 : f.rc = 14
       focus
        have hrb12 : (f.rc == 12) = false := by rw [beq_eq_false_iff_ne]; exact g12
        have hrb13 : (f.rc == 13) = false := by rw [beq_eq_false_iff_ne]; exact g13
        have hrb14 : (f.rc == 14) = true := by rw [beq_iff_eq]; exact g14
        have HE : Hid (DR = DS ++ putB (i.rate / 10) 16 /\ 0 <= (i.rate / 10) /\ (i.rate / 10) <= 65535) := by
         have h8 : i.rate <= 655350 := by
          have := HOK.out.2.2.2.2.2.1
          rcases this with h8 | h8 | h8 | h8 | h8 <;> omega
         refine ⟨?_, by omega, by omega⟩
         rw [EDR.out];unfold ratL;rw [if_neg g12, if_neg g13, if_pos g14];have g := put_16 (i.rate / 10).toNat (by omega)
         rw [show (((i.rate / 10).toNat : Nat) : Int) = (i.rate / 10) by omega] at g
         rw [g]
        have hu := HE.out.2;clear g12 g13 g14;have hcw : wrap64 ((i.rate / 10)) = (i.rate / 10) := by unfold wrap64; omega
        have hcu : IntKind.u64.wrap ((i.rate / 10)) = (i.rate / 10) := by rw [IntKind.wrap_u64]; omega
        have kt := xput_all w13 a13 DS z ((i.rate / 10)) 16 (by omega) (by omega) (by omega) H13.out.xw
       rotate_left
       ·have hrb12 : (f.rc == 12) = false := by rw [beq_eq_false_iff_ne]; exact g12
        have hrb13 : (f.rc == 13) = false := by rw [beq_eq_false_iff_ne]; exact g13
        have hrb14 : (f.rc == 14) = false := by rw [beq_eq_false_iff_ne]; exact g14
        have HE : Hid (DR = DS) := by
         show _ = _;rw [EDR.out];unfold ratL;rw [if_neg g12, if_neg g13, if_neg g14];exact List.append_nil _
        clear g12 g13 g14
        go_wp2_with fail
        go_meet
        exact ⟨a13, by rw [HE.out]; exact H13.out⟩
      rotate_left
     rotate_left 2
     all_goals
      go_wp2_with fail
      refine kt.mono ?_;rintro en w8 ⟨rfl, a8, hw', hs', hm'⟩
      go_wp2_with fail
      go_meet
      exact ⟨a8, by rw [HE.out.1]; exact H13.out.put hw' hs' hm'⟩
    case rest =>
     clear H13 f0 f1 f2 f3 f4 f5 f6 f7 i0 i1 i2 i3 i4 i5 i6 i7 i8;obtain ⟨a14, hfw⟩ := hcut;obtain ⟨w14, hw14⟩ : ∃ X, X = wc := ⟨_, rfl⟩;rw [<- hw14] at hfw ⊢;clear hw14;have H14 := kQ hfw;clear hfw;have HDR : Hid (DR = sbits (sizL f ++ ratL f i)) := by show _ = _; rw [EDR.out, EDS.out, sbits_append]
     have kb := xbytes_spec z w14 a14 DR (by rw [HDR.out]; exact sbits_01 _) (by omega) H14.out.xw
     rw [show textOf (pack DR) = textOf (sizL f ++ ratL f i) from by rw [HDR.out, pack_sbits _ (four_lt f i HOK.out).2]] at kb
     generalize hT3 : textOf (sizL f ++ ratL f i) = t3 at *;have HT3 := kQ hT3;have hs3 : t3.size <= 4 := by rw [<- hT3, textOf_size, List.length_append]; have := sizL_le f; have := ratL_le f i; omega
     clear hT3 HDR EDR EDS
     go_wp2_with fail
     refine kb.mono ?_;rintro en w15 ⟨rfl, hb⟩;have H15 := kQ (H14.out.low hb);clear hb H14 kb
     have HTX : Hid (t1 ++ t2 ++ t3 = textOf (hedL f i)) := by
      show _ = _;rw [<- HT1b.out, <- HT2.out, <- HT3.out, textOf_app, textOf_app];unfold hedL;rw [HNM.out, List.append_assoc (fourL f i ++ _)]
     have hz12 : (t1 ++ t2).size = t1.size + t2.size := ByteArray.size_append;have hz123 : (t1 ++ t2 ++ t3).size = t1.size + t2.size + t3.size := by rw [ByteArray.size_append, ByteArray.size_append]
     have hsum2 : ¬ (9223372036854775807 < t1.size + t2.size + t3.size) := by omega
     have HS : Hid ((t1 ++ t2 ++ t3).size <= 15) := by show _ <= _; rw [hz123]; omega
     have HC8 : Hid (S3.c8 (t1 ++ t2 ++ t3) = crc8N (hedL f i)) := by
      show _ = _;rw [HTX.out];unfold S3.c8 crc8N;rw [bytesOf_textOf _ (hedL_lt f i HOK.out)]
     have ke := fun wx => S3.refCrc8_spec (t1 ++ t2 ++ t3) (by have := HS.out; omega) wx
     rw [HC8.out] at ke;have hc8 : crc8N (hedL f i) < 256 := (crcL p8 0#8 (hedL f i)).isLt;have HFIN : Hid (textOf (hedC f i) = t1 ++ t2 ++ t3 ++ textOf [crc8N (hedL f i)]) := by show _ = _; rw [HTX.out, textOf_app]; rfl
     clear HC8 HTX hz12;generalize crc8N (hedL f i) = cr at *
     have hrow : (w15.alloc (.cells #[.int .u8 (cr : Int)] 5)).rowIs w15.heap.size 5 1 (fun j => .int .u8 (((if j = 0 then cr else cr : Nat)) : Int)) := by
      refine World.rowIs_alloc w15 #[.int .u8 (cr : Int)] 5 _ (fun i hi => ?_);obtain rfl : i = 0 := by simpa using hi
      simp
     have hcv := S2.conv_row (cap := 1) hrow;rw [show List.map (fun i : Nat => if i = 0 then cr else cr) (List.range 1) = [cr] from rfl] at hcv
     generalize hT4 : textOf [cr] = t4 at *;have hs4 : t4.size <= 1 := by rw [<- hT4, textOf_size]; simp
     clear hT4;have hsum3 : ¬ (9223372036854775807 < t1.size + t2.size + t3.size + t4.size) := by omega
     have HBE : Hid (Lo w (w15.alloc (.cells #[.int .u8 (cr : Int)] 5))) := H15.out.fx.below.alloc H15.out.fx.below.size _;clear hrow H15;have hcb : IntKind.u8.wrap (cr : Int) = cr := by rw [IntKind.wrap_u8]; omega
     go_wp2_with (refine (ke _).mono ?_; rintro en w16 ⟨rfl, rfl⟩)
     go_ret;exact ⟨by rw [HFIN.out]; rfl, HBE.out⟩
theorem xwithin_spec (l : List Int) (M : Int) (hM0 : 0 <= M) (hM : M <= 4398046511104) (la : OA) (lc : Nat) (w : World) (hl : IntsAt w la l) : Calls Tryz.prog 69 #[.slice la l.length lc, .int .i64 M] w fun e w' => e = .returned (.bool (inB l M)) /\ w' = w := by
 have h1 := hl.len
 have HL := kQ hl
 have HDT : Hid (inB l M = true ↔ ∀ j, j < l.length -> -M <= l.getD j 0 /\ l.getD j 0 <= M) := by
  show _ ↔ _;rw [inB_iff]
  constructor
  ·intro h j hj
   refine h _ ?_;rw [List.getD_eq_getElem?_getD, List.getElem?_eq_getElem hj]; exact List.getElem_mem hj
  ·intro h n hn
   obtain ⟨j, hj, rfl⟩ := List.getElem_of_mem hn;have := h j hj;rw [List.getD_eq_getElem?_getD, List.getElem?_eq_getElem hj] at this;exact this
 clear hl
 go_enter Tryz.func69, Tryz.ntmps69
 go_wp2_with fail
 go_loopw [5] (fun t wr => ∃ i : Nat, i <= l.length /\ t = .int .i64 (i : Int) /\ (∀ j, j < i -> -M <= l.getD j 0 /\ l.getD j 0 <= M) /\ wr = w) (fun t _ => l.length - (intOf t).toNat)
 case atStart => exact ⟨0, Nat.zero_le _, rfl, fun j hj => absurd hj (Nat.not_lt_zero _), rfl⟩
 case round =>
  obtain ⟨i, hi, rfl, hall, rfl⟩ := hrel;have HA := kQ hall;clear hall;by_cases hlt : i < l.length
  focus
   obtain ⟨b1, o1, rfl, q1⟩ := HL.out.at i hlt;have r1 := q1 wr (Below.refl _ _);clear q1;obtain ⟨x, hx⟩ : ∃ x, x = l.getD i 0 := ⟨_, rfl⟩;have HXE := kQ hx;rw [<- hx] at r1;clear hx
   have HF : Hid (¬ (-M <= x /\ x <= M) -> inB l M = false) := fun hne => by
    cases h : inB l M with
    | false => rfl
    | true =>
     have := HDT.out.1 h i hlt;rw [<- HXE.out] at this;exact absurd this hne
   by_cases hg : M < x;rotate_left
   focus
    by_cases hs : x < -M;rotate_left
    ·have HA2 : Hid (∀ j, j < i + 1 -> -M <= l.getD j 0 /\ l.getD j 0 <= M) := fun j hj => by
      by_cases e : j = i
      ·rw [e, <- HXE.out]; omega
      ·exact HA.out j (by omega)
     go_wp2_with fail
     go_roundw
     case rel => exact ⟨i + 1, by omega, by go_num, HA2.out, by trivial⟩
     case measure => simp [intOf]; omega
   rotate_left
  rotate_left 2
  ·have HF : Hid (inB l M = true) := HDT.out.2 (fun j hj => HA.out j (by omega))
   go_wp2_with fail
   go_ret;exact ⟨by rw [HF.out]; rfl, rfl⟩
  all_goals
   have HF2 : Hid (inB l M = false) := HF.out (by omega)
   go_wp2_with fail
   go_ret;exact ⟨by rw [HF2.out]; rfl, rfl⟩
structure Out2 (w : World) (vX vY : Value) (xs ys : List Int) (X : World) : Prop where
 ox : X.ownsRow w.heap.size 3 1 vX xs.length (intsC xs)
 oy : X.ownsRow w.heap.size 3 1 vY ys.length (intsC ys)
 ab : ∀ g, vX.ownBlock = some g -> vY.ownBlock ≠ some g
 below : Lo w X
section
variable {w X X' : World} {vX vY : Value} {xs ys : List Int}
theorem Out2.nil (w : World) : Out2 w (.slice none 0 0) (.slice none 0 0) [] [] w := ⟨World.ownsRow_nil _ _ _ _, World.ownsRow_nil _ _ _ _, fun g hg => (by cases hg), Below.refl _ _⟩
theorem Out2.low (h : Out2 w vX vY xs ys X) (hb : Lo X X') : Out2 w vX vY xs ys X' := ⟨own_low h.ox hb, own_low h.oy hb, h.ab, h.below.trans (hb.mono h.below.size)⟩
theorem Out2.alloc (h : Out2 w vX vY xs ys X) (o : Obj) : Out2 w vX vY xs ys (X.alloc o) := h.low aQ
theorem Out2.pushX (h : Out2 w vX vY xs ys X) {g cap : Nat} {w1 : World} {p : Int} (ho : w1.ownsRow w.heap.size 3 1 (.slice (some ⟨g, 0, none⟩) (xs.length + 1) cap) (xs.length + 1) (intsC xs ++ [.int .i64 p])) (hg : X.grownBy w1 vX.ownBlock) (hat : vX.ownBlock = some g ∨ g = X.heap.size) : Out2 w (.slice (some ⟨g, 0, none⟩) (xs.length + 1) cap) vY (xs ++ [p]) ys w1 := by
 refine ⟨by rw [List.length_append, intsC_append]; exact ho, ?_, fun y hy hz => ?_, h.below.trans ⟨hg.os, hg.tape, hg.output, hg.size, fun k hk => hg.block k (by have := h.below.size; omega) (fun e => by have := (h.ox.lt k e.symm).1; omega)⟩⟩
 ·refine h.oy.kept hg ?_
  cases e : vY.ownBlock with
  | none => exact .inl rfl
  | some y => exact .inr (fun e2 => h.ab y e2.symm e)
 ·have e : g = y := by simpa [Value.ownBlock] using hy
  subst e
  rcases hat with h1 | h1
  ·exact h.ab _ h1 hz
  ·have := (h.oy.lt _ hz).2; omega
theorem Out2.pushY (h : Out2 w vX vY xs ys X) {g cap : Nat} {w1 : World} {p : Int} (ho : w1.ownsRow w.heap.size 3 1 (.slice (some ⟨g, 0, none⟩) (ys.length + 1) cap) (ys.length + 1) (intsC ys ++ [.int .i64 p])) (hg : X.grownBy w1 vY.ownBlock) (hat : vY.ownBlock = some g ∨ g = X.heap.size) : Out2 w vX (.slice (some ⟨g, 0, none⟩) (ys.length + 1) cap) xs (ys ++ [p]) w1 := by
 refine ⟨?_, by rw [List.length_append, intsC_append]; exact ho, fun y hy hz => ?_, h.below.trans ⟨hg.os, hg.tape, hg.output, hg.size, fun k hk => hg.block k (by have := h.below.size; omega) (fun e => by have := (h.oy.lt k e.symm).1; omega)⟩⟩
 ·refine h.ox.kept hg ?_
  cases e : vX.ownBlock with
  | none => exact .inl rfl
  | some y => exact .inr (fun e2 => h.ab y e e2.symm)
 ·have e : g = y := by simpa [Value.ownBlock] using hz
  subst e
  rcases hat with h1 | h1
  ·exact h.ab _ hy h1
  ·have := (h.ox.lt _ hy).2; omega
theorem Out2.shape (h : Out2 w vX vY xs ys X) : ∃ xa xc ya yc, vX = .slice xa xs.length xc /\ vY = .slice ya ys.length yc := by
 obtain ⟨xa, xc, h1, _⟩ := owns_shape h.ox
 obtain ⟨ya, yc, h2, _⟩ := owns_shape h.oy
 exact ⟨xa, xc, ya, yc, h1, h2⟩
end
def Ret3 (R : Option (List Int × List Int)) (w : World) (e : Ending) (w' : World) : Prop := ∃ xa xc ya yc, e = .returned (.tuple #[.slice xa (ansL (R.map Prod.fst)).length xc, .slice ya (ansL (R.map Prod.snd)).length yc, .int .i64 (ansE (R.map Prod.fst))]) /\ IntsAt w' xa (ansL (R.map Prod.fst)) /\ IntsAt w' ya (ansL (R.map Prod.snd)) /\ Lo w w'
theorem ret3_none {R : Option (List Int × List Int)} (h : R = none) {w w' : World} {e : Ending} (he : e = .returned (.tuple #[.slice none 0 0, .slice none 0 0, .int .i64 1])) (hb : Lo w w') : Ret3 R w e w' := by
 subst h; exact ⟨none, 0, none, 0, he, IntsAt.nil w', IntsAt.nil w', hb⟩
theorem ret3_some {R : Option (List Int × List Int)} {L M : List Int} (h : R = some (L, M)) {w w' : World} {e : Ending} {xa ya : OA} {xc yc : Nat} (he : e = .returned (.tuple #[.slice xa L.length xc, .slice ya M.length yc, .int .i64 0])) (hi : IntsAt w' xa L) (hj : IntsAt w' ya M) (hb : Lo w w') : Ret3 R w e w' := by
 subst h; exact ⟨xa, xc, ya, yc, he, hi, hj, hb⟩
end Go.Proofs.YtfpfabmbipmipaaGreatDoor
