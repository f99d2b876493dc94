/- Own text. -/
import Derived.Laws.BitsLemmas
import Derived.Test.YtfpfabmbipmipaaGreatDoorD34
set_option linter.unusedSimpArgs false
set_option linter.unusedVariables false
set_option maxRecDepth 20000
set_option maxHeartbeats 12800000
namespace Go.Proofs.YtfpfabmbipmipaaGreatDoor
open Go.RowKit
theorem wrap_i64 (x : Int) (h1 : -9223372036854775808 <= x) (h2 : x <= 9223372036854775807) : IntKind.i64.wrap x = x := by
 rw [IntKind.wrap_i64]; omega
theorem wrap_u64 (x : Int) (h1 : 0 <= x) (h2 : x <= 18446744073709551615) : IntKind.u64.wrap x = x := by
 have e : IntKind.u64.wrap x = x % 18446744073709551616 := rfl
 rw [e]; omega
theorem sizL_len (f : Fm) : (sizL f).length <= 2 := by unfold sizL; split; exact Nat.le_succ _; split; exact Nat.le_refl _; exact Nat.zero_le _
theorem ratL_len (f : Fm) (i : Inf) : (ratL f i).length <= 2 := by unfold ratL; split; exact Nat.le_succ _; split; exact Nat.le_refl _; split; exact Nat.le_refl _; exact Nat.zero_le _
theorem f_whead (f : Fm) (so : OA) (sk : Nat) (a b c d : Int) (i : Inf) (e : Int) (s : ByteArray) (hok : okH f i) (p : Nat) (hp4 : 4 <= p) (w : World) (hw : WrB w p none []) (hL : Lay w) : Calls Tryz.prog 20 #[.pointer (some ⟨p, 0, none⟩), fmV f so sk, infV a b c d i e s] w fun en w' => en = .returned (.tuple #[]) /\ ∃ ao', WrB w' p ao' (sbits (hedC f i)) /\ Stays (foot p none) w w' /\ Moved w.heap.size none ao' := by
 have hsc := hok.2.2.2.2.1.1
 have hrc := rc_rng hok.2.2.2.2.2.1
 have hwc := wc_rng hok.2.2.2.2.2.2
 have hmo := hok.2.2.2.1
 have hch := hok.1.1
 have hsz := hok.2.1
 have hrt := hok.1.2.2
 have hnum := num36 hok
 have hn : ((f.num.toNat : Nat) : Int) = f.num := by omega
 have hcc : 0 <= (if f.mo = 0 then i.ch - 1 else 7 + f.mo) /\ (if f.mo = 0 then i.ch - 1 else 7 + f.mo) < 16 := by split <;> omega
 have HFOUR : Hid (putB 32764 15 ++ putB (if f.v then 1 else 0) 1 ++ putB f.sc 4 ++ putB f.rc 4 ++ putB (if f.mo = 0 then i.ch - 1 else 7 + f.mo) 4 ++ putB f.wc 3 ++ putB 0 1 = sbits (fourL f i)) := four_put f i hok
 have kb := f_bit f.v
 have kc := f_chC i.ch f.mo hch ⟨hmo.1, hmo.2.1⟩
 have hvb : 0 <= (if f.v then (1 : Int) else 0) /\ (if f.v then (1 : Int) else 0) <= 1 := by split <;> omega
 have kn := fun (wx : World) (ao : OA) (B : List Nat) (o : Bits01 B) (l : B.length <= 1000000000) (h : WrB wx p ao B) => f_wnum f.num.toNat (by omega) p ao B o l wx h
 rw [hn] at kn
 have KN := kQ kn
 have HLT : Hid (∀ b ∈ hedL f i, b < 256) := hedL_lt f i hok
 have HL := kQ hL
 have HEDL : Hid (sbits (hedL f i) = sbits (fourL f i) ++ sbits (codeL f.num.toNat (clen f.num.toNat)) ++ sbits (sizL f) ++ sbits (ratL f i)) := by show _ = _; unfold hedL; simp only [sbits_append]
 have HSR := kQ hok.2.2.2.2.2.1
 have HS6 : Hid (f.sc = 6 -> f.size <= 256) := fun h => size6 hok h
 clear kn hn
 generalize (if f.v then (1 : Int) else 0) = vb at *
 generalize (if f.mo = 0 then i.ch - 1 else 7 + f.mo) = cc at *
 have H0 : Hid (WH w f so sk a b c d i e s p none [] ((w.alloc (.cells (fmC f so sk) 24)).alloc (.cells (infC a b c d i e s) 26))) := by
  have g := FX.new w f so sk a b c d i e s;exact ⟨WB.start hw g.below _ (by simp), g.fb, g.ib⟩
 obtain ⟨B0, hB0⟩ : ∃ X : List Nat, X = [] := ⟨_, rfl⟩
 rw [<- hB0] at H0
 have E0 := kQ hB0
 have o0 : Bits01 B0 := by rw [hB0]; exact Bits01.nil
 have l0 : B0.length <= 0 := by rw [hB0]; exact Nat.le_refl _
 obtain ⟨ao0, ha0⟩ : ∃ X : OA, X = none := ⟨_, rfl⟩
 rw [<- ha0] at H0
 clear hB0 ha0 hok hL hw
 go_enter Tryz.func20, Tryz.ntmps20
 go_upto_region 1 with fail
 generalize World.alloc _ _ = w0 at *
 obtain ⟨f0, f1, f2, f3, f4, f5, f6, f7, i0, i1, i2, i3, i4, i5, i6, i7, i8⟩ := H0.out.cells
 go_wp2_with fail
 have kp := wput_all (B := B0) (w := w0) (ao := ao0) p 32764 15 (by decide) (by decide) o0 (by omega) H0.out.wb.wr
 refine kp.mono ?_
 rintro en w1 ⟨rfl, ao1, hw', hs', hm'⟩
 obtain ⟨B1, hB'⟩ : ∃ X, X = B0 ++ putB 32764 15 := ⟨_, rfl⟩
 rw [<- hB'] at hw'
 have E1 : Hid (B1 = B0 ++ putB 32764 15) := hB'
 have o1 : Bits01 B1 := by rw [hB']; exact o0.append (putB_01 _ _)
 have l1 : B1.length <= 20000000 := by rw [hB', List.length_append]; have := putB_len (32764) (15); omega
 have H1 := kQ (H0.out.put hw' hs' hm')
 clear hw' hs' hm' kp hB' H0
 clear f0 f1 f2 f3 f4 f5 f6 f7 i0 i1 i2 i3 i4 i5 i6 i7 i8
 obtain ⟨f0, f1, f2, f3, f4, f5, f6, f7, i0, i1, i2, i3, i4, i5, i6, i7, i8⟩ := H1.out.cells
 go_wp2_with fail
 refine (kb _).mono ?_
 rintro en wq ⟨rfl, hwq⟩
 have hwq2 := hwq.symm
 clear hwq
 subst hwq2
 go_wp2_with fail
 have kp := wput_all (B := B1) (w := w1) (ao := ao1) p vb 1 (by omega) (by omega) o1 (by omega) H1.out.wb.wr
 refine kp.mono ?_
 rintro en w2 ⟨rfl, ao2, hw', hs', hm'⟩
 obtain ⟨B2, hB'⟩ : ∃ X, X = B1 ++ putB vb 1 := ⟨_, rfl⟩
 rw [<- hB'] at hw'
 have E2 : Hid (B2 = B1 ++ putB vb 1) := hB'
 have o2 : Bits01 B2 := by rw [hB']; exact o1.append (putB_01 _ _)
 have l2 : B2.length <= 40000000 := by rw [hB', List.length_append]; have := putB_len (vb) (1); omega
 have H2 := kQ (H1.out.put hw' hs' hm')
 clear hw' hs' hm' kp hB' H1
 clear f0 f1 f2 f3 f4 f5 f6 f7 i0 i1 i2 i3 i4 i5 i6 i7 i8
 obtain ⟨f0, f1, f2, f3, f4, f5, f6, f7, i0, i1, i2, i3, i4, i5, i6, i7, i8⟩ := H2.out.cells
 go_wp2_with fail
 have kp := wput_all (B := B2) (w := w2) (ao := ao2) p f.sc 4 (by omega) (by omega) o2 (by omega) H2.out.wb.wr
 refine kp.mono ?_
 rintro en w3 ⟨rfl, ao3, hw', hs', hm'⟩
 obtain ⟨B3, hB'⟩ : ∃ X, X = B2 ++ putB f.sc 4 := ⟨_, rfl⟩
 rw [<- hB'] at hw'
 have E3 : Hid (B3 = B2 ++ putB f.sc 4) := hB'
 have o3 : Bits01 B3 := by rw [hB']; exact o2.append (putB_01 _ _)
 have l3 : B3.length <= 60000000 := by rw [hB', List.length_append]; have := putB_len (f.sc) (4); omega
 have H3 := kQ (H2.out.put hw' hs' hm')
 clear hw' hs' hm' kp hB' H2
 clear f0 f1 f2 f3 f4 f5 f6 f7 i0 i1 i2 i3 i4 i5 i6 i7 i8
 obtain ⟨f0, f1, f2, f3, f4, f5, f6, f7, i0, i1, i2, i3, i4, i5, i6, i7, i8⟩ := H3.out.cells
 go_wp2_with fail
 have kp := wput_all (B := B3) (w := w3) (ao := ao3) p f.rc 4 (by omega) (by omega) o3 (by omega) H3.out.wb.wr
 refine kp.mono ?_
 rintro en w4 ⟨rfl, ao4, hw', hs', hm'⟩
 obtain ⟨B4, hB'⟩ : ∃ X, X = B3 ++ putB f.rc 4 := ⟨_, rfl⟩
 rw [<- hB'] at hw'
 have E4 : Hid (B4 = B3 ++ putB f.rc 4) := hB'
 have o4 : Bits01 B4 := by rw [hB']; exact o3.append (putB_01 _ _)
 have l4 : B4.length <= 80000000 := by rw [hB', List.length_append]; have := putB_len (f.rc) (4); omega
 have H4 := kQ (H3.out.put hw' hs' hm')
 clear hw' hs' hm' kp hB' H3
 clear f0 f1 f2 f3 f4 f5 f6 f7 i0 i1 i2 i3 i4 i5 i6 i7 i8
 obtain ⟨f0, f1, f2, f3, f4, f5, f6, f7, i0, i1, i2, i3, i4, i5, i6, i7, i8⟩ := H4.out.cells
 go_wp2_with fail
 refine (kc _).mono ?_
 rintro en wq ⟨rfl, hwq⟩
 have hwq2 := hwq.symm
 clear hwq
 subst hwq2
 go_wp2_with fail
 have kp := wput_all (B := B4) (w := w4) (ao := ao4) p cc 4 (by omega) (by omega) o4 (by omega) H4.out.wb.wr
 refine kp.mono ?_
 rintro en w5 ⟨rfl, ao5, hw', hs', hm'⟩
 obtain ⟨B5, hB'⟩ : ∃ X, X = B4 ++ putB cc 4 := ⟨_, rfl⟩
 rw [<- hB'] at hw'
 have E5 : Hid (B5 = B4 ++ putB cc 4) := hB'
 have o5 : Bits01 B5 := by rw [hB']; exact o4.append (putB_01 _ _)
 have l5 : B5.length <= 100000000 := by rw [hB', List.length_append]; have := putB_len (cc) (4); omega
 have H5 := kQ (H4.out.put hw' hs' hm')
 clear hw' hs' hm' kp hB' H4
 clear f0 f1 f2 f3 f4 f5 f6 f7 i0 i1 i2 i3 i4 i5 i6 i7 i8
 obtain ⟨f0, f1, f2, f3, f4, f5, f6, f7, i0, i1, i2, i3, i4, i5, i6, i7, i8⟩ := H5.out.cells
 go_wp2_with fail
 have kp := wput_all (B := B5) (w := w5) (ao := ao5) p f.wc 3 (by omega) (by omega) o5 (by omega) H5.out.wb.wr
 refine kp.mono ?_
 rintro en w6 ⟨rfl, ao6, hw', hs', hm'⟩
 obtain ⟨B6, hB'⟩ : ∃ X, X = B5 ++ putB f.wc 3 := ⟨_, rfl⟩
 rw [<- hB'] at hw'
 have E6 : Hid (B6 = B5 ++ putB f.wc 3) := hB'
 have o6 : Bits01 B6 := by rw [hB']; exact o5.append (putB_01 _ _)
 have l6 : B6.length <= 120000000 := by rw [hB', List.length_append]; have := putB_len (f.wc) (3); omega
 have H6 := kQ (H5.out.put hw' hs' hm')
 clear hw' hs' hm' kp hB' H5
 clear f0 f1 f2 f3 f4 f5 f6 f7 i0 i1 i2 i3 i4 i5 i6 i7 i8
 obtain ⟨f0, f1, f2, f3, f4, f5, f6, f7, i0, i1, i2, i3, i4, i5, i6, i7, i8⟩ := H6.out.cells
 go_wp2_with fail
 have kp := wput_all (B := B6) (w := w6) (ao := ao6) p 0 1 (by decide) (by decide) o6 (by omega) H6.out.wb.wr
 refine kp.mono ?_
 rintro en w7 ⟨rfl, ao7, hw', hs', hm'⟩
 obtain ⟨B7, hB'⟩ : ∃ X, X = B6 ++ putB 0 1 := ⟨_, rfl⟩
 rw [<- hB'] at hw'
 have E7 : Hid (B7 = B6 ++ putB 0 1) := hB'
 have o7 : Bits01 B7 := by rw [hB']; exact o6.append (putB_01 _ _)
 have l7 : B7.length <= 140000000 := by rw [hB', List.length_append]; have := putB_len (0) (1); omega
 have H7 := kQ (H6.out.put hw' hs' hm')
 clear hw' hs' hm' kp hB' H6
 clear f0 f1 f2 f3 f4 f5 f6 f7 i0 i1 i2 i3 i4 i5 i6 i7 i8
 obtain ⟨f0, f1, f2, f3, f4, f5, f6, f7, i0, i1, i2, i3, i4, i5, i6, i7, i8⟩ := H7.out.cells
 go_wp2_with fail
 refine (KN.out w7 ao7 B7 o7 (by omega) H7.out.wb.wr).mono ?_
 rintro en w8 ⟨rfl, ao8, hw', hs', hm'⟩
 obtain ⟨B8, hB'⟩ : ∃ X, X = B7 ++ sbits (codeL f.num.toNat (clen f.num.toNat)) := ⟨_, rfl⟩
 rw [<- hB'] at hw'
 have E8 : Hid (B8 = sbits (fourL f i) ++ sbits (codeL f.num.toNat (clen f.num.toNat))) := by
  show _ = _;rw [hB', E7.out, E6.out, E5.out, E4.out, E3.out, E2.out, E1.out, E0.out, List.nil_append, HFOUR.out]
 have o8 : Bits01 B8 := by rw [hB']; exact o7.append (sbits_01 _)
 have l8 : B8.length <= 160000000 := by rw [hB', List.length_append, sbits_length, codeL_length]; have := (clen_range f.num.toNat).2; omega
 have H8 := kQ (H7.out.put hw' hs' hm')
 have HLEN : Hid (8 * (hedL f i).length <= 400) := by
  show _ <= _;unfold hedL;have := (clen_range f.num.toNat).2;simp only [List.length_append, codeL_length];have h1 := sizL_len f;have h2 := ratL_len f i;have h3 : (fourL f i).length = 4 := rfl;omega
 clear hw' hs' hm' hB' H7 KN E0 E1 E2 E3 E4 E5 E6 E7 HFOUR kb kc
 clear f0 f1 f2 f3 f4 f5 f6 f7 i0 i1 i2 i3 i4 i5 i6 i7 i8
 obtain ⟨f0, f1, f2, f3, f4, f5, f6, f7, i0, i1, i2, i3, i4, i5, i6, i7, i8⟩ := H8.out.cells
 have kz := f_szb f.sc
 rcases szb_all f.sc with ⟨g, hz⟩ | ⟨g, hz⟩ | ⟨g6, g7, hz⟩
 focus
  rw [hz] at kz;have h256 := HS6.out;have hsr : 0 <= f.size - 1 /\ f.size - 1 < 256 := by omega
  have hput : putB (f.size - 1) 8 = sbits (sizL f) := by
   unfold sizL;rw [if_pos g];have e : (((f.size - 1).toNat : Nat) : Int) = f.size - 1 := by omega
   rw [<- e];exact put_8 _ (by omega)
  clear h256 HS6 hz g
  go_wp2_with fail
  refine (kz _).mono ?_;rintro en wq ⟨rfl, hwq⟩;have hwq2 := hwq.symm;clear hwq;subst hwq2
  go_wp2_with fail
  have kp := wput_all (B := B8) (w := w8) (ao := ao8) p (f.size - 1) 8 (by omega) (by omega) o8 (by omega) H8.out.wb.wr
  refine kp.mono ?_;rintro en w9 ⟨rfl, ao9, hw', hs', hm'⟩;obtain ⟨B9, hB'⟩ : ∃ X, X = B8 ++ putB (f.size - 1) 8 := ⟨_, rfl⟩;rw [<- hB'] at hw';have E9 : Hid (B9 = B8 ++ putB (f.size - 1) 8) := hB';have o9 : Bits01 B9 := by rw [hB']; exact o8.append (putB_01 _ _)
  have l9 : B9.length <= 180000000 := by rw [hB', List.length_append]; have := putB_len ((f.size - 1)) (8); omega
  have H9 := kQ (H8.out.put hw' hs' hm');clear hw' hs' hm' kp hB' H8;clear f0 f1 f2 f3 f4 f5 f6 f7 i0 i1 i2 i3 i4 i5 i6 i7 i8;obtain ⟨f0, f1, f2, f3, f4, f5, f6, f7, i0, i1, i2, i3, i4, i5, i6, i7, i8⟩ := H9.out.cells
  go_wp2_with fail
  have EK : Hid (B9 = sbits (fourL f i) ++ sbits (codeL f.num.toNat (clen f.num.toNat)) ++ sbits (sizL f)) := by show _ = _; rw [E9.out, hput, E8.out]
  clear E9 E8 hput
 rotate_left
 focus
  rw [hz] at kz;have h256 := HS6.out;have hsr : 0 <= f.size - 1 /\ f.size - 1 < 65536 := by omega
  have hput : putB (f.size - 1) 16 = sbits (sizL f) := by
   unfold sizL;rw [if_neg (by omega), if_pos g]
   have e : (((f.size - 1).toNat : Nat) : Int) = f.size - 1 := by omega
   rw [<- e];exact put_16 _ (by omega)
  clear h256 HS6 hz g
  go_wp2_with fail
  refine (kz _).mono ?_;rintro en wq ⟨rfl, hwq⟩;have hwq2 := hwq.symm;clear hwq;subst hwq2
  go_wp2_with fail
  have kp := wput_all (B := B8) (w := w8) (ao := ao8) p (f.size - 1) 16 (by omega) (by omega) o8 (by omega) H8.out.wb.wr
  refine kp.mono ?_;rintro en w9 ⟨rfl, ao9, hw', hs', hm'⟩;obtain ⟨B9, hB'⟩ : ∃ X, X = B8 ++ putB (f.size - 1) 16 := ⟨_, rfl⟩;rw [<- hB'] at hw';have E9 : Hid (B9 = B8 ++ putB (f.size - 1) 16) := hB';have o9 : Bits01 B9 := by rw [hB']; exact o8.append (putB_01 _ _)
  have l9 : B9.length <= 180000000 := by rw [hB', List.length_append]; have := putB_len ((f.size - 1)) (16); omega
  have H9 := kQ (H8.out.put hw' hs' hm');clear hw' hs' hm' kp hB' H8;clear f0 f1 f2 f3 f4 f5 f6 f7 i0 i1 i2 i3 i4 i5 i6 i7 i8;obtain ⟨f0, f1, f2, f3, f4, f5, f6, f7, i0, i1, i2, i3, i4, i5, i6, i7, i8⟩ := H9.out.cells
  go_wp2_with fail
  have EK : Hid (B9 = sbits (fourL f i) ++ sbits (codeL f.num.toNat (clen f.num.toNat)) ++ sbits (sizL f)) := by show _ = _; rw [E9.out, hput, E8.out]
  clear E9 E8 hput
 rotate_left
 focus
  rw [hz] at kz;have hsl : sbits (sizL f) = [] := by unfold sizL; rw [if_neg g6, if_neg g7]; rfl
  have EK : Hid (B8 = sbits (fourL f i) ++ sbits (codeL f.num.toNat (clen f.num.toNat)) ++ sbits (sizL f)) := by show _ = _; rw [hsl, List.append_nil]; exact E8.out
  clear hsl E8 g6 g7 hz
  go_wp2_with fail
  refine (kz _).mono ?_;rintro en wq ⟨rfl, hwq⟩;have hwq2 := hwq.symm;clear hwq;subst hwq2
  go_wp2_with fail
  obtain ⟨B9, hB'⟩ : ∃ X, X = B8 := ⟨_, rfl⟩;obtain ⟨ao9, ha'⟩ : ∃ X, X = ao8 := ⟨_, rfl⟩;obtain ⟨w9, hw'⟩ : ∃ X, X = w8 := ⟨_, rfl⟩;subst hB' ha' hw';have H9 := H8;have o9 := o8;have l9 := l8;clear H8 o8 l8
 rotate_left
 all_goals
  rcases rtb_all f.rc with ⟨gc, hz, hu⟩ | ⟨gc, hz, hu⟩ | ⟨gc, hz, hu⟩ | ⟨g1, g2, g3, hz, hu⟩
  focus
   have kr := f_rtb f.rc;have ku := f_rtu f.rc;rw [hz] at kr;rw [hu] at ku
   have hrr : 0 <= i.rate / 1000 /\ i.rate / 1000 < 256 := by
    have h := HSR.out;unfold saysR at h;omega
   have hput : putB (i.rate / 1000) 8 = sbits (ratL f i) := by
    unfold ratL;rw [if_pos gc];have e : (((i.rate / 1000).toNat : Nat) : Int) = i.rate / 1000 := by omega
    rw [<- e];exact put_8 _ (by omega)
   have EJ0 : Hid (B9 ++ putB (i.rate / 1000) 8 = sbits (hedL f i)) := by show _ = _; rw [HEDL.out, hput, EK.out]
   have KP : Hid (∀ wx, Hid (WH w f so sk a b c d i e s p ao9 B9 wx) -> Calls Tryz.prog 24 #[.pointer (some ⟨p, 0, none⟩), .int .u64 (i.rate / 1000), .int .i64 8] wx fun en w' => ∃ er ao', en = .returned (.int .i64 er) /\ Hid (WH w f so sk a b c d i e s p ao' (sbits (hedL f i)) w')) := fun wx hx => (wput_all (B := B9) (w := wx) (ao := ao9) p (i.rate / 1000) 8 (by omega) (by omega) o9 (by omega) hx.out.wb.wr).mono fun en w' q => by
    obtain ⟨q1, ao', q2, q3, q4⟩ := q;have g := hx.out.put q2 q3 q4;rw [EJ0.out] at g;exact ⟨_, ao', q1, g⟩
   have HQ1 : Hid (i.rate.tdiv 1000 = i.rate / 1000) := by show _ = _; rw [Int.tdiv_eq_ediv_of_nonneg (by omega)]
   have HQ2 : Hid (IntKind.i64.wrap (i.rate / 1000) = i.rate / 1000) := by show _ = _; exact wrap_i64 _ (by omega) (by omega)
   have HQ3 : Hid (IntKind.u64.wrap (i.rate / 1000) = i.rate / 1000) := by show _ = _; exact wrap_u64 _ (by omega) (by omega)
   have HQ4 : Hid (IntKind.i64.wrap 8 = 8) := by show _ = _; exact wrap_i64 _ (by decide) (by decide)
   have HC : Hid (∀ wx ao B, Hid (WH w f so sk a b c d i e s p ao B wx) -> wx.cell? ⟨w.heap.size, 0, none⟩ = some (.bool f.v) /\ wx.cell? ⟨w.heap.size, 1, none⟩ = some (.int .i64 f.num) /\ wx.cell? ⟨w.heap.size, 2, none⟩ = some (.int .i64 f.size) /\ wx.cell? ⟨w.heap.size, 3, none⟩ = some (.int .i64 f.sc) /\ wx.cell? ⟨w.heap.size, 4, none⟩ = some (.int .i64 f.rc) /\ wx.cell? ⟨w.heap.size, 5, none⟩ = some (.int .i64 f.wc) /\ wx.cell? ⟨w.heap.size, 6, none⟩ = some (.int .i64 f.mo) /\ wx.cell? ⟨w.heap.size, 7, none⟩ = some (.slice so f.S.length sk) /\ wx.cell? ⟨w.heap.size + 1, 0, none⟩ = some (.int .i64 a) /\ wx.cell? ⟨w.heap.size + 1, 1, none⟩ = some (.int .i64 b) /\ wx.cell? ⟨w.heap.size + 1, 2, none⟩ = some (.int .i64 c) /\ wx.cell? ⟨w.heap.size + 1, 3, none⟩ = some (.int .i64 d) /\ wx.cell? ⟨w.heap.size + 1, 4, none⟩ = some (.int .i64 i.rate) /\ wx.cell? ⟨w.heap.size + 1, 5, none⟩ = some (.int .i64 i.ch) /\ wx.cell? ⟨w.heap.size + 1, 6, none⟩ = some (.int .i64 i.wd) /\ wx.cell? ⟨w.heap.size + 1, 7, none⟩ = some (.int .i64 e) /\ wx.cell? ⟨w.heap.size + 1, 8, none⟩ = some (.string s)) := fun wx ao B h => h.out.cells;clear hput EK HEDL hz hu gc EJ0 HSR
  rotate_left
  focus
   have kr := f_rtb f.rc;have ku := f_rtu f.rc;rw [hz] at kr;rw [hu] at ku
   have hrr : 0 <= i.rate /\ i.rate < 65536 := by
    have h := HSR.out;unfold saysR at h;omega
   have hput : putB (i.rate) 16 = sbits (ratL f i) := by
    unfold ratL;rw [if_neg (by omega), if_pos gc]
    have e : (((i.rate).toNat : Nat) : Int) = i.rate := by omega
    rw [<- e];exact put_16 _ (by omega)
   have EJ0 : Hid (B9 ++ putB (i.rate) 16 = sbits (hedL f i)) := by show _ = _; rw [HEDL.out, hput, EK.out]
   have KP : Hid (∀ wx, Hid (WH w f so sk a b c d i e s p ao9 B9 wx) -> Calls Tryz.prog 24 #[.pointer (some ⟨p, 0, none⟩), .int .u64 (i.rate), .int .i64 16] wx fun en w' => ∃ er ao', en = .returned (.int .i64 er) /\ Hid (WH w f so sk a b c d i e s p ao' (sbits (hedL f i)) w')) := fun wx hx => (wput_all (B := B9) (w := wx) (ao := ao9) p (i.rate) 16 (by omega) (by omega) o9 (by omega) hx.out.wb.wr).mono fun en w' q => by
    obtain ⟨q1, ao', q2, q3, q4⟩ := q;have g := hx.out.put q2 q3 q4;rw [EJ0.out] at g;exact ⟨_, ao', q1, g⟩
   have HQ1 : Hid (i.rate.tdiv 1 = i.rate) := by show _ = _; rw [Int.tdiv_eq_ediv_of_nonneg (by omega)]; exact Int.ediv_one _
   have HQ2 : Hid (IntKind.i64.wrap (i.rate) = i.rate) := by show _ = _; exact wrap_i64 _ (by omega) (by omega)
   have HQ3 : Hid (IntKind.u64.wrap (i.rate) = i.rate) := by show _ = _; exact wrap_u64 _ (by omega) (by omega)
   have HQ4 : Hid (IntKind.i64.wrap 16 = 16) := by show _ = _; exact wrap_i64 _ (by decide) (by decide)
   have HC : Hid (∀ wx ao B, Hid (WH w f so sk a b c d i e s p ao B wx) -> wx.cell? ⟨w.heap.size, 0, none⟩ = some (.bool f.v) /\ wx.cell? ⟨w.heap.size, 1, none⟩ = some (.int .i64 f.num) /\ wx.cell? ⟨w.heap.size, 2, none⟩ = some (.int .i64 f.size) /\ wx.cell? ⟨w.heap.size, 3, none⟩ = some (.int .i64 f.sc) /\ wx.cell? ⟨w.heap.size, 4, none⟩ = some (.int .i64 f.rc) /\ wx.cell? ⟨w.heap.size, 5, none⟩ = some (.int .i64 f.wc) /\ wx.cell? ⟨w.heap.size, 6, none⟩ = some (.int .i64 f.mo) /\ wx.cell? ⟨w.heap.size, 7, none⟩ = some (.slice so f.S.length sk) /\ wx.cell? ⟨w.heap.size + 1, 0, none⟩ = some (.int .i64 a) /\ wx.cell? ⟨w.heap.size + 1, 1, none⟩ = some (.int .i64 b) /\ wx.cell? ⟨w.heap.size + 1, 2, none⟩ = some (.int .i64 c) /\ wx.cell? ⟨w.heap.size + 1, 3, none⟩ = some (.int .i64 d) /\ wx.cell? ⟨w.heap.size + 1, 4, none⟩ = some (.int .i64 i.rate) /\ wx.cell? ⟨w.heap.size + 1, 5, none⟩ = some (.int .i64 i.ch) /\ wx.cell? ⟨w.heap.size + 1, 6, none⟩ = some (.int .i64 i.wd) /\ wx.cell? ⟨w.heap.size + 1, 7, none⟩ = some (.int .i64 e) /\ wx.cell? ⟨w.heap.size + 1, 8, none⟩ = some (.string s)) := fun wx ao B h => h.out.cells;clear hput EK HEDL hz hu gc EJ0 HSR
  rotate_left
  focus
   have kr := f_rtb f.rc;have ku := f_rtu f.rc;rw [hz] at kr;rw [hu] at ku
   have hrr : 0 <= i.rate / 10 /\ i.rate / 10 < 65536 := by
    have h := HSR.out;unfold saysR at h;omega
   have hput : putB (i.rate / 10) 16 = sbits (ratL f i) := by
    unfold ratL;rw [if_neg (by omega), if_neg (by omega), if_pos gc]
    have e : (((i.rate / 10).toNat : Nat) : Int) = i.rate / 10 := by omega
    rw [<- e];exact put_16 _ (by omega)
   have EJ0 : Hid (B9 ++ putB (i.rate / 10) 16 = sbits (hedL f i)) := by show _ = _; rw [HEDL.out, hput, EK.out]
   have KP : Hid (∀ wx, Hid (WH w f so sk a b c d i e s p ao9 B9 wx) -> Calls Tryz.prog 24 #[.pointer (some ⟨p, 0, none⟩), .int .u64 (i.rate / 10), .int .i64 16] wx fun en w' => ∃ er ao', en = .returned (.int .i64 er) /\ Hid (WH w f so sk a b c d i e s p ao' (sbits (hedL f i)) w')) := fun wx hx => (wput_all (B := B9) (w := wx) (ao := ao9) p (i.rate / 10) 16 (by omega) (by omega) o9 (by omega) hx.out.wb.wr).mono fun en w' q => by
    obtain ⟨q1, ao', q2, q3, q4⟩ := q;have g := hx.out.put q2 q3 q4;rw [EJ0.out] at g;exact ⟨_, ao', q1, g⟩
   have HQ1 : Hid (i.rate.tdiv 10 = i.rate / 10) := by show _ = _; rw [Int.tdiv_eq_ediv_of_nonneg (by omega)]
   have HQ2 : Hid (IntKind.i64.wrap (i.rate / 10) = i.rate / 10) := by show _ = _; exact wrap_i64 _ (by omega) (by omega)
   have HQ3 : Hid (IntKind.u64.wrap (i.rate / 10) = i.rate / 10) := by show _ = _; exact wrap_u64 _ (by omega) (by omega)
   have HQ4 : Hid (IntKind.i64.wrap 16 = 16) := by show _ = _; exact wrap_i64 _ (by decide) (by decide)
   have HC : Hid (∀ wx ao B, Hid (WH w f so sk a b c d i e s p ao B wx) -> wx.cell? ⟨w.heap.size, 0, none⟩ = some (.bool f.v) /\ wx.cell? ⟨w.heap.size, 1, none⟩ = some (.int .i64 f.num) /\ wx.cell? ⟨w.heap.size, 2, none⟩ = some (.int .i64 f.size) /\ wx.cell? ⟨w.heap.size, 3, none⟩ = some (.int .i64 f.sc) /\ wx.cell? ⟨w.heap.size, 4, none⟩ = some (.int .i64 f.rc) /\ wx.cell? ⟨w.heap.size, 5, none⟩ = some (.int .i64 f.wc) /\ wx.cell? ⟨w.heap.size, 6, none⟩ = some (.int .i64 f.mo) /\ wx.cell? ⟨w.heap.size, 7, none⟩ = some (.slice so f.S.length sk) /\ wx.cell? ⟨w.heap.size + 1, 0, none⟩ = some (.int .i64 a) /\ wx.cell? ⟨w.heap.size + 1, 1, none⟩ = some (.int .i64 b) /\ wx.cell? ⟨w.heap.size + 1, 2, none⟩ = some (.int .i64 c) /\ wx.cell? ⟨w.heap.size + 1, 3, none⟩ = some (.int .i64 d) /\ wx.cell? ⟨w.heap.size + 1, 4, none⟩ = some (.int .i64 i.rate) /\ wx.cell? ⟨w.heap.size + 1, 5, none⟩ = some (.int .i64 i.ch) /\ wx.cell? ⟨w.heap.size + 1, 6, none⟩ = some (.int .i64 i.wd) /\ wx.cell? ⟨w.heap.size + 1, 7, none⟩ = some (.int .i64 e) /\ wx.cell? ⟨w.heap.size + 1, 8, none⟩ = some (.string s)) := fun wx ao B h => h.out.cells;clear hput EK HEDL hz hu gc EJ0 HSR
  rotate_left
  focus
   have kr := f_rtb f.rc;have ku := f_rtu f.rc;rw [hz] at kr;have hrl : sbits (ratL f i) = [] := by unfold ratL; rw [if_neg g1, if_neg g2, if_neg g3]; rfl
   have EJ : Hid (B9 = sbits (hedL f i)) := by show _ = _; rw [HEDL.out, hrl, List.append_nil]; exact EK.out
   clear hrl EK HEDL g1 g2 g3 hz hu ku
   go_wp2_with fail
   refine (kr _).mono ?_;rintro en wq ⟨rfl, hwq⟩;have hwq2 := hwq.symm;clear hwq;subst hwq2
   go_wp2_with fail
   obtain ⟨B10, hB'⟩ : ∃ X, X = B9 := ⟨_, rfl⟩;obtain ⟨ao10, ha'⟩ : ∃ X, X = ao9 := ⟨_, rfl⟩;obtain ⟨w10, hw'⟩ : ∃ X, X = w9 := ⟨_, rfl⟩;subst hB' ha' hw';have H10 := H9;have o10 := o9;have l10 := l9;clear H9 o9 l9
  rotate_left
  iterate 3
   focus
    go_wp2_with fail
    refine (kr _).mono ?_;rintro en wq ⟨rfl, hwq⟩;have hwq2 := hwq.symm;clear hwq;subst hwq2
    go_wp2_with fail
    have HD : Hid (WH w f so sk a b c d i e s p ao9 B9 w9.drew) := H9.out.low dQ;clear H9;clear f0 f1 f2 f3 f4 f5 f6 f7 i0 i1 i2 i3 i4 i5 i6 i7 i8
    go_region_held3 (fun wx => wx.cell? ⟨w.heap.size, 0, none⟩ = some (.bool f.v) /\ wx.cell? ⟨w.heap.size, 1, none⟩ = some (.int .i64 f.num) /\ wx.cell? ⟨w.heap.size, 2, none⟩ = some (.int .i64 f.size) /\ wx.cell? ⟨w.heap.size, 3, none⟩ = some (.int .i64 f.sc) /\ wx.cell? ⟨w.heap.size, 4, none⟩ = some (.int .i64 f.rc) /\ wx.cell? ⟨w.heap.size, 5, none⟩ = some (.int .i64 f.wc) /\ wx.cell? ⟨w.heap.size, 6, none⟩ = some (.int .i64 f.mo) /\ wx.cell? ⟨w.heap.size, 7, none⟩ = some (.slice so f.S.length sk) /\ wx.cell? ⟨w.heap.size + 1, 0, none⟩ = some (.int .i64 a) /\ wx.cell? ⟨w.heap.size + 1, 1, none⟩ = some (.int .i64 b) /\ wx.cell? ⟨w.heap.size + 1, 2, none⟩ = some (.int .i64 c) /\ wx.cell? ⟨w.heap.size + 1, 3, none⟩ = some (.int .i64 d) /\ wx.cell? ⟨w.heap.size + 1, 4, none⟩ = some (.int .i64 i.rate) /\ wx.cell? ⟨w.heap.size + 1, 5, none⟩ = some (.int .i64 i.ch) /\ wx.cell? ⟨w.heap.size + 1, 6, none⟩ = some (.int .i64 i.wd) /\ wx.cell? ⟨w.heap.size + 1, 7, none⟩ = some (.int .i64 e) /\ wx.cell? ⟨w.heap.size + 1, 8, none⟩ = some (.string s)) (exact HC.out _ _ _ (by assumption))
     (first
      | (go_at_call 62; refine (ku _).mono ?_; rintro en wu ⟨rfl, hwu⟩; subst hwu)
      | (go_at_call 24; simp only [HQ1.out, HQ2.out, HQ3.out, HQ4.out]; refine (KP.out _ (by assumption)).mono ?_; rintro en w10 ⟨er, ao10, rfl, H10⟩))
    obtain ⟨B10, hB10⟩ : ∃ X, X = sbits (hedL f i) := ⟨_, rfl⟩;rw [<- hB10] at H10;have EJ := kQ hB10;have o10 : Bits01 B10 := by rw [hB10]; exact sbits_01 _
    have l10 : B10.length <= 400 := by rw [hB10, sbits_length]; exact HLEN.out
    clear hB10 KP HC;obtain ⟨f0, f1, f2, f3, f4, f5, f6, f7, i0, i1, i2, i3, i4, i5, i6, i7, i8⟩ := H10.out.cells
    go_wp2_with fail
   rotate_left
  all_goals
   have kb2 := bytes_spec p w10 ao10 B10 o10 (by omega) H10.out.wb.wr
   have hpk : pack B10 = hedL f i := by rw [EJ.out]; exact pack_sbits _ HLT.out
   rw [hpk] at kb2;have kcr := S3.crc8_spec (textOf (hedL f i)) (by rw [textOf_size, <- hpk, pack_length]; omega) w10 (HL.out.only (foot_only H10.out.wb.st) hp4).u
   have hc8 : S3.c8 (textOf (hedL f i)) = crc8N (hedL f i) := by unfold S3.c8 crc8N; rw [bytesOf_textOf _ HLT.out]
   rw [hc8] at kcr;have hclt : crc8N (hedL f i) < 256 := (crcL p8 0#8 _).isLt
   have HEND : Hid (B10 ++ putB ((crc8N (hedL f i) : Nat) : Int) 8 = sbits (hedC f i)) := by
    show _ = _;rw [EJ.out, put_8 _ hclt, <- sbits_append]; rfl
   clear hpk hc8 EJ;generalize crc8N (hedL f i) = cv at *;generalize textOf (hedL f i) = tx at *
   go_wp2_with fail
   refine kb2.mono ?_;rintro en wq ⟨rfl, hwq⟩;subst hwq;clear kb2
   go_wp2_with fail
   refine kcr.mono ?_;rintro en wr ⟨rfl, hbr⟩;have HR := kQ (H10.out.low hbr);clear kcr hbr H10;have kp := wput_all (B := B10) (w := wr) (ao := ao10) p (cv : Int) 8 (by omega) (by omega) o10 (by omega) HR.out.wb.wr
   go_wp2_with fail
   refine kp.mono ?_;rintro en wz ⟨rfl, aoz, hw', hs', hm'⟩
   have HZ : Hid (WH w f so sk a b c d i e s p aoz (sbits (hedC f i)) wz) := by
    have g := HR.out.put hw' hs' hm';rw [HEND.out] at g; exact g
   clear hw' hs' hm' kp HR;clear f0 f1 f2 f3 f4 f5 f6 f7 i0 i1 i2 i3 i4 i5 i6 i7 i8
   go_wp2_with fail
   go_end0
   exact ⟨rfl, aoz, HZ.out.wb.wr, HZ.out.wb.st, HZ.out.wb.mv⟩
structure BX (w : World) (f : Fm) (so : OA) (sk : Nat) (a b c d : Int) (i : Inf) (e : Int) (s : ByteArray) (p : Nat) (ao : OA) (B : List Nat) (wx : World) : Prop where
 fb : wx.heap[w.heap.size]? = some (.cells (fmC f so sk) 24 (0, 0))
 ib : wx.heap[w.heap.size + 1]? = some (.cells (infC a b c d i e s) 26 (0, 0))
 below : Lo w wx
 wr : WrB wx p ao B
 hp : w.heap.size + 2 <= p
 hao : ∀ k, blockOf ao = some k -> w.heap.size + 2 <= k
section
variable {w wx w' : World} {f : Fm} {so : OA} {sk : Nat} {a b c d : Int} {i : Inf} {e : Int} {s : ByteArray} {p : Nat} {ao ao' : OA} {B B' : List Nat}
theorem BX.foot (h : BX w f so sk a b c d i e s p ao B wx) : ∀ k, foot p ao k -> w.heap.size + 2 <= k := fun k hk => by
 rcases hk with hk | hk
 ·rw [hk]; exact h.hp
 ·exact h.hao k hk
theorem BX.lt (h : BX w f so sk a b c d i e s p ao B wx) : ∀ k, Go.Proofs.YtfpfabmbipmipaaGreatDoor.foot p ao k -> k < wx.heap.size := fun k hk => by
 rcases hk with hk | hk
 ·rw [hk]; exact h.wr.lt
 ·exact h.wr.blocks k hk
theorem BX.put (h : BX w f so sk a b c d i e s p ao B wx) (hw : WrB w' p ao' B') (hS : Stays (Go.Proofs.YtfpfabmbipmipaaGreatDoor.foot p ao) wx w') (hM : Moved wx.heap.size ao ao') : BX w f so sk a b c d i e s p ao' B' w' :=
 ⟨by rw [hS.block _ (lt_of_block h.fb) (fun hf => by have := h.foot _ hf; omega)]; exact h.fb, by rw [hS.block _ (lt_of_block h.ib) (fun hf => by have := h.foot _ hf; omega)]; exact h.ib,
  h.below.trans (hS.below h.below.size (fun k hk hf => by have := h.foot _ hf; omega)), hw, h.hp, fun k hk => by
  rcases hM k hk with h1 | h1
  ·exact h.hao k h1
  ·have := lt_of_block h.ib; omega⟩
theorem BX.low (h : BX w f so sk a b c d i e s p ao B wx) (hb : Lo wx w') : BX w f so sk a b c d i e s p ao B w' :=
 ⟨by rw [hb.block _ (lt_of_block h.fb)]; exact h.fb, by rw [hb.block _ (lt_of_block h.ib)]; exact h.ib, h.below.trans (hb.mono h.below.size), h.wr.below hb, h.hp, h.hao⟩
theorem BX.cells (h : BX w f so sk a b c d i e s p ao B wx) : wx.cell? ⟨w.heap.size, 0, none⟩ = some (.bool f.v) /\ wx.cell? ⟨w.heap.size, 1, none⟩ = some (.int .i64 f.num) /\ wx.cell? ⟨w.heap.size, 2, none⟩ = some (.int .i64 f.size) /\ wx.cell? ⟨w.heap.size, 3, none⟩ = some (.int .i64 f.sc) /\ wx.cell? ⟨w.heap.size, 4, none⟩ = some (.int .i64 f.rc) /\ wx.cell? ⟨w.heap.size, 5, none⟩ = some (.int .i64 f.wc) /\ wx.cell? ⟨w.heap.size, 6, none⟩ = some (.int .i64 f.mo) /\ wx.cell? ⟨w.heap.size, 7, none⟩ = some (.slice so f.S.length sk) /\ wx.cell? ⟨w.heap.size + 1, 0, none⟩ = some (.int .i64 a) /\ wx.cell? ⟨w.heap.size + 1, 1, none⟩ = some (.int .i64 b) /\ wx.cell? ⟨w.heap.size + 1, 2, none⟩ = some (.int .i64 c) /\ wx.cell? ⟨w.heap.size + 1, 3, none⟩ = some (.int .i64 d) /\ wx.cell? ⟨w.heap.size + 1, 4, none⟩ = some (.int .i64 i.rate) /\ wx.cell? ⟨w.heap.size + 1, 5, none⟩ = some (.int .i64 i.ch) /\ wx.cell? ⟨w.heap.size + 1, 6, none⟩ = some (.int .i64 i.wd) /\ wx.cell? ⟨w.heap.size + 1, 7, none⟩ = some (.int .i64 e) /\ wx.cell? ⟨w.heap.size + 1, 8, none⟩ = some (.string s) := by
 obtain ⟨z0, z1, z2, z3, z4, z5, z6, z7⟩ := fm_cells h.fb
 obtain ⟨y0, y1, y2, y3, y4, y5, y6, y7, y8⟩ := inf_cells h.ib
 exact ⟨z0, z1, z2, z3, z4, z5, z6, z7, y0, y1, y2, y3, y4, y5, y6, y7, y8⟩
end
theorem align_bits (bits : List Nat) (h01 : Bits01 bits) : bits ++ List.replicate (8 * ((bits.length + 7) / 8) - bits.length) 0 = sbits (pack bits) := by
 have h1 := sbits_packN bits h01 (8 * ((bits.length + 7) / 8) - bits.length) ((bits.length + 7) / 8) (by omega)
 show _ = sbits (packN bits ((bits.length + 7) / 8))
 rw [h1, List.take_of_length_le (by rw [List.length_append, List.length_replicate]; omega)]
theorem hedC_lt (f : Fm) (i : Inf) (h : okH f i) : ∀ b ∈ hedC f i, b < 256 := fun b hb => by
 rcases List.mem_append.1 hb with hb | hb
 ·exact hedL_lt f i h b hb
 ·rw [List.mem_singleton] at hb; rw [hb]; exact (crcL p8 0#8 _).isLt
theorem chn_all (f : Fm) (i : Inf) (P : List (List Int)) (hC : okC f i) (hP : okP f i P) : (chnL f.mo P).length = f.S.length /\ (chnL f.mo P).length <= 8 /\ (∀ j, j < (chnL f.mo P).length -> ((chnL f.mo P).getD j []).length <= 4608) /\ ((∀ j, j < (chnL f.mo P).length -> okS (f.S.getD j Sb0) (wdA i f.mo j) ((chnL f.mo P).getD j [])) ↔ okF f i P) := by
 have hch := hC.1.1.1
 have h1 := chnL_len f.mo P i.ch hP.1 hC.1.2.2.2.1.2.2
 have h2 := chnL_size f.mo P f.size (fun l hl => (hP.2 l hl).1) (by have := hP.1; omega)
 have h3 := hC.2.1
 have h4 := hC.1.2.1
 refine ⟨by omega, by omega, fun j hj => by have := h2 j hj; omega, fun h => ⟨hC, hP, fun c hc => (h c (by omega)).2⟩, fun h j hj => ⟨?_, h.2.2 j (by omega)⟩⟩
 have h5 := hC.2.2 j (by omega)
 rw [h2 j hj]; exact h5
theorem f_withinW (P : List (List Int)) (po : OA) (pk : Nat) (v : Int) (hv : 4 <= v /\ v <= 24) (bb : Bool) (hbb : bb = true ↔ ∀ l ∈ P, ∀ x ∈ l, sigE x v = 0) (w : World) (hp : RowsAt w po P) : Calls Tryz.prog 18 #[.slice po P.length pk, .int .i64 v] w fun en w' => en = .returned (.bool bb) /\ w' = w := by
 obtain ⟨k, hk⟩ : ∃ k : Nat, v = (k : Int) + 1 := ⟨v.toNat - 1, by omega⟩
 subst hk
 exact f_within P po pk k (by omega) bb hbb w hp
theorem bd_chk (f : Fm) (so : OA) (sk : Nat) (a b c d : Int) (i : Inf) (e : Int) (s : ByteArray) (hr : I64 i.rate) (P : List (List Int)) (po : OA) (pk : Nat) (w : World) (hL : Lay w) (hf : FmAt w f so sk) (hP : RowsAt w po P) (h : ¬ okC f i) : Calls Tryz.prog 8 #[fmV f so sk, infV a b c d i e s, .slice po P.length pk] w fun en w' => en = .returned (.tuple #[.string ⟨#[]⟩, .int .i64 60]) /\ Lo w w' := by
 have K1 : Hid (∀ wx, Hid (FX w f so sk a b c d i e s wx) -> Calls Tryz.prog 10 #[fmV f so sk, infV a b c d i e s] wx fun en w' => en = .returned (.int .i64 60) /\ Hid (FX w f so sk a b c d i e s w')) := fun wx hx => (f_check f so sk a b c d i e s hr 60 (fun hq => absurd hq (h)) (fun _ => rfl) wx (hf.below hx.out.below) (hL.below hx.out.below)).mono fun en w' hh => ⟨hh.1, hx.out.next hh.2⟩
 clear h hL hf hP
 have HA : Hid (FX w f so sk a b c d i e s ((w.alloc (.cells (fmC f so sk) 24)).alloc (.cells (infC a b c d i e s) 26))) := FX.new w f so sk a b c d i e s
 go_enter Tryz.func8, Tryz.ntmps8
 go_upto_region 1 with fail
 generalize World.alloc _ _ = wa at *
 obtain ⟨f0, f1, f2, f3, f4, f5, f6, f7, i0, i1, i2, i3, i4, i5, i6, i7, i8⟩ := HA.out.cells
 go_wp2_with fail
 refine (K1.out _ HA).mono ?_
 rintro en w1 ⟨rfl, HB1⟩
 clear HA f0 f1 f2 f3 f4 f5 f6 f7 i0 i1 i2 i3 i4 i5 i6 i7 i8
 obtain ⟨f0, f1, f2, f3, f4, f5, f6, f7, i0, i1, i2, i3, i4, i5, i6, i7, i8⟩ := HB1.out.cells
 go_wp2_with fail
 go_ret2
 exact ⟨rfl, HB1.out.below⟩
theorem bd_len (f : Fm) (so : OA) (sk : Nat) (a b c d : Int) (i : Inf) (e : Int) (s : ByteArray) (hr : I64 i.rate) (P : List (List Int)) (po : OA) (pk : Nat) (w : World) (hL : Lay w) (hf : FmAt w f so sk) (hP : RowsAt w po P) (h : okC f i) (h2 : ¬ (P.length : Int) = i.ch) : Calls Tryz.prog 8 #[fmV f so sk, infV a b c d i e s, .slice po P.length pk] w fun en w' => en = .returned (.tuple #[.string ⟨#[]⟩, .int .i64 60]) /\ Lo w w' := by
 have hpl := hP.len
 have K1 : Hid (∀ wx, Hid (FX w f so sk a b c d i e s wx) -> Calls Tryz.prog 10 #[fmV f so sk, infV a b c d i e s] wx fun en w' => en = .returned (.int .i64 0) /\ Hid (FX w f so sk a b c d i e s w')) := fun wx hx => (f_check f so sk a b c d i e s hr 0 (fun _ => rfl) (fun hq => absurd (h) hq) wx (hf.below hx.out.below) (hL.below hx.out.below)).mono fun en w' hh => ⟨hh.1, hx.out.next hh.2⟩
 have hne : ((P.length : Int) != i.ch) = true := by rw [bne_iff_ne]; exact h2
 clear h h2 hL hf hP
 have HA : Hid (FX w f so sk a b c d i e s ((w.alloc (.cells (fmC f so sk) 24)).alloc (.cells (infC a b c d i e s) 26))) := FX.new w f so sk a b c d i e s
 go_enter Tryz.func8, Tryz.ntmps8
 go_upto_region 1 with fail
 generalize World.alloc _ _ = wa at *
 obtain ⟨f0, f1, f2, f3, f4, f5, f6, f7, i0, i1, i2, i3, i4, i5, i6, i7, i8⟩ := HA.out.cells
 go_wp2_with fail
 refine (K1.out _ HA).mono ?_
 rintro en w1 ⟨rfl, HB1⟩
 clear HA f0 f1 f2 f3 f4 f5 f6 f7 i0 i1 i2 i3 i4 i5 i6 i7 i8
 obtain ⟨f0, f1, f2, f3, f4, f5, f6, f7, i0, i1, i2, i3, i4, i5, i6, i7, i8⟩ := HB1.out.cells
 go_wp2_with fail
 go_ret2
 exact ⟨rfl, HB1.out.below⟩
theorem bd_long (f : Fm) (so : OA) (sk : Nat) (a b c d : Int) (i : Inf) (e : Int) (s : ByteArray) (hr : I64 i.rate) (P : List (List Int)) (po : OA) (pk : Nat) (w : World) (hL : Lay w) (hf : FmAt w f so sk) (hP : RowsAt w po P) (h : okC f i) (h2 : (P.length : Int) = i.ch) (h3 : ¬ ∀ l ∈ P, (l.length : Int) = f.size) : Calls Tryz.prog 8 #[fmV f so sk, infV a b c d i e s, .slice po P.length pk] w fun en w' => en = .returned (.tuple #[.string ⟨#[]⟩, .int .i64 60]) /\ Lo w w' := by
 have hpl := hP.len
 have K1 : Hid (∀ wx, Hid (FX w f so sk a b c d i e s wx) -> Calls Tryz.prog 10 #[fmV f so sk, infV a b c d i e s] wx fun en w' => en = .returned (.int .i64 0) /\ Hid (FX w f so sk a b c d i e s w')) := fun wx hx => (f_check f so sk a b c d i e s hr 0 (fun _ => rfl) (fun hq => absurd (h) hq) wx (hf.below hx.out.below) (hL.below hx.out.below)).mono fun en w' hh => ⟨hh.1, hx.out.next hh.2⟩
 have K2 : Hid (∀ wx, Hid (FX w f so sk a b c d i e s wx) -> Calls Tryz.prog 17 #[.slice po P.length pk, .int .i64 f.size] wx fun en w' => en = .returned (.bool false) /\ Hid (FX w f so sk a b c d i e s w')) := fun wx hx => ((f_long P po pk f.size false (ff_iff (h3)) wx (hP.below hx.out.below))).mono fun en w' hh => ⟨hh.1, by rw [hh.2]; exact hx⟩
 have hne : ((P.length : Int) != i.ch) = false := by rw [bne_eq_false_iff_eq]; exact h2
 clear h h2 h3 hL hf hP
 have HA : Hid (FX w f so sk a b c d i e s ((w.alloc (.cells (fmC f so sk) 24)).alloc (.cells (infC a b c d i e s) 26))) := FX.new w f so sk a b c d i e s
 go_enter Tryz.func8, Tryz.ntmps8
 go_upto_region 1 with fail
 generalize World.alloc _ _ = wa at *
 obtain ⟨f0, f1, f2, f3, f4, f5, f6, f7, i0, i1, i2, i3, i4, i5, i6, i7, i8⟩ := HA.out.cells
 go_wp2_with fail
 refine (K1.out _ HA).mono ?_
 rintro en w1 ⟨rfl, HB1⟩
 clear HA f0 f1 f2 f3 f4 f5 f6 f7 i0 i1 i2 i3 i4 i5 i6 i7 i8
 obtain ⟨f0, f1, f2, f3, f4, f5, f6, f7, i0, i1, i2, i3, i4, i5, i6, i7, i8⟩ := HB1.out.cells
 go_wp2_with fail
 refine (K2.out _ HB1).mono ?_
 rintro en w2 ⟨rfl, HB2⟩
 clear HB1 f0 f1 f2 f3 f4 f5 f6 f7 i0 i1 i2 i3 i4 i5 i6 i7 i8
 obtain ⟨f0, f1, f2, f3, f4, f5, f6, f7, i0, i1, i2, i3, i4, i5, i6, i7, i8⟩ := HB2.out.cells
 go_wp2_with fail
 go_ret2
 exact ⟨rfl, HB2.out.below⟩
theorem bd_with (f : Fm) (so : OA) (sk : Nat) (a b c d : Int) (i : Inf) (e : Int) (s : ByteArray) (hr : I64 i.rate) (P : List (List Int)) (po : OA) (pk : Nat) (w : World) (hL : Lay w) (hf : FmAt w f so sk) (hP : RowsAt w po P) (h : okC f i) (h2 : (P.length : Int) = i.ch) (h3 : ∀ l ∈ P, (l.length : Int) = f.size) (h4 : ¬ ∀ l ∈ P, ∀ x ∈ l, sigE x i.wd = 0) : Calls Tryz.prog 8 #[fmV f so sk, infV a b c d i e s, .slice po P.length pk] w fun en w' => en = .returned (.tuple #[.string ⟨#[]⟩, .int .i64 60]) /\ Lo w w' := by
 have hpl := hP.len
 have hwd := h.1.1.2.1
 have K1 : Hid (∀ wx, Hid (FX w f so sk a b c d i e s wx) -> Calls Tryz.prog 10 #[fmV f so sk, infV a b c d i e s] wx fun en w' => en = .returned (.int .i64 0) /\ Hid (FX w f so sk a b c d i e s w')) := fun wx hx => (f_check f so sk a b c d i e s hr 0 (fun _ => rfl) (fun hq => absurd (h) hq) wx (hf.below hx.out.below) (hL.below hx.out.below)).mono fun en w' hh => ⟨hh.1, hx.out.next hh.2⟩
 have K2 : Hid (∀ wx, Hid (FX w f so sk a b c d i e s wx) -> Calls Tryz.prog 17 #[.slice po P.length pk, .int .i64 f.size] wx fun en w' => en = .returned (.bool true) /\ Hid (FX w f so sk a b c d i e s w')) := fun wx hx => ((f_long P po pk f.size true (tt_iff (h3)) wx (hP.below hx.out.below))).mono fun en w' hh => ⟨hh.1, by rw [hh.2]; exact hx⟩
 have K3 : Hid (∀ wx, Hid (FX w f so sk a b c d i e s wx) -> Calls Tryz.prog 18 #[.slice po P.length pk, .int .i64 i.wd] wx fun en w' => en = .returned (.bool false) /\ Hid (FX w f so sk a b c d i e s w')) := fun wx hx => ((f_withinW P po pk i.wd hwd false (ff_iff (h4)) wx (hP.below hx.out.below))).mono fun en w' hh => ⟨hh.1, by rw [hh.2]; exact hx⟩
 have hne : ((P.length : Int) != i.ch) = false := by rw [bne_eq_false_iff_eq]; exact h2
 clear h h2 h3 h4 hL hf hP hwd
 have HA : Hid (FX w f so sk a b c d i e s ((w.alloc (.cells (fmC f so sk) 24)).alloc (.cells (infC a b c d i e s) 26))) := FX.new w f so sk a b c d i e s
 go_enter Tryz.func8, Tryz.ntmps8
 go_upto_region 1 with fail
 generalize World.alloc _ _ = wa at *
 obtain ⟨f0, f1, f2, f3, f4, f5, f6, f7, i0, i1, i2, i3, i4, i5, i6, i7, i8⟩ := HA.out.cells
 go_wp2_with fail
 refine (K1.out _ HA).mono ?_
 rintro en w1 ⟨rfl, HB1⟩
 clear HA f0 f1 f2 f3 f4 f5 f6 f7 i0 i1 i2 i3 i4 i5 i6 i7 i8
 obtain ⟨f0, f1, f2, f3, f4, f5, f6, f7, i0, i1, i2, i3, i4, i5, i6, i7, i8⟩ := HB1.out.cells
 go_wp2_with fail
 refine (K2.out _ HB1).mono ?_
 rintro en w2 ⟨rfl, HB2⟩
 clear HB1 f0 f1 f2 f3 f4 f5 f6 f7 i0 i1 i2 i3 i4 i5 i6 i7 i8
 obtain ⟨f0, f1, f2, f3, f4, f5, f6, f7, i0, i1, i2, i3, i4, i5, i6, i7, i8⟩ := HB2.out.cells
 go_wp2_with fail
 refine (K3.out _ HB2).mono ?_
 rintro en w3 ⟨rfl, HB3⟩
 clear HB2 f0 f1 f2 f3 f4 f5 f6 f7 i0 i1 i2 i3 i4 i5 i6 i7 i8
 obtain ⟨f0, f1, f2, f3, f4, f5, f6, f7, i0, i1, i2, i3, i4, i5, i6, i7, i8⟩ := HB3.out.cells
 go_wp2_with fail
 go_ret2
 exact ⟨rfl, HB3.out.below⟩
end Go.Proofs.YtfpfabmbipmipaaGreatDoor
