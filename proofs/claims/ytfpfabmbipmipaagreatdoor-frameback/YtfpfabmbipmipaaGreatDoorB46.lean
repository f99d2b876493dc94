/- Own text. -/
import Derived.Test.YtfpfabmbipmipaaGreatDoorB45
set_option linter.unusedSimpArgs false
set_option linter.unusedVariables false
set_option maxRecDepth 20000
set_option maxHeartbeats 12800000
namespace Go.Proofs.YtfpfabmbipmipaaGreatDoor
open Go.RowKit
theorem bd_ok (f : Fm) (so : OA) (sk : Nat) (a b c d : Int) (i : Inf) (e : Int) (s : ByteArray) (hr : I64 i.rate) (P : List (List Int)) (po : OA) (pk : Nat) (w : World) (hL : Lay w) (hf : FmAt w f so sk) (hP : RowsAt w po P) (h5 : okF f i P) : Calls Tryz.prog 8 #[fmV f so sk, infV a b c d i e s, .slice po P.length pk] w fun en w' => en = .returned (.tuple #[.string (textOf (frL f i P)), .int .i64 0]) /\ Lo w w' := by
 have h := h5.1
 have h2 := h5.2.1.1
 have h3 : ∀ l ∈ P, (l.length : Int) = f.size := fun l hl => (h5.2.1.2 l hl).1
 have h4 : ∀ l ∈ P, ∀ x ∈ l, sigE x i.wd = 0 := fun l hl => (h5.2.1.2 l hl).2
 have hpl := hP.len
 have hwd := h.1.1.2.1
 have hp4 := hL.size4
 have K1 : Hid (∀ wx, Hid (FX w f so sk a b c d i e s wx) -> Calls Tryz.prog 10 #[fmV f so sk, infV a b c d i e s] wx fun en w' => en = .returned (.int .i64 0) /\ Hid (FX w f so sk a b c d i e s w')) := fun wx hx => (f_check f so sk a b c d i e s hr 0 (fun _ => rfl) (fun hq => absurd (h) hq) wx (hf.below hx.out.below) (hL.below hx.out.below)).mono fun en w' hh => ⟨hh.1, hx.out.next hh.2⟩
 have K2 : Hid (∀ wx, Hid (FX w f so sk a b c d i e s wx) -> Calls Tryz.prog 17 #[.slice po P.length pk, .int .i64 f.size] wx fun en w' => en = .returned (.bool true) /\ Hid (FX w f so sk a b c d i e s w')) := fun wx hx => ((f_long P po pk f.size true (tt_iff (h3)) wx (hP.below hx.out.below))).mono fun en w' hh => ⟨hh.1, by rw [hh.2]; exact hx⟩
 have K3 : Hid (∀ wx, Hid (FX w f so sk a b c d i e s wx) -> Calls Tryz.prog 18 #[.slice po P.length pk, .int .i64 i.wd] wx fun en w' => en = .returned (.bool true) /\ Hid (FX w f so sk a b c d i e s w')) := fun wx hx => ((f_withinW P po pk i.wd hwd true (tt_iff (h4)) wx (hP.below hx.out.below))).mono fun en w' hh => ⟨hh.1, by rw [hh.2]; exact hx⟩
 have hne : ((P.length : Int) != i.ch) = false := by rw [bne_eq_false_iff_eq]; exact h2
 have hall := chn_all f i P h ⟨h2, fun l hl => ⟨h3 l hl, h4 l hl⟩⟩
 have KH : Hid (∀ p wx, w.heap.size + 2 <= p -> BX w f so sk a b c d i e s p none [] wx -> Calls Tryz.prog 20 #[.pointer (some ⟨p, 0, none⟩), fmV f so sk, infV a b c d i e s] wx fun en w' => en = .returned (.tuple #[]) /\ ∃ ao', BX w f so sk a b c d i e s p ao' (sbits (hedC f i)) w') := fun p wx hp hx => (f_whead f so sk a b c d i e s h.1 p (by omega) wx hx.wr (hL.below hx.below)).mono fun en w' q => by
  obtain ⟨q1, ao', q2, q3, q4⟩ := q
  exact ⟨q1, ao', hx.put q2 q3 q4⟩
 have KCOD : Hid (∀ p ao B wx, BX w f so sk a b c d i e s p ao B wx -> Calls Tryz.prog 22 #[.int .i64 f.mo, .slice po P.length pk] wx fun en w' => ∃ ro rk, en = .returned (.slice ro (chnL f.mo P).length rk) /\ RowsP (foot p ao) w' ro (chnL f.mo P) /\ Lo wx w') := fun p ao B wx hx => by
  by_cases g0 : f.mo = 0
  ·have e : chnL f.mo P = P := by unfold chnL; rw [if_pos g0]
   rw [e, g0]
   exact (f_coded_0 P po pk wx).mono fun en w' q => ⟨po, pk, q.1, by rw [q.2]; exact hP.old hx.below (foot p ao) (fun k hk => by have := hx.foot k hk; omega), by rw [q.2]; exact Below.refl _ _⟩
  ·have hmo := h.1.2.2.2.1
   have hch2 : i.ch = 2 := by rcases hmo.2.2 with g | g; exact absurd g g0; exact g
   have hP2 : P.length = 2 := by omega
   have e0 := h3 _ (getD_mem' P 0 (by omega))
   have e1 := h3 _ (getD_mem' P 1 (by omega))
   have hsz := h.1.2.1
   have hl2 : (chnL f.mo P).length = 2 := by unfold chnL; rw [if_neg g0]; rfl
   rw [hl2]
   exact grp4.1 f.mo (by omega) P hP2 (by omega) (by omega) i.wd (by omega) h4 po pk wx (hP.below hx.below) (foot p ao) (fun k hk => hx.lt k hk)
 have KWS : Hid (∀ p ao wx ro rk, BX w f so sk a b c d i e s p ao (sbits (hedC f i)) wx -> RowsP (foot p ao) wx ro (chnL f.mo P) -> Calls Tryz.prog 21 #[.pointer (some ⟨p, 0, none⟩), fmV f so sk, infV a b c d i e s, .slice ro (chnL f.mo P).length rk] wx fun en w' => en = .returned (.int .i64 0) /\ ∃ ao', BX w f so sk a b c d i e s p ao' (sbits (hedC f i) ++ chB i f.mo f.S (chnL f.mo P) (chnL f.mo P).length) w') := fun p ao wx ro rk hx hrw => (f_wsubs f so sk a b c d i e s hwd (chnL f.mo P) hall.1 hall.2.1 hall.2.2.1 w hf.S p ao (sbits (hedC f i)) (fun k hk => by have := hx.foot k hk; omega) (sbits_01 _) (by rw [sbits_length]; exact Nat.le_trans (hedC_room f i) (by decide)) ro rk wx hx.below hx.wr hrw 0 (fun _ => rfl) (fun hh => absurd (hall.2.2.2.2 h5) hh)).mono fun en w' q => by
  obtain ⟨q1, q2, ao', q3, q4⟩ := q
  exact ⟨q1, ao', hx.put (q4 (hall.2.2.2.2 h5)) q2 q3⟩
 have hn := hall.1
 have HFR : Hid (sbits (hedC f i) ++ chB i f.mo f.S (chnL f.mo P) (chnL f.mo P).length = sbits (hedC f i) ++ subsB f i P f.S.length) := by show _ = _; rw [subsB_ch, hn]
 rw [HFR.out] at KWS
 have hbits := subsB_ok f i P h5
 have hcl := hedC_lt f i h.1
 have hroom := hedC_room f i
 have HPK : Hid (pack (sbits (hedC f i) ++ subsB f i P f.S.length) = hedC f i ++ pack (subsB f i P f.S.length)) := pack_sbits_app _ _ hcl hbits.1
 have HLTT : Hid (∀ b ∈ hedC f i ++ pack (subsB f i P f.S.length), b < 256) := fun b hb => by
  rcases List.mem_append.1 hb with hb | hb
  ·exact hcl b hb
  ·exact pack_lt _ hbits.1 b hb
 have HFL : Hid (frL f i P = (hedC f i ++ pack (subsB f i P f.S.length)) ++ be2 (crc16N (hedC f i ++ pack (subsB f i P f.S.length)))) := rfl
 have HBB : Hid (Bits01 (sbits (hedC f i) ++ subsB f i P f.S.length) /\ (sbits (hedC f i) ++ subsB f i P f.S.length).length <= 900000000000) := ⟨(sbits_01 _).append hbits.1, by rw [List.length_append, sbits_length]; have := hbits.2; omega⟩
 clear hn hbits hcl hroom HFR
 clear h h2 h3 h4 h5 hall hwd
 have HL := kQ hL
 clear hL hf hP
 generalize chnL f.mo P = L at *
 generalize sbits (hedC f i) ++ subsB f i P f.S.length = BB at *
 generalize hedC f i ++ pack (subsB f i P f.S.length) = TT at *
 generalize sbits (hedC f i) = HH at *
 have HA : Hid (FX w f so sk a b c d i e s ((w.alloc (.cells (fmC f so sk) 24)).alloc (.cells (infC a b c d i e s) 26))) := FX.new w f so sk a b c d i e s
 go_enter Tryz.func8, Tryz.ntmps8
 go_upto_region 1 with fail
 generalize World.alloc _ _ = wa at *
 obtain ⟨f0, f1, f2, f3, f4, f5, f6, f7, i0, i1, i2, i3, i4, i5, i6, i7, i8⟩ := HA.out.cells
 go_wp2_with fail
 refine (K1.out _ HA).mono ?_
 rintro en w1 ⟨rfl, HB1⟩
 clear HA f0 f1 f2 f3 f4 f5 f6 f7 i0 i1 i2 i3 i4 i5 i6 i7 i8
 obtain ⟨f0, f1, f2, f3, f4, f5, f6, f7, i0, i1, i2, i3, i4, i5, i6, i7, i8⟩ := HB1.out.cells
 go_wp2_with fail
 refine (K2.out _ HB1).mono ?_
 rintro en w2 ⟨rfl, HB2⟩
 clear HB1 f0 f1 f2 f3 f4 f5 f6 f7 i0 i1 i2 i3 i4 i5 i6 i7 i8
 obtain ⟨f0, f1, f2, f3, f4, f5, f6, f7, i0, i1, i2, i3, i4, i5, i6, i7, i8⟩ := HB2.out.cells
 go_wp2_with fail
 refine (K3.out _ HB2).mono ?_
 rintro en w3 ⟨rfl, HB3⟩
 clear HB2 f0 f1 f2 f3 f4 f5 f6 f7 i0 i1 i2 i3 i4 i5 i6 i7 i8
 obtain ⟨f0, f1, f2, f3, f4, f5, f6, f7, i0, i1, i2, i3, i4, i5, i6, i7, i8⟩ := HB3.out.cells
 go_wp2_with fail
 have kn := new_spec w3
 refine kn.mono ?_
 rintro en w4 ⟨rfl, hw4, hq4⟩
 have HX4 : Hid (BX w f so sk a b c d i e s w3.heap.size none [] w4) := by
  have hb : Lo w3 w4 := by rw [hq4]; exact aQ
  have g := HB3.out.next hb
  exact ⟨g.fb, g.ib, g.below, hw4, by have := lt_of_block HB3.out.ib; omega, fun k hk => by cases hk⟩
 have hp2 : w.heap.size + 2 <= w3.heap.size := by have := lt_of_block HB3.out.ib; omega
 clear kn hw4 hq4 HB3
 clear f0 f1 f2 f3 f4 f5 f6 f7 i0 i1 i2 i3 i4 i5 i6 i7 i8
 generalize w3.heap.size = p at *
 obtain ⟨f0, f1, f2, f3, f4, f5, f6, f7, i0, i1, i2, i3, i4, i5, i6, i7, i8⟩ := HX4.out.cells
 go_wp2_with fail
 refine (KH.out p _ hp2 HX4.out).mono ?_
 rintro en w5 ⟨rfl, ao5, hx5⟩
 have HX5 := kQ hx5
 have HD : Hid (BX w f so sk a b c d i e s p ao5 HH w5.drew) := hx5.low dQ
 clear hx5 KH HX4
 clear f0 f1 f2 f3 f4 f5 f6 f7 i0 i1 i2 i3 i4 i5 i6 i7 i8
 go_wp2_with fail
 refine wp_region_held_drew (S := fun wx => FX w f so sk a b c d i e s wx) (by kernel_rfl) ⟨HD.out.fb, HD.out.ib, HD.out.below⟩ (fun hS => ?_)
 refine vQ 0 (.pointer (some ⟨p, 0, none⟩)) hS ?_
 simp only [SL]
 refine uQ 1 (fmV f so sk) rfl hS (Or.inl ⟨by rfl, fun w hSw => by obtain ⟨f0, f1, f2, f3, f4, f5, f6, f7, i0, i1, i2, i3, i4, i5, i6, i7, i8⟩ := hSw.cells; go_simp⟩) ?_
 simp only [SL]
 refine uQ 2 (infV a b c d i e s) rfl hS (Or.inl ⟨by rfl, fun w hSw => by obtain ⟨f0, f1, f2, f3, f4, f5, f6, f7, i0, i1, i2, i3, i4, i5, i6, i7, i8⟩ := hSw.cells; go_simp⟩) ?_
 simp only [SL]
 refine vQ 3 (.pointer (some ⟨w.heap.size, 6, none⟩)) hS ?_
 simp only [SL]
 refine uQ 4 (.int .i64 f.mo) rfl hS (Or.inl ⟨by rfl, fun w hSw => by obtain ⟨f0, f1, f2, f3, f4, f5, f6, f7, i0, i1, i2, i3, i4, i5, i6, i7, i8⟩ := hSw.cells; go_simp⟩) ?_
 simp only [SL]
 refine vQ 5 (.slice po P.length pk) hS ?_
 simp only [SL]
 refine wpAnyH_ready (rs := [6]) (by kernel_rfl) (by simp) ?_
 refine AllReadyH.cons rfl (fun K hK => ?_) AllReadyH.nil
 go_simp
 refine (KCOD.out p ao5 HH _ HD.out).mono ?_
 rintro en w6 ⟨ro, rk, rfl, hr6, hb6⟩
 have HX6 := kQ (HD.out.low hb6)
 have HR6 := kQ hr6
 clear hr6 hb6 KCOD
 refine hK.out _ _ ⟨HX6.out.fb, HX6.out.ib, HX6.out.below⟩ (fun hS6 => ?_)
 clear hK K
 try simp only [SL]
 refine wpAnyH_ready (rs := [7]) (by kernel_rfl) (by simp) ?_
 refine AllReadyH.cons rfl (fun K hK => ?_) AllReadyH.nil
 go_simp
 refine (KWS.out p ao5 _ ro rk HX6.out HR6.out).mono ?_
 rintro en w7 ⟨rfl, ao7, hx7⟩
 have HX7 := kQ hx7
 clear hx7 KWS HR6 HX6 HX5 HD
 refine hK.out _ _ ⟨HX7.out.fb, HX7.out.ib, HX7.out.below⟩ (fun hS7 => ?_)
 clear hK K
 try simp only [SL]
 refine vQ 8 (.int .i64 0) hS7 ?_
 simp only [SL]
 refine wpAnyH_done (by kernel_rfl) ?_ _
 clear hS hS6 hS7
 have kal := align_spec p w7 ao7 BB (by have := HBB.out.2; omega) HX7.out.wr
 rw [align_bits BB HBB.out.1, HPK.out] at kal
 go_wp2_with fail
 refine kal.mono ?_
 rintro en w8 ⟨rfl, hw8, hs8⟩
 have HX8 : Hid (BX w f so sk a b c d i e s p ao7 (sbits TT) w8) := HX7.out.put hw8 hs8 (Moved.refl _ _)
 clear kal hw8 hs8 HX7
 have htl : (sbits TT).length <= 900000000100 := by
  have h1 := congrArg List.length HPK.out
  rw [pack_length] at h1
  have := HBB.out.2
  rw [sbits_length]; omega
 have kb := bytes_spec p w8 ao7 (sbits TT) (sbits_01 _) (by omega) HX8.out.wr
 rw [pack_sbits TT HLTT.out] at kb
 have kcr := S3.crc16_spec (textOf TT) (by rw [textOf_size]; rw [sbits_length] at htl; omega) w8 (HL.out.below HX8.out.below).u
 have hc16 : S3.c16 (textOf TT) = crc16N TT := by unfold S3.c16 crc16N; rw [bytesOf_textOf _ HLTT.out]
 rw [hc16] at kcr
 have hclt := crc16_lt TT
 have HEND : Hid (sbits TT ++ putB ((crc16N TT : Nat) : Int) 16 = sbits (frL f i P)) := by
  show _ = _
  rw [put_16 _ hclt, <- sbits_append, HFL.out]; rfl
 have HFB : Hid (∀ b ∈ frL f i P, b < 256) := fun b hb => by
  rw [HFL.out] at hb
  rcases List.mem_append.1 hb with hb | hb
  ·exact HLTT.out b hb
  ·exact be2_lt _ hclt b hb
 have hfrl : (sbits (frL f i P)).length <= 900000000200 := by
  rw [HFL.out, sbits_append, List.length_append, sbits_length (be2 _), be2_len]; omega
 clear hc16 HFL HPK HBB
 generalize crc16N TT = cv at *
 generalize textOf TT = tx at *
 go_wp2_with fail
 refine kb.mono ?_
 rintro en wq ⟨rfl, hwq⟩
 have hwq2 := hwq.symm
 clear hwq kb
 subst hwq2
 go_wp2_with fail
 refine kcr.mono ?_
 rintro en w9 ⟨rfl, hb9⟩
 have HX9 := kQ (HX8.out.low hb9)
 clear kcr hb9 HX8
 have kp := wput_all (B := sbits TT) (w := w9) (ao := ao7) p (cv : Int) 16 (by omega) (by omega) (sbits_01 _) (by omega) HX9.out.wr
 go_wp2_with fail
 refine kp.mono ?_
 rintro en w10 ⟨rfl, ao10, hw10, hs10, hm10⟩
 rw [HEND.out] at hw10
 have HX10 := kQ (HX9.out.put hw10 hs10 hm10)
 clear kp hw10 hs10 hm10 HX9 HEND
 have kb := bytes_spec p w10 ao10 (sbits (frL f i P)) (sbits_01 _) (by omega) HX10.out.wr
 rw [pack_sbits _ HFB.out] at kb
 go_wp2_with fail
 refine kb.mono ?_
 rintro en w11 ⟨rfl, hw11⟩
 have hw12 := hw11.symm
 clear hw11 kb
 subst hw12
 go_wp2_with fail
 go_ret2
 exact ⟨rfl, HX10.out.below⟩
theorem build_no (f : Fm) (so : OA) (sk : Nat) (a b c d : Int) (i : Inf) (e : Int) (sc : ByteArray) (hr : I64 i.rate) (P : List (List Int)) (po : OA) (pk : Nat) (w : World) (hL : Lay w) (hf : FmAt w f so sk) (hP : RowsAt w po P) (hno : ¬ okF f i P) : Calls Tryz.prog 8 #[fmV f so sk, infV a b c d i e sc, .slice po P.length pk] w fun en w' => en = .returned (.tuple #[.string ⟨#[]⟩, .int .i64 60]) /\ Lo w w' := by
 by_cases h1 : okC f i
 case neg => exact bd_chk f so sk a b c d i e sc hr P po pk w hL hf hP h1
 by_cases h2 : (P.length : Int) = i.ch
 case neg => exact bd_len f so sk a b c d i e sc hr P po pk w hL hf hP h1 h2
 by_cases h3 : ∀ l ∈ P, (l.length : Int) = f.size
 case neg => exact bd_long f so sk a b c d i e sc hr P po pk w hL hf hP h1 h2 h3
 by_cases h4 : ∀ l ∈ P, ∀ x ∈ l, sigE x i.wd = 0
 case neg => exact bd_with f so sk a b c d i e sc hr P po pk w hL hf hP h1 h2 h3 h4
 exact bd_no f so sk a b c d i e sc hr P po pk w hL hf hP h1 h2 h3 h4 hno
theorem build_ok (f : Fm) (so : OA) (sk : Nat) (a b c d : Int) (i : Inf) (e : Int) (sc : ByteArray) (hr : I64 i.rate) (P : List (List Int)) (po : OA) (pk : Nat) (w : World) (hL : Lay w) (hf : FmAt w f so sk) (hP : RowsAt w po P) (hok : okF f i P) : Calls Tryz.prog 8 #[fmV f so sk, infV a b c d i e sc, .slice po P.length pk] w fun en w' => en = .returned (.tuple #[.string (textOf (frL f i P)), .int .i64 0]) /\ Lo w w' :=
 bd_ok f so sk a b c d i e sc hr P po pk w hL hf hP hok
theorem frL_lt (f : Fm) (i : Inf) (P : List (List Int)) (h : okF f i P) : ∀ b ∈ frL f i P, b < 256 := fun b hb => by
 unfold frL outL at hb
 rcases List.mem_append.1 hb with hb | hb
 ·rcases List.mem_append.1 hb with hb | hb
  ·exact hedC_lt f i h.1.1 b hb
  ·exact pack_lt _ (subsB_ok f i P h).1 b hb
 ·exact be2_lt _ (crc16_lt _) b hb
theorem frL_room (f : Fm) (i : Inf) (P : List (List Int)) (h : okF f i P) : (frL f i P).length <= 200000000000 := by
 unfold frL
 rw [outL_len, List.length_append, pack_length]
 have h1 := (subsB_ok f i P h).2
 have h2 := hedC_room f i
 omega
theorem info_Info : (Tryz.prog.info? 26).map (·.size) = some 9 := by kernel_rfl
theorem info_spec (w : World) : Calls Tryz.prog 41 #[] w fun en w' => en = .returned (infV 16 4608 0 0 ⟨8000, 1, 8⟩ 0 ⟨#[]⟩) /\ Lo w w' := by
 go_enter Tryz.func41, Tryz.ntmps41
 go_wp2_with fail
 refine bodyPost_ret (v := infV 16 4608 0 0 ⟨8000, 1, 8⟩ 0 ⟨#[]⟩) ?_ rfl ⟨rfl, aQ⟩
 rw [S3.results_cell rfl]
 have hld := run_loadVar_row (P := Tryz.prog) (w.alloc (.cells (infC 16 4608 0 0 ⟨8000, 1, 8⟩ 0 ⟨#[]⟩) 26)) w.heap.size 26 26 (infC 16 4608 0 0 ⟨8000, 1, 8⟩ 0 ⟨#[]⟩) (0, 0) _ (heap_alloc_new _ _) Tryz.underlying26 rfl info_Info
 simp [asAddr, Result.andThen, hld]
abbrev exF : Fm := ⟨false, 0, 16, 6, 4, 1, 0, [Sb0]⟩
abbrev exI : Inf := ⟨8000, 1, 8⟩
abbrev exP : List (List Int) := [List.replicate 16 0]
theorem ex_ok : okF exF exI exP := by
 refine ⟨⟨⟨by decide, by decide, by decide, by decide, ⟨by decide, .inr (.inl ⟨rfl, by decide⟩)⟩, .inr (.inl ⟨by decide, by decide⟩), .inr ⟨by decide, by decide, by decide⟩⟩, rfl, fun c hc => ?_⟩, ⟨rfl, fun l hl => ?_⟩, fun c hc => ?_⟩
 ·have e : c = 0 := by have : c < 1 := hc; omega
  subst e
  exact ⟨⟨by decide, by decide⟩, ⟨by decide, by decide⟩, ⟨by decide, by decide⟩, .inl ⟨.inl rfl, ⟨rfl, rfl, rfl⟩, rfl, rfl⟩⟩
 ·rw [List.mem_singleton] at hl
  subst hl
  exact ⟨by decide, fun x hx => by rw [(List.mem_replicate.1 hx).2]; decide⟩
 ·have e : c = 0 := by have : c < 1 := hc; omega
  subst e
  refine ⟨?_, by decide, ?_, ?_⟩
  ·intro x hx
   have hx2 : x ∈ List.replicate 16 (0 : Int) := hx
   rw [(List.mem_replicate.1 hx2).2]; decide
  ·intro _ x hx
   have hx2 : x ∈ List.replicate 16 (0 : Int) := hx
   rw [(List.mem_replicate.1 hx2).2]; rfl
  ·intro h; rcases h with h | h <;> cases h
theorem ex_bytes : (frL exF exI exP).length = 11 /\ (frL exF exI exP).take 6 = [255, 248, 100, 2, 0, 15] := by decide +kernel
structure AW (w wx : World) : Prop where
 sb : wx.heap[w.heap.size]? = some (.cells #[.int .i64 0, .int .i64 0, .int .i64 0, .int .i64 0, .int .i64 0, .slice none 0 0, .int .i64 0, .int .i64 0, .slice none 0 0, .slice none 0 0] 67 (0, 0))
 fb : wx.heap[w.heap.size + 1]? = some (.cells #[.bool false, .int .i64 0, .int .i64 16, .int .i64 6, .int .i64 4, .int .i64 1, .int .i64 0, .slice (some ⟨w.heap.size, 0, none⟩) 1 1] 24 (0, 0))
 low : Lo w wx
theorem AW.next {w wx w' : World} (h : AW w wx) (hb : Lo wx w') : AW w w' :=
 ⟨by rw [hb.block _ (lt_of_block h.sb)]; exact h.sb, by rw [hb.block _ (lt_of_block h.fb)]; exact h.fb, h.low.trans (hb.mono h.low.size)⟩
theorem AW.fm {w wx : World} (h : AW w wx) : FmAt wx exF (some ⟨w.heap.size, 0, none⟩) 1 := by
 refine ⟨⟨by decide, fun _ => ⟨w.heap.size, 0, rfl, fun c hc => ?_⟩⟩, ⟨by decide, fun h => by cases h⟩, by decide, by decide, by decide, by decide, by decide, by decide⟩
 have e : c = 0 := by have : c < 1 := hc; omega
 subst e
 refine ⟨none, 0, none, 0, none, 0, ?_, ⟨IntsAt.nil wx, ⟨IntsAt.nil wx, IntsAt.nil wx, by decide, by decide, by decide, by decide⟩, by decide, by decide, by decide, by decide, by decide⟩, by decide, fun _ => rfl⟩
 refine ⟨?_, ?_, ?_, ?_, ?_, ?_, ?_, ?_, ?_, ?_⟩ <;> (rw [cell_of_row _ _ _ _ _ _ h.sb]; rfl)
theorem AW.cells {w wx : World} (h : AW w wx) : wx.cell? ⟨w.heap.size + 1, 0, none⟩ = some (.bool false) /\ wx.cell? ⟨w.heap.size + 1, 1, none⟩ = some (.int .i64 0) /\ wx.cell? ⟨w.heap.size + 1, 2, none⟩ = some (.int .i64 16) /\ wx.cell? ⟨w.heap.size + 1, 3, none⟩ = some (.int .i64 6) /\ wx.cell? ⟨w.heap.size + 1, 4, none⟩ = some (.int .i64 4) /\ wx.cell? ⟨w.heap.size + 1, 5, none⟩ = some (.int .i64 1) /\ wx.cell? ⟨w.heap.size + 1, 6, none⟩ = some (.int .i64 0) /\ wx.cell? ⟨w.heap.size + 1, 7, none⟩ = some (.slice (some ⟨w.heap.size, 0, none⟩) 1 1) := by
 refine ⟨?_, ?_, ?_, ?_, ?_, ?_, ?_, ?_⟩ <;> (rw [cell_row h.fb]; rfl)
theorem zero_rows {wx : World} {b1 b2 : Nat} (h1 : wx.heap[b1]? = some (.cells (madeCells #[.int .i64 0] 16) 3 (0, 0))) (h2 : wx.heap[b2]? = some (.cells #[.slice (some ⟨b1, 0, none⟩) 16 16] 56 (0, 0))) : RowsAt wx (some ⟨b2, 0, none⟩) exP := by
 refine ⟨by decide, fun _ => ⟨b2, 0, rfl, fun i hi => ?_⟩⟩
 have e : i = 0 := by have : i < 1 := hi; omega
 subst e
 refine ⟨some ⟨b1, 0, none⟩, 16, by rw [cell_row h2]; rfl, by decide, (fun h => by cases h), ?_⟩
 show IntsAt wx (some ⟨b1, 0, none⟩) (List.replicate 16 0)
 refine ⟨by decide, fun x hx => by rw [(List.mem_replicate.1 hx).2]; decide, fun _ => ⟨b1, 0, rfl, fun j hj => ?_⟩⟩
 have hj2 : j < 16 := by rw [List.length_replicate] at hj; exact hj
 rw [Nat.zero_add, cell_row h1, List.getD_eq_getElem?_getD, List.getElem?_replicate, if_pos hj2]
 simp only [madeCells, Array.getElem?_map, Array.getElem?_range]
 have hs : (#[.int .i64 0] : Array Value).size = 1 := rfl
 rw [hs, if_pos hj2, Option.map_some, Nat.mod_one]
 rfl
theorem ex_text : ∃ t : ByteArray, textOf (frL exF exI exP) = t /\ t.size = 11 /\ t.extract 0 6 = ⟨#[255, 248, 100, 2, 0, 15]⟩ /\ bytesOf (t ++ ⟨#[120]⟩) = frL exF exI exP ++ [120] := by
 refine ⟨_, rfl, ?_, ?_, ?_⟩ <;> decide +kernel
theorem awake_spec (w : World) (hL : Lay w) : Calls Tryz.prog 12 #[] w fun e w' => e = .returned (.bool true) /\ Lo w w' := by
 have HLay := kQ hL
 clear hL
 obtain ⟨t, h0, ht, hx, hby⟩ := ex_text
 have hn : (frL exF exI exP).length = 11 := ex_bytes.1
 have KB : Hid (∀ wx b2, Lay wx -> AW w wx -> RowsAt wx (some ⟨b2, 0, none⟩) exP -> G1 8 #[.agg #[.bool false, .int .i64 0, .int .i64 16, .int .i64 6, .int .i64 4, .int .i64 1, .int .i64 0, .slice (some ⟨w.heap.size, 0, none⟩) 1 1], infV 16 4608 0 0 ⟨8000, 1, 8⟩ 0 ⟨#[]⟩, .slice (some ⟨b2, 0, none⟩) 1 1] wx (.tuple #[.string t, .int .i64 0])) := fun wx b2 h1 h2 h3 => by
  have g := build_ok exF (some ⟨w.heap.size, 0, none⟩) 1 16 4608 0 0 exI 0 ⟨#[]⟩ (by decide) exP (some ⟨b2, 0, none⟩) 1 wx h1 h2.fm h3 ex_ok
  rw [h0] at g
  exact g
 have KP : Hid (∀ wx, Lay wx -> Calls Tryz.prog 13 #[.string (t ++ ⟨#[120]⟩), infV 16 4608 0 0 ⟨8000, 1, 8⟩ 0 ⟨#[]⟩] wx fun en w' => ∃ ro rk so sk, en = .returned (.tuple #[.slice ro 1 rk, .agg #[.bool false, .int .i64 0, .int .i64 16, .int .i64 6, .int .i64 4, .int .i64 1, .int .i64 0, .slice so 1 sk], .int .i64 11, .int .i64 0]) /\ RowsAt w' ro exP /\ FmAt w' exF so sk /\ Lo wx w') := fun wx h1 => by
  have g := parse_ok (t ++ ⟨#[120]⟩) (by rw [ByteArray.size_append, ht]; decide) 16 4608 0 0 exI 0 ⟨#[]⟩ (by decide) exF exP [120] ex_ok hby wx h1
  rw [hn] at g
  exact g
 have KM : Hid (∀ wx, Lay wx -> G1 13 #[.string ⟨#[102, 76, 97, 67]⟩, infV 16 4608 0 0 ⟨8000, 1, 8⟩ 0 ⟨#[]⟩] wx (.tuple #[.slice none 0 0, .agg #[.bool false, .int .i64 0, .int .i64 0, .int .i64 0, .int .i64 0, .int .i64 0, .int .i64 0, .slice none 0 0], .int .i64 0, .int .i64 2])) := fun wx h1 =>
  parse_mal ⟨#[102, 76, 97, 67]⟩ (by decide) 16 4608 0 0 exI 0 ⟨#[]⟩ (by decide) wx h1
 have HMK : Hid (∀ wx : World, (Instr.makeSlice 56 (.int .i64 16) (.int .i64 16)).run Tryz.prog wx = .ok (.slice (some ⟨wx.heap.size, 0, none⟩) 16 16) (wx.alloc (.cells (madeCells #[.int .i64 0] 16) 3))) := fun wx => make_ints 16 (by decide) wx
 have HA0 : Hid (AW w ((w.alloc (.cells #[.int .i64 0, .int .i64 0, .int .i64 0, .int .i64 0, .int .i64 0, .slice none 0 0, .int .i64 0, .int .i64 0, .slice none 0 0, .slice none 0 0] 67)).alloc (.cells #[.bool false, .int .i64 0, .int .i64 16, .int .i64 6, .int .i64 4, .int .i64 1, .int .i64 0, .slice (some ⟨w.heap.size, 0, none⟩) 1 1] 24))) := by
  refine ⟨heap_two _ _ _, ?_, aQ.alloc (by simp) _⟩
  have hh := heap_alloc_new (w.alloc (.cells #[.int .i64 0, .int .i64 0, .int .i64 0, .int .i64 0, .int .i64 0, .slice none 0 0, .int .i64 0, .int .i64 0, .slice none 0 0, .slice none 0 0] 67)) (.cells #[.bool false, .int .i64 0, .int .i64 16, .int .i64 6, .int .i64 4, .int .i64 1, .int .i64 0, .slice (some ⟨w.heap.size, 0, none⟩) 1 1] 24)
  rw [show (w.alloc (.cells #[.int .i64 0, .int .i64 0, .int .i64 0, .int .i64 0, .int .i64 0, .slice none 0 0, .int .i64 0, .int .i64 0, .slice none 0 0, .slice none 0 0] 67)).heap.size = w.heap.size + 1 from by simp] at hh
  exact hh
 clear h0 hby hn
 go_enter Tryz.func12, Tryz.ntmps12
 go_upto_region 2 with fail
 generalize World.alloc _ _ = wa at *
 refine wp_region_held_drew (S := fun wx => AW w wx) (by kernel_rfl) (HA0.out.next (Below.refl _ _).drew) (fun hS => ?_)
 refine uQ 0 (.agg #[.bool false, .int .i64 0, .int .i64 16, .int .i64 6, .int .i64 4, .int .i64 1, .int .i64 0, .slice (some ⟨w.heap.size, 0, none⟩) 1 1]) rfl hS (Or.inl ⟨by rfl, fun w hSw => by obtain ⟨y0, y1, y2, y3, y4, y5, y6, y7⟩ := hSw.cells; go_simp⟩) ?_
 simp only [SL]
 generalize World.drew _ = wr at *
 refine wpAnyH_ready (rs := [1, 2]) (by kernel_rfl) (by simp) ?_
 refine (AllReadyH.cons rfl (fun K hK => ?_) (AllReadyH.cons rfl (fun K hK => ?_) AllReadyH.nil))
 focus
  go_simp
  refine (info_spec wr).mono ?_
  rintro en wi ⟨rfl, hbi⟩
  refine hK.out _ _ (hS.next hbi) (fun hSi => ?_)
  clear hK K hbi
  try simp only [SL]
  refine wpAnyH_ready (rs := [2]) (by kernel_rfl) (by simp) ?_
  refine (AllReadyH.cons rfl (fun K hK => ?_) AllReadyH.nil)
  have hmk := HMK.out wi
  go_simp
  have HMm : Hid ((wi.alloc (.cells (madeCells #[.int .i64 0] 16) 3)).heap[wi.heap.size]? = some (.cells (madeCells #[.int .i64 0] 16) 3 (0, 0))) := heap_alloc_new _ _
  refine hK.out _ _ (hSi.next aQ) (fun hSm => ?_)
  clear hK K hmk
  try simp only [SL]
  generalize hwm : wi.alloc _ = wm at *
  generalize wi.heap.size = b1 at *
  clear hwm
  refine wpAnyH_ready (rs := [3]) (by kernel_rfl) (by simp) ?_
  refine (AllReadyH.cons rfl (fun K hK => ?_) AllReadyH.nil)
  go_simp
  have HRb : Hid (RowsAt (wm.alloc (.cells #[.slice (some ⟨b1, 0, none⟩) 16 16] 56)) (some ⟨wm.heap.size, 0, none⟩) exP) := zero_rows (by rw [Below.block aQ _ (lt_of_block HMm.out)]; exact HMm.out) (heap_alloc_new _ _)
  refine hK.out _ _ (hSm.next aQ) (fun hSb => ?_)
  clear hK K
  try simp only [SL]
  generalize hwb : wm.alloc _ = wbb at *
  generalize wm.heap.size = b2 at *
  clear hwb
  refine wpAnyH_ready (rs := [4]) (by kernel_rfl) (by simp) ?_
  refine (AllReadyH.cons rfl (fun K hK => ?_) AllReadyH.nil)
  go_simp
  refine (KB.out wbb b2 (HLay.out.below hSb.low) hSb HRb.out).mono ?_
  rintro en wb ⟨rfl, hbb⟩
  have HA5 := kQ (hSb.next hbb)
  refine hK.out _ _ HA5.out (fun hS5 => ?_)
  clear hK K hbb
  try simp only [SL]
  refine vQ 5 (.tuple #[.string t, .int .i64 0]) hS5 ?_
  simp only [SL]
  refine vQ 6 (.string t) hS5 ?_
  simp only [SL]
  refine vQ 7 (.int .i64 0) hS5 ?_
  simp only [SL]
 rotate_left
 focus
  have hmk := HMK.out wr
  go_simp
  have HMm : Hid ((wr.alloc (.cells (madeCells #[.int .i64 0] 16) 3)).heap[wr.heap.size]? = some (.cells (madeCells #[.int .i64 0] 16) 3 (0, 0))) := heap_alloc_new _ _
  refine hK.out _ _ (hS.next aQ) (fun hSm => ?_)
  clear hK K hmk
  try simp only [SL]
  generalize hwm : wr.alloc _ = wm at *
  generalize wr.heap.size = b1 at *
  clear hwm
  refine wpAnyH_ready (rs := [1, 3]) (by kernel_rfl) (by simp) ?_
  refine (AllReadyH.cons rfl (fun K hK => ?_) (AllReadyH.cons rfl (fun K hK => ?_) AllReadyH.nil))
  focus
   go_simp
   refine (info_spec wm).mono ?_
   rintro en wi ⟨rfl, hbi⟩
   have HMi : Hid (wi.heap[b1]? = some (.cells (madeCells #[.int .i64 0] 16) 3 (0, 0))) := by show _ = _; rw [hbi.block _ (lt_of_block HMm.out)]; exact HMm.out
   refine hK.out _ _ (hSm.next hbi) (fun hSi => ?_)
   clear hK K hbi
   try simp only [SL]
   refine wpAnyH_ready (rs := [3]) (by kernel_rfl) (by simp) ?_
   refine (AllReadyH.cons rfl (fun K hK => ?_) AllReadyH.nil)
   go_simp
   have HRb : Hid (RowsAt (wi.alloc (.cells #[.slice (some ⟨b1, 0, none⟩) 16 16] 56)) (some ⟨wi.heap.size, 0, none⟩) exP) := zero_rows (by rw [Below.block aQ _ (lt_of_block HMi.out)]; exact HMi.out) (heap_alloc_new _ _)
   refine hK.out _ _ (hSi.next aQ) (fun hSb => ?_)
   clear hK K
   try simp only [SL]
   generalize hwb : wi.alloc _ = wbb at *
   generalize wi.heap.size = b2 at *
   clear hwb
   refine wpAnyH_ready (rs := [4]) (by kernel_rfl) (by simp) ?_
   refine (AllReadyH.cons rfl (fun K hK => ?_) AllReadyH.nil)
   go_simp
   refine (KB.out wbb b2 (HLay.out.below hSb.low) hSb HRb.out).mono ?_
   rintro en wb ⟨rfl, hbb⟩
   have HA5 := kQ (hSb.next hbb)
   refine hK.out _ _ HA5.out (fun hS5 => ?_)
   clear hK K hbb
   try simp only [SL]
   refine vQ 5 (.tuple #[.string t, .int .i64 0]) hS5 ?_
   simp only [SL]
   refine vQ 6 (.string t) hS5 ?_
   simp only [SL]
   refine vQ 7 (.int .i64 0) hS5 ?_
   simp only [SL]
  rotate_left
  focus
   go_simp
   have HRb : Hid (RowsAt (wm.alloc (.cells #[.slice (some ⟨b1, 0, none⟩) 16 16] 56)) (some ⟨wm.heap.size, 0, none⟩) exP) := zero_rows (by rw [Below.block aQ _ (lt_of_block HMm.out)]; exact HMm.out) (heap_alloc_new _ _)
   refine hK.out _ _ (hSm.next aQ) (fun hSb => ?_)
   clear hK K
   try simp only [SL]
   generalize hwb : wm.alloc _ = wbb at *
   generalize wm.heap.size = b2 at *
   clear hwb
   refine wpAnyH_ready (rs := [1]) (by kernel_rfl) (by simp) ?_
   refine (AllReadyH.cons rfl (fun K hK => ?_) AllReadyH.nil)
   go_simp
   refine (info_spec wbb).mono ?_
   rintro en wi ⟨rfl, hbi⟩
   have HRi := kQ (HRb.out.below hbi)
   refine hK.out _ _ (hSb.next hbi) (fun hSi => ?_)
   clear hK K hbi
   try simp only [SL]
   refine wpAnyH_ready (rs := [4]) (by kernel_rfl) (by simp) ?_
   refine (AllReadyH.cons rfl (fun K hK => ?_) AllReadyH.nil)
   go_simp
   refine (KB.out wi b2 (HLay.out.below hSi.low) hSi HRi.out).mono ?_
   rintro en wb ⟨rfl, hbb⟩
   have HA5 := kQ (hSi.next hbb)
   refine hK.out _ _ HA5.out (fun hS5 => ?_)
   clear hK K hbb
   try simp only [SL]
   refine vQ 5 (.tuple #[.string t, .int .i64 0]) hS5 ?_
   simp only [SL]
   refine vQ 6 (.string t) hS5 ?_
   simp only [SL]
   refine vQ 7 (.int .i64 0) hS5 ?_
   simp only [SL]
  rotate_left
 rotate_left 2
 all_goals
  refine vQ 8 (.string t) hS5 ?_
  simp only [SL]
  refine vQ 9 (.int .i64 0) hS5 ?_
  simp only [SL]
  refine wpAnyH_done (by kernel_rfl) ?_ _
  clear hS5
  go_wp2_with fail
  refine (info_spec wb).mono ?_
  rintro en wc ⟨rfl, hbc⟩
  have HA6 := kQ (HA5.out.next hbc)
  clear hbc HA5
  go_wp2_with fail
  refine (KP.out wc (HLay.out.below HA6.out.low)).mono ?_
  rintro en wd ⟨ro, rk, so, sk, rfl, hr7, hf7, hb7⟩
  have HA7 : Hid (AW w (wd.alloc (.cells #[.bool false, .int .i64 0, .int .i64 16, .int .i64 6, .int .i64 4, .int .i64 1, .int .i64 0, .slice so 1 sk] 24))) := (HA6.out.next hb7).next aQ
  have HR7 : Hid (RowsAt (wd.alloc (.cells #[.bool false, .int .i64 0, .int .i64 16, .int .i64 6, .int .i64 4, .int .i64 1, .int .i64 0, .slice so 1 sk] 24)) ro exP) := hr7.below aQ
  have HF7 : Hid (FmAt (wd.alloc (.cells #[.bool false, .int .i64 0, .int .i64 16, .int .i64 6, .int .i64 4, .int .i64 1, .int .i64 0, .slice so 1 sk] 24)) exF so sk) := ⟨hf7.S.below aQ, hf7.sk_, hf7.num, hf7.size, hf7.sc, hf7.rc, hf7.wc, hf7.mo⟩
  have HG7 : Hid ((wd.alloc (.cells #[.bool false, .int .i64 0, .int .i64 16, .int .i64 6, .int .i64 4, .int .i64 1, .int .i64 0, .slice so 1 sk] 24)).heap[wd.heap.size]? = some (.cells #[.bool false, .int .i64 0, .int .i64 16, .int .i64 6, .int .i64 4, .int .i64 1, .int .i64 0, .slice so 1 sk] 24 (0, 0))) := heap_alloc_new _ _
  clear hr7 hf7 hb7 HA6
  go_upto_region 6 with fail
  generalize hwe : World.alloc _ _ = we at *
  generalize wd.heap.size = gk at *
  clear hwe
  go_wp2_with fail
  refine (info_spec we).mono ?_
  rintro en wf ⟨rfl, hbf⟩
  have HA8 := kQ (HA7.out.next hbf)
  have HR8 := kQ (HR7.out.below hbf)
  have HF8 := kQ (HF7.out.S.below hbf)
  have HG8 : Hid (wf.heap[gk]? = some (.cells #[.bool false, .int .i64 0, .int .i64 16, .int .i64 6, .int .i64 4, .int .i64 1, .int .i64 0, .slice so 1 sk] 24 (0, 0))) := by show _ = _; rw [hbf.block _ (lt_of_block HG7.out)]; exact HG7.out
  clear hbf HA7 HR7 HF7 HG7
  go_wp2_with fail
  refine (KM.out wf (HLay.out.below HA8.out.low)).mono ?_
  rintro en wg ⟨rfl, hbg⟩
  have hbh : Lo wf (wg.alloc (.cells #[.bool false, .int .i64 0, .int .i64 0, .int .i64 0, .int .i64 0, .int .i64 0, .int .i64 0, .slice none 0 0] 24)) := hbg.alloc hbg.size _
  have HA9 := kQ (HA8.out.next hbh)
  have HR9 := kQ (HR8.out.below hbh)
  have HF9 := kQ (HF8.out.below hbh)
  have HG9 : Hid ((wg.alloc (.cells #[.bool false, .int .i64 0, .int .i64 0, .int .i64 0, .int .i64 0, .int .i64 0, .int .i64 0, .slice none 0 0] 24)).heap[gk]? = some (.cells #[.bool false, .int .i64 0, .int .i64 16, .int .i64 6, .int .i64 4, .int .i64 1, .int .i64 0, .slice so 1 sk] 24 (0, 0))) := (hbh.block _ (lt_of_block HG8.out)).trans HG8.out
  clear hbg hbh HA8 HR8 HF8 HG8
  go_upto_region 7 with fail
  generalize World.alloc _ _ = wh at *
  obtain ⟨rb, rf, rfl, hrow⟩ := HR9.out.lies (by decide)
  obtain ⟨a0, c0, e0, _⟩ := hrow 0 (by decide)
  have e0' : wh.cell? ⟨rb, rf, none⟩ = some (.slice a0 16 c0) := e0
  clear e0 hrow
  have ks := fr_same exF (some ⟨w.heap.size, 0, none⟩) so 1 sk wh HA9.out.fm.S HF9.out
  obtain ⟨y0, y1, y2, y3, y4, y5, y6, y7⟩ := HA9.out.cells
  have x0 : wh.cell? ⟨gk, 0, none⟩ = some (.bool false) := by rw [cell_row HG9.out]; rfl
  have x1 : wh.cell? ⟨gk, 1, none⟩ = some (.int .i64 0) := by rw [cell_row HG9.out]; rfl
  have x2 : wh.cell? ⟨gk, 2, none⟩ = some (.int .i64 16) := by rw [cell_row HG9.out]; rfl
  have x3 : wh.cell? ⟨gk, 3, none⟩ = some (.int .i64 6) := by rw [cell_row HG9.out]; rfl
  have x4 : wh.cell? ⟨gk, 4, none⟩ = some (.int .i64 4) := by rw [cell_row HG9.out]; rfl
  have x5 : wh.cell? ⟨gk, 5, none⟩ = some (.int .i64 1) := by rw [cell_row HG9.out]; rfl
  have x6 : wh.cell? ⟨gk, 6, none⟩ = some (.int .i64 0) := by rw [cell_row HG9.out]; rfl
  have x7 : wh.cell? ⟨gk, 7, none⟩ = some (.slice so 1 sk) := by rw [cell_row HG9.out]; rfl
  go_wp2_with fail
  refine ks.mono ?_
  rintro en wk ⟨rfl, hbk⟩
  have HL := kQ (HA9.out.low.trans (hbk.mono HA9.out.low.size))
 ·clear hbk ks
  go_wp2_with fail
  go_ret
  exact ⟨rfl, HL.out⟩
 ·clear hbk ks
  go_wp2_with fail
  go_ret
  exact ⟨rfl, HL.out⟩
 ·clear hbk ks
  go_wp2_with fail
  go_ret
  exact ⟨rfl, HL.out⟩
theorem bytesOf_app (a b : ByteArray) : bytesOf (a ++ b) = bytesOf a ++ bytesOf b := by
 apply List.ext_getElem
 ·rw [List.length_append, bytesOf_length, bytesOf_length, bytesOf_length, ByteArray.size_append]
 ·intro j h1 h2
  rw [bytesOf_length, ByteArray.size_append] at h1
  rw [bytesOf_get _ _ (by rw [ByteArray.size_append]; exact h1)]
  by_cases h : j < a.size
  ·rw [List.getElem_append_left (by rw [bytesOf_length]; exact h), bytesOf_get _ _ h, ByteArray.getElem_append_left h]
  ·rw [List.getElem_append_right (by rw [bytesOf_length]; omega)]
   simp only [bytesOf_length]
   rw [bytesOf_get _ _ (by omega), ByteArray.getElem_append_right (by omega)]
end Go.Proofs.YtfpfabmbipmipaaGreatDoor
