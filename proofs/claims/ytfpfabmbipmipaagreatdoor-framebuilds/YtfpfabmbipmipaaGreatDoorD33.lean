/- Own text. -/
import Derived.Test.YtfpfabmbipmipaaGreatDoorD32
set_option linter.unusedSimpArgs false
set_option linter.unusedVariables false
set_option maxRecDepth 20000
set_option maxHeartbeats 12800000
namespace Go.Proofs.YtfpfabmbipmipaaGreatDoor
open Go.RowKit
theorem wdA_rng (i : Inf) (m : Int) (c : Nat) (hw : 4 <= i.wd /\ i.wd <= 24) : 4 <= wdA i m c /\ wdA i m c <= 25 := by unfold wdA; split <;> omega
structure WG (w : World) (f : Fm) (so : OA) (sk : Nat) (a b c d : Int) (i : Inf) (e : Int) (s : ByteArray) (p : Nat) (ao aj : OA) (B : List Nat) (wx : World) : Prop where
 wb : WB w p ao aj B (w.heap.size + 2) wx
 fb : wx.heap[w.heap.size]? = some (.cells (fmC f so sk) 24 (0, 0))
 ib : wx.heap[w.heap.size + 1]? = some (.cells (infC a b c d i e s) 26 (0, 0))
section
variable {w wx w' : World} {f : Fm} {so : OA} {sk : Nat} {a b c d : Int} {i : Inf} {e : Int} {s : ByteArray} {p : Nat} {ao aj ao' : OA} {B B' : List Nat}
theorem WG.put (h : WG w f so sk a b c d i e s p ao aj B wx) (hw : WrB w' p ao' B') (hS : Stays (foot p aj) wx w') (hM : Moved wx.heap.size aj ao') : WG w f so sk a b c d i e s p ao ao' B' w' :=
 ⟨h.wb.put hw hS hM, by rw [h.wb.box hS _ (Nat.le_refl _) (by omega)]; exact h.fb, by rw [h.wb.box hS _ (by omega) (by omega)]; exact h.ib⟩
theorem WG.low (h : WG w f so sk a b c d i e s p ao aj B wx) (hb : Lo wx w') : WG w f so sk a b c d i e s p ao aj B w' :=
 ⟨h.wb.low hb, by rw [hb.block _ (lt_of_block h.fb)]; exact h.fb, by rw [hb.block _ (lt_of_block h.ib)]; exact h.ib⟩
theorem WB.apart {K : Nat} {xo : OA} {l : List Int} (h : WB w p ao aj B K wx) (hl : IntsAt w xo l) (ha : Apart p ao xo l) : Apart p aj xo l := fun h0 b hb hf => by
 rcases hf with hf | hf
 ·exact ha h0 b hb (Or.inl hf)
 ·rcases h.mv b hf with h1 | h1
  ·exact ha h0 b hb (Or.inr h1)
  ·have := hl.blk h0 b hb; omega
theorem WB.high {K n0 : Nat} (h : WB w p ao aj B K wx) (hn : n0 <= w.heap.size) (hft : ∀ k, foot p ao k -> n0 <= k) : ∀ k, foot p aj k -> n0 <= k := fun k hk => by
 rcases hk with hk | hk
 ·exact hft k (Or.inl hk)
 ·rcases h.mv k hk with h1 | h1
  ·exact hft k (Or.inr h1)
  ·omega
end
theorem apart_high {we : World} {p : Nat} {aj xo : OA} {l : List Int} (hl : IntsAt we xo l) (hft : ∀ k, foot p aj k -> we.heap.size <= k) : Apart p aj xo l := fun h0 b hb hf => by
 have := hft b hf
 have := hl.blk h0 b hb
 omega
theorem f_wsubs (f : Fm) (so : OA) (sk : Nat) (a b c d : Int) (i : Inf) (e : Int) (s : ByteArray) (hw : 4 <= i.wd /\ i.wd <= 24) (L : List (List Int)) (hLn : L.length = f.S.length) (hn8 : L.length <= 8) (hl4 : ∀ j, j < L.length -> (L.getD j []).length <= 4608) (we : World) (hS : SubsAt we so f.S) (p : Nat) (ao : OA) (B : List Nat) (hft : ∀ k, foot p ao k -> we.heap.size <= k) (h01 : Bits01 B) (hB : B.length <= 1000000000) (po : OA) (pk : Nat) (w : World) (hbe : Lo we w) (hwr : WrB w p ao B) (hR : RowsP (foot p ao) w po L) (r : Int) (hyes : (∀ j, j < L.length -> okS (f.S.getD j Sb0) (wdA i f.mo j) (L.getD j [])) -> r = 0) (hno : ¬ (∀ j, j < L.length -> okS (f.S.getD j Sb0) (wdA i f.mo j) (L.getD j [])) -> r = 60) :
  Calls Tryz.prog 21 #[.pointer (some ⟨p, 0, none⟩), fmV f so sk, infV a b c d i e s, .slice po L.length pk] w fun en w' => en = .returned (.int .i64 r) /\ Stays (foot p ao) w w' /\ (∃ ao', Moved w.heap.size ao ao' /\ ((∀ j, j < L.length -> okS (f.S.getD j Sb0) (wdA i f.mo j) (L.getD j [])) -> WrB w' p ao' (B ++ chB i f.mo f.S L L.length))) := by
 have HBL : Hid (∀ n, n <= L.length -> (∀ j, j < n -> okS (f.S.getD j Sb0) (wdA i f.mo j) (L.getD j [])) -> (B ++ chB i f.mo f.S L n).length <= 800000000000) := fun n hn hok => by
  have h1 := chB_room i f.mo f.S L n (by omega) (fun j hj => ⟨hok j hj, hl4 j (by omega)⟩)
  have h2 : 90000000000 * n <= 90000000000 * 8 := Nat.mul_le_mul_left _ (by omega)
  rw [List.length_append]; omega
 have HSS := kQ hS
 have HBE := kQ hbe
 have HFT := kQ hft
 have HL4 := kQ hl4
 have HYN : Hid (((∀ j, j < L.length -> okS (f.S.getD j Sb0) (wdA i f.mo j) (L.getD j [])) -> r = 0) /\ (¬ (∀ j, j < L.length -> okS (f.S.getD j Sb0) (wdA i f.mo j) (L.getD j [])) -> r = 60)) := ⟨hyes, hno⟩
 have HR := kQ hR
 have hsl := hS.len
 have H0 : Hid (WG w f so sk a b c d i e s p ao ao B ((w.alloc (.cells (fmC f so sk) 24)).alloc (.cells (infC a b c d i e s) 26))) := by
  have g := FX.new w f so sk a b c d i e s;exact ⟨WB.start hwr g.below _ (by simp), g.fb, g.ib⟩
 have HLN := kQ hLn
 clear hS hbe hft hl4 hyes hno hR hwr hLn
 go_enter Tryz.func21, Tryz.ntmps21
 go_upto_region 1 with fail
 generalize World.alloc _ _ = w0 at *
 go_wp2_with fail
 go_loopw [9, 10, 11, 14] (fun s9 s10 s11 s14 wr => ∃ (n : Nat) (aj : OA), n <= L.length /\ s14 = .int .i64 (n : Int) /\ (∀ j, j < n -> okS (f.S.getD j Sb0) (wdA i f.mo j) (L.getD j [])) /\ WG w f so sk a b c d i e s p ao aj (B ++ chB i f.mo f.S L n) wr) (fun _ _ _ s14 _ => L.length - (intOf s14).toNat)
 case atStart => exact ⟨0, ao, Nat.zero_le _, rfl, fun j hj => absurd hj (Nat.not_lt_zero _), by rw [show chB i f.mo f.S L 0 = [] from rfl, List.append_nil]; exact H0.out⟩
 case round =>
  clear H0;obtain ⟨n, aj, hn, rfl, hok, hg⟩ := hrel;have HOK := kQ hok;have HG := kQ hg;clear hok hg;by_cases hlt : n < L.length
  focus
   obtain ⟨sb, sf, rfl, q1⟩ := HSS.out.lies (by have := HLN.out; omega)
   obtain ⟨ca, cc, pa, pc, ea, ec, m1, m2, m3⟩ := q1 n (by have := HLN.out; omega)
   have hnS : n < f.S.length := by have := HLN.out; omega
   obtain ⟨rb, rf, rfl, hrb, q2⟩ := HR.out.lies (by omega)
   obtain ⟨la, lc, n1, n2, n3, n4, n5⟩ := q2 n hlt;have hsbl := lt_cell m1.1;have hrbl := lt_cell n1;simp only at hsbl hrbl
   have hsame : ∀ k, k < we.heap.size -> wr.heap[k]? = we.heap[k]? := fun k hk => by
    rw [HG.out.wb.st.block k (by have := HBE.out.size; omega) (fun hf => by have := HFT.out k hf; omega), HBE.out.block k hk]
   have m1w : SubIn w sb (sf + n * 10) (f.S.getD n Sb0) ca cc pa pc ea ec := m1.keep (HBE.out.block _ hsbl);have m1r : SubIn wr.drew sb (sf + n * 10) (f.S.getD n Sb0) ca cc pa pc ea ec := m1.keep (hsame _ hsbl);have m2r : SbAt wr.drew (f.S.getD n Sb0) ca pa ea := m2.keep hsame;have n1r : wr.cell? ⟨rb, rf + n, none⟩ = some (.slice la (L.getD n []).length lc) := by rw [World.cell?_of_block (w := w) (HG.out.wb.st.block rb hrbl hrb)]; exact n1
   have n4r : IntsAt wr.drew la (L.getD n []) := (HG.out.wb.ints n4 n5).below ((Below.refl _ _).drew);have KW : Hid (∀ wx, G0 65 #[.int .i64 f.mo, .int .i64 (n : Int), .int .i64 i.wd] wx (.int .i64 (wdA i f.mo n))) := fun wx => f_subW i f.mo n hw wx;have hhi := HG.out.wb.high HBE.out.size HFT.out;have HGD : Hid (WG w f (some ⟨sb, sf, none⟩) sk a b c d i e s p ao aj (B ++ chB i f.mo f.S L n) wr.drew) := HG.out.low dQ;have HSUB := kQ m1w;have HSL : Hid (sb < w.heap.size) := by show _ < _; have := HBE.out.size; omega
   have HSB := kQ hsbl;have hl4n := HL4.out n hlt;have hbl := HBL.out n (by omega) (fun j hj => HOK.out j hj)
   have o1 : Bits01 (B ++ chB i f.mo f.S L n) := h01.append (chB_01 _ _ _ _ _);by_cases hs : okS (f.S.getD n Sb0) (wdA i f.mo n) (L.getD n [])
   focus
    have ke := enc_ok10 (f.S.getD n Sb0) (wdA i f.mo n) (L.getD n []) ca cc pa pc ea ec la lc p aj (B ++ chB i f.mo f.S L n) wr.drew n2 n3 m3.2 m3.1 o1 (by omega) m2r n4r HGD.out.wb.wr (apart_high m2.C hhi) (apart_high m2.R.P hhi) (apart_high m2.R.E hhi) (HG.out.wb.apart n4 n5) hs
    have HSO : Hid (∀ j, j = n -> okS (f.S.getD j Sb0) (wdA i f.mo j) (L.getD j [])) := fun j hj => by rw [hj]; exact hs
    have HNX : Hid (B ++ chB i f.mo f.S L (n + 1) = B ++ chB i f.mo f.S L n ++ subB (f.S.getD n Sb0) (wdA i f.mo n) (L.getD n [])) := by
     show B ++ (chB i f.mo f.S L n ++ _) = _;rw [List.append_assoc]
    clear hs HYN;have HS0 : Hid (wr.drew.heap[w.heap.size]? = some (.cells (fmC f (some ⟨sb, sf, none⟩) sk) 24 (0, 0)) /\ wr.drew.heap[w.heap.size + 1]? = some (.cells (infC a b c d i e s) 26 (0, 0)) /\ SubIn wr.drew sb (sf + n * 10) (f.S.getD n Sb0) ca cc pa pc ea ec) := ⟨HGD.out.fb, HGD.out.ib, m1r⟩;clear m1r;clear m1 m2 m3 m1w m2r n2 n3 n4 n4r n5 q1 q2 hsame hhi;generalize L.getD n [] = l at *;generalize f.S.getD n Sb0 = q at *;generalize wdA i f.mo n = v at *;generalize subB q v l = SB at *
   rotate_left
   focus
    have ke := enc_no10 (f.S.getD n Sb0) (wdA i f.mo n) (L.getD n []) ca cc pa pc ea ec la lc p aj (B ++ chB i f.mo f.S L n) wr.drew n2 n3 m3.2 m3.1 (by omega) (by have h1 := wdA_rng i f.mo n hw; exact ⟨by omega, by omega⟩) o1 (by omega) m2r n4r HGD.out.wb.wr (apart_high m2.C hhi) (apart_high m2.R.P hhi) (apart_high m2.R.E hhi) (HG.out.wb.apart n4 n5) hs
    have HNO : Hid (¬ (∀ j, j < L.length -> okS (f.S.getD j Sb0) (wdA i f.mo j) (L.getD j []))) := fun h => hs (h n hlt);have hr60 := HYN.out.2 HNO.out;clear hs HYN;subst hr60;have HS0 : Hid (wr.drew.heap[w.heap.size]? = some (.cells (fmC f (some ⟨sb, sf, none⟩) sk) 24 (0, 0)) /\ wr.drew.heap[w.heap.size + 1]? = some (.cells (infC a b c d i e s) 26 (0, 0)) /\ SubIn wr.drew sb (sf + n * 10) (f.S.getD n Sb0) ca cc pa pc ea ec) := ⟨HGD.out.fb, HGD.out.ib, m1r⟩;clear m1r;clear m1 m2 m3 m1w m2r n2 n3 n4 n4r n5 q1 q2 hsame hhi;generalize L.getD n [] = l at *;generalize f.S.getD n Sb0 = q at *;generalize wdA i f.mo n = v at *
   rotate_left
  rotate_left 2
  ·have hnl : n = L.length := by omega
   subst hnl;have hr0 := HYN.out.1 HOK.out;subst hr0
   go_wp2_with fail
   go_ret;exact ⟨rfl, HG.out.wb.st, aj, HG.out.wb.mv, fun _ => HG.out.wb.wr⟩
  all_goals
   generalize B ++ chB i f.mo f.S L n = BJ at *
   go_wp2_with fail
   clear n1r;refine wp_region_held_drew (S := fun wx => wx.heap[w.heap.size]? = some (.cells (fmC f (some ⟨sb, sf, none⟩) sk) 24 (0, 0)) /\ wx.heap[w.heap.size + 1]? = some (.cells (infC a b c d i e s) 26 (0, 0)) /\ SubIn wx sb (sf + n * 10) q ca cc pa pc ea ec) (by kernel_rfl) HS0.out (fun hS => ?_)
   refine vQ 0 (.pointer (some ⟨p, 0, none⟩)) hS ?_;simp only [SL];refine vQ 1 (.pointer (some ⟨w.heap.size, 7, none⟩)) hS ?_;simp only [SL];refine uQ 2 (.slice (some ⟨sb, sf, none⟩) f.S.length sk) rfl hS (Or.inl ⟨by rfl, fun w hSw => by have z := fm_cells hSw.1; obtain ⟨f0, f1, f2, f3, f4, f5, f6, f7⟩ := z; have y := inf_cells hSw.2.1; obtain ⟨i0, i1, i2, i3, i4, i5, i6, i7, i8⟩ := y; go_simp⟩) ?_
   simp only [SL];refine vQ 3 (.int .i64 (n : Int)) hS ?_;simp only [SL];refine vQ 4 (.pointer (some ⟨sb, sf + n * 10, none⟩)) hS ?_;simp only [SL];refine uQ 5 (subV q ca cc pa pc ea ec) rfl hS (Or.inl ⟨by rfl, fun w hSw => by have hk := hSw.2.2; unfold SubIn at hk; obtain ⟨x0, x1, x2, x3, x4, x5, x6, x7, x8, x9⟩ := hk; go_simp⟩) ?_
   simp only [SL];refine vQ 6 (.pointer (some ⟨w.heap.size, 6, none⟩)) hS ?_;simp only [SL];refine uQ 7 (.int .i64 f.mo) rfl hS (Or.inl ⟨by rfl, fun w hSw => by have z := fm_cells hSw.1; obtain ⟨f0, f1, f2, f3, f4, f5, f6, f7⟩ := z; have y := inf_cells hSw.2.1; obtain ⟨i0, i1, i2, i3, i4, i5, i6, i7, i8⟩ := y; go_simp⟩) ?_
   simp only [SL];refine vQ 8 (.int .i64 (n : Int)) hS ?_;simp only [SL];refine vQ 9 (.pointer (some ⟨w.heap.size + 1, 6, none⟩)) hS ?_;simp only [SL];refine uQ 10 (.int .i64 i.wd) rfl hS (Or.inl ⟨by rfl, fun w hSw => by have z := fm_cells hSw.1; obtain ⟨f0, f1, f2, f3, f4, f5, f6, f7⟩ := z; have y := inf_cells hSw.2.1; obtain ⟨i0, i1, i2, i3, i4, i5, i6, i7, i8⟩ := y; go_simp⟩) ?_
   simp only [SL];refine vQ 12 (.slice la l.length lc) hS ?_;simp only [SL];refine wpAnyH_ready (rs := [11]) (by kernel_rfl) (by simp) ?_
   refine AllReadyH.cons rfl (fun K hK => ?_) AllReadyH.nil;go_simp;refine (KW.out _).mono ?_;rintro en w4 ⟨rfl, hw4⟩;have hw5 := hw4.symm;clear hw4;subst hw5;refine hK.out _ _ hS (fun hS4 => ?_);clear hK K
   try simp only [SL]
   refine wpAnyH_ready (rs := [13]) (by kernel_rfl) (by simp) ?_
   refine AllReadyH.cons rfl (fun K hK => ?_) AllReadyH.nil;go_simp;refine ke.mono ?_
  focus
   rintro en w6 ⟨rfl, ao6, hw6, hs6, hm6⟩;have HG6 := kQ (HGD.out.put hw6 hs6 hm6)
  rotate_left
  focus
   rintro en w6 ⟨rfl, hb6⟩;have HG6 := kQ (HGD.out.low hb6)
  rotate_left
  all_goals
   have HI6 : Hid (SubIn w6 sb (sf + n * 10) q ca cc pa pc ea ec) := HSUB.out.keep (by
    rw [HG6.out.wb.st.block sb HSL.out (fun hf => by have := HFT.out _ hf; have := HSB.out; omega)])
  ·clear hw6 hs6 hm6
   refine hK.out _ _ ⟨HG6.out.fb, HG6.out.ib, HI6.out⟩ (fun hS6 => ?_);clear hK K
   try simp only [SL]
   refine vQ 14 (.int .i64 0) hS6 ?_;simp only [SL];refine wpAnyH_done (by kernel_rfl) ?_ _
   go_wp2_with fail
   go_roundw
   case rel =>
    refine ⟨n + 1, ao6, by omega, by go_num, fun j hj => ?_, by rw [HNX.out]; exact HG6.out⟩
    by_cases ej : j = n
    ·exact HSO.out j ej
    ·exact HOK.out j (by omega)
   case measure => simp [intOf]; omega
  ·clear hb6
   refine hK.out _ _ ⟨HG6.out.fb, HG6.out.ib, HI6.out⟩ (fun hS6 => ?_);clear hK K
   try simp only [SL]
   refine vQ 14 (.int .i64 60) hS6 ?_;simp only [SL];refine wpAnyH_done (by kernel_rfl) ?_ _
   go_wp2_with fail
   go_ret;exact ⟨rfl, HG6.out.wb.st, aj, HG6.out.wb.mv, fun h => absurd h HNO.out⟩
theorem num_bitsOf' (v k : Nat) (h : v < 2 ^ k) : num (bitsOf v k) = v := by
 rw [num_bitsOf]
 exact Nat.mod_eq_of_lt h
theorem bits_at {s : ByteArray} {a k v : Nat} {Z : List Nat} (h : ahead s a = bitsOf v k ++ Z) (hv : v < 2 ^ k) : bitsAt s a k = v := by
 show num ((ahead s a).take k) = v
 have hl := bitsOf_length v k
 rw [h, List.take_append_of_le_length (by omega), List.take_of_length_le (by omega), num_bitsOf' v k hv]
theorem bits_step {s : ByteArray} {a W k m : Nat} {Z : List Nat} (h : ahead s a = bitsOf W (k + m) ++ Z) : bitsAt s a k = W / 2 ^ m % 2 ^ k /\ ahead s (a + k) = bitsOf W m ++ Z := by
 have e := bitsOf_add W k m
 rw [e, List.append_assoc] at h
 have e2 := bitsOf_mod (W / 2 ^ m) k k (Nat.le_refl _)
 have h3 := h
 rw [<- e2] at h
 refine ⟨bits_at h (Nat.mod_lt _ (Nat.two_pow_pos k)), ?_⟩
 have h4 := ahead_next h3
 rw [bitsOf_length] at h4
 exact h4
theorem sbits_one (b : Nat) : sbits [b] = bitsOf b 8 := by unfold sbits; simp
theorem sbits_two (a b : Nat) (hb : b < 256) : sbits [a, b] = bitsOf (a * 256 + b) 16 := by
 have e := bitsOf_add (a * 256 + b) 8 8
 rw [show (a * 256 + b) / 2 ^ 8 = a by omega, <- bitsOf_mod (a * 256 + b) 8 8 (Nat.le_refl _), show (a * 256 + b) % 2 ^ 8 = b by omega] at e
 rw [e, show [a, b] = [a] ++ [b] from rfl, sbits_append, sbits_one, sbits_one]
def wordN (B : List Nat) : Nat := ((B.getD 0 0 * 256 + B.getD 1 0) * 256 + B.getD 2 0) * 256 + B.getD 3 0
theorem four_bits (B : List Nat) (hB : ∀ b ∈ B, b < 256) (h4 : 4 <= B.length) : sbits (B.take 4) = bitsOf (wordN B) 32 := by
 have b1 := getD_byte B hB 1
 have b2 := getD_byte B hB 2
 have b3 := getD_byte B hB 3
 rw [take4_at B h4]
 unfold wordN
 generalize B.getD 0 0 = c0 at *
 generalize B.getD 1 0 = c1 at *
 generalize B.getD 2 0 = c2 at *
 generalize B.getD 3 0 = c3 at *
 have e := bitsOf_add (((c0 * 256 + c1) * 256 + c2) * 256 + c3) 16 16
 rw [show (((c0 * 256 + c1) * 256 + c2) * 256 + c3) / 2 ^ 16 = c0 * 256 + c1 by omega, <- bitsOf_mod (((c0 * 256 + c1) * 256 + c2) * 256 + c3) 16 16 (Nat.le_refl _), show (((c0 * 256 + c1) * 256 + c2) * 256 + c3) % 2 ^ 16 = c2 * 256 + c3 by omega] at e
 rw [e, show [c0, c1, c2, c3] = [c0, c1] ++ [c2, c3] from rfl, sbits_append, sbits_two _ _ b1, sbits_two _ _ b3]
theorem word_split (c0 c1 c2 c3 : Nat) (b0 : c0 < 256) (b1 : c1 < 256) (b2 : c2 < 256) (b3 : c3 < 256) (W : Nat) (hW : W = ((c0 * 256 + c1) * 256 + c2) * 256 + c3) :
  W / 131072 % 32768 = c0 * 128 + c1 / 2 /\ W / 65536 % 2 = c1 % 2 /\ W / 4096 % 16 = c2 / 16 /\ W / 256 % 16 = c2 % 16 /\ W / 16 % 16 = c3 / 16 /\ W / 2 % 8 = c3 % 16 / 2 /\ W % 2 = c3 % 2 := by
 refine ⟨?_, ?_, ?_, ?_, ?_, ?_, ?_⟩ <;> omega
theorem codes_at (s : ByteArray) (B : List Nat) (hs : bytesOf s = B) (h4 : 4 <= B.length) :
  bitsAt s 0 15 = B.getD 0 0 * 128 + B.getD 1 0 / 2 /\ bitsAt s 15 1 = B.getD 1 0 % 2 /\ bitsAt s 16 4 = B.getD 2 0 / 16 /\ bitsAt s 20 4 = B.getD 2 0 % 16 /\ bitsAt s 24 4 = B.getD 3 0 / 16 /\ bitsAt s 28 3 = B.getD 3 0 % 16 / 2 /\ bitsAt s 31 1 = B.getD 3 0 % 2 := by
 have hB : ∀ b ∈ B, b < 256 := by rw [<- hs]; exact bytesOf_lt s
 have h0 : ahead s 0 = bitsOf (wordN B) (15 + 17) ++ sbits (B.drop 4) := by
  unfold ahead;rw [hs, List.drop_zero, show 15 + 17 = 32 from rfl, <- four_bits B hB h4, <- sbits_append, List.take_append_drop]
 obtain ⟨z1, z2, z3, z4, z5, z6, z7⟩ := word_split _ _ _ _ (getD_byte B hB 0) (getD_byte B hB 1) (getD_byte B hB 2) (getD_byte B hB 3) (wordN B) rfl
 generalize wordN B = W at *
 obtain ⟨a1, n1⟩ := bits_step (k := 15) (m := 17) h0
 obtain ⟨a2, n2⟩ := bits_step (a := 15) (k := 1) (m := 16) n1
 obtain ⟨a3, n3⟩ := bits_step (a := 16) (k := 4) (m := 12) n2
 obtain ⟨a4, n4⟩ := bits_step (a := 20) (k := 4) (m := 8) n3
 obtain ⟨a5, n5⟩ := bits_step (a := 24) (k := 4) (m := 4) n4
 obtain ⟨a6, n6⟩ := bits_step (a := 28) (k := 3) (m := 1) n5
 obtain ⟨a7, n7⟩ := bits_step (a := 31) (k := 1) (m := 0) n6
 refine ⟨a1.trans z1, a2.trans z2, a3.trans z3, a4.trans z4, a5.trans z5, a6.trans z6, ?_⟩
 rw [a7, Nat.pow_zero, Nat.div_one]; exact z7
theorem byte_at8 (s : ByteArray) (B : List Nat) (hs : bytesOf s = B) (j : Nat) (h : j < B.length) : bitsAt s (8 * j) 8 = B.getD j 0 := by
 have hB : ∀ b ∈ B, b < 256 := by rw [<- hs]; exact bytesOf_lt s
 have hb := getD_byte B hB j
 refine bits_at (Z := sbits (B.drop (j + 1))) ?_ (by omega)
 unfold ahead
 rw [hs, sbits_behind B j (by omega), <- sbits_one, <- sbits_append]
 congr 1
 rw [List.drop_eq_getElem_cons h, List.getD_eq_getElem?_getD, List.getElem?_eq_getElem h]; rfl
theorem putB_of (v k : Nat) (hk : k <= 64) (h : v < 2 ^ k) : putB (v : Int) (k : Int) = bitsOf v k := by
 unfold putB
 rw [Int.toNat_natCast, Int.toNat_natCast, if_pos ⟨by omega, by omega, by rw [pow_int]; omega⟩]
theorem four_put (f : Fm) (i : Inf) (h : okH f i) : putB 32764 15 ++ putB (if f.v then 1 else 0) 1 ++ putB f.sc 4 ++ putB f.rc 4 ++ putB (if f.mo = 0 then i.ch - 1 else 7 + f.mo) 4 ++ putB f.wc 3 ++ putB 0 1 = sbits (fourL f i) := by
 obtain ⟨hi, hsz, hnum, hmo, hz, hr, hw⟩ := h
 have hrr := rc_rng hr
 have hwr := wc_rng hw
 have hzz := hz.1
 have hcc : 0 <= (if f.mo = 0 then i.ch - 1 else 7 + f.mo) /\ (if f.mo = 0 then i.ch - 1 else 7 + f.mo) < 16 := by
  have := hi.1
  split <;> omega
 unfold fourL
 generalize (if f.mo = 0 then i.ch - 1 else 7 + f.mo) = cc at *
 obtain ⟨c, rfl⟩ : ∃ n : Nat, cc = n := ⟨cc.toNat, by omega⟩
 clear hi hsz hnum hmo hz hr hw
 generalize f.sc = zsc at *
 generalize f.rc = zrc at *
 generalize f.wc = zwc at *
 obtain ⟨sc, rfl⟩ : ∃ n : Nat, zsc = n := ⟨zsc.toNat, by omega⟩
 obtain ⟨rc, rfl⟩ : ∃ n : Nat, zrc = n := ⟨zrc.toNat, by omega⟩
 obtain ⟨wc, rfl⟩ : ∃ n : Nat, zwc = n := ⟨zwc.toNat, by omega⟩
 have hvb : putB (if f.v then (1 : Int) else 0) 1 = bitsOf (if f.v then 1 else 0) 1 := by cases f.v <;> rfl
 have e15 : putB 32764 15 = bitsOf 32764 15 := putB_of 32764 15 (by decide) (by decide)
 have e0 : putB 0 1 = bitsOf 0 1 := putB_of 0 1 (by decide) (by decide)
 have e1 : putB (sc : Int) 4 = bitsOf sc 4 := putB_of sc 4 (by decide) (by omega)
 have e2 : putB (rc : Int) 4 = bitsOf rc 4 := putB_of rc 4 (by decide) (by omega)
 have e3 : putB (c : Int) 4 = bitsOf c 4 := putB_of c 4 (by decide) (by omega)
 have e4 : putB (wc : Int) 3 = bitsOf wc 3 := putB_of wc 3 (by decide) (by omega)
 rw [hvb, e15, e0, e1, e2, e3, e4]
 have hv : (if f.v then 1 else 0 : Nat) < 2 := by split <;> omega
 generalize (if f.v then 1 else 0 : Nat) = v at *
 have t1 : ((sc : Int) * 16 + rc).toNat = sc * 16 + rc := by omega
 have t2 : ((c : Int) * 16 + (wc : Int) * 2).toNat = c * 16 + wc * 2 := by omega
 rw [t1, t2]
 have join : ∀ (x y k m : Nat), y < 2 ^ m -> bitsOf x k ++ bitsOf y m = bitsOf (x * 2 ^ m + y) (k + m) := fun x y k m hy => by
  have hp : 0 < 2 ^ m := Nat.two_pow_pos m;rw [bitsOf_add (x * 2 ^ m + y) k m, <- bitsOf_mod (x * 2 ^ m + y) m m (Nat.le_refl _), show (x * 2 ^ m + y) % 2 ^ m = y by rw [Nat.mul_comm, Nat.mul_add_mod, Nat.mod_eq_of_lt hy], show (x * 2 ^ m + y) / 2 ^ m = x by rw [Nat.mul_comm, Nat.mul_add_div hp, Nat.div_eq_of_lt hy, Nat.add_zero]]
 rw [join _ _ _ _ (by omega), join _ _ _ _ (by omega), join _ _ _ _ (by omega), join _ _ _ _ (by omega), join _ _ _ _ (by omega), join _ _ _ _ (by omega)]
 have e := four_bits [255, 248 + v, sc * 16 + rc, c * 16 + wc * 2] (fun b hb => by simp only [List.mem_cons, List.not_mem_nil, or_false] at hb; omega) (Nat.le_refl _)
 have e' : ([255, 248 + v, sc * 16 + rc, c * 16 + wc * 2] : List Nat).take 4 = [255, 248 + v, sc * 16 + rc, c * 16 + wc * 2] := rfl
 rw [e'] at e
 rw [e]
 congr 1
 show _ = ((255 * 256 + (248 + v)) * 256 + (sc * 16 + rc)) * 256 + (c * 16 + wc * 2)
 omega
theorem put_8 (v : Nat) (h : v < 256) : putB (v : Int) 8 = sbits [v] := by rw [sbits_one]; exact putB_of v 8 (by decide) (by omega)
theorem put_16 (v : Nat) (h : v < 65536) : putB (v : Int) 16 = sbits [v / 256, v % 256] := by
 rw [sbits_two _ _ (by omega), show v / 256 * 256 + v % 256 = v by omega]; exact putB_of v 16 (by decide) (by omega)
theorem pack_sbits (l : List Nat) (h : ∀ b ∈ l, b < 256) : pack (sbits l) = l := by
 apply sbits_inj _ _ (pack_lt _ (sbits_01 l)) h
 have h1 := sbits_packN (sbits l) (sbits_01 l) 0 (((sbits l).length + 7) / 8) (by rw [sbits_length]; omega)
 show sbits (packN (sbits l) (((sbits l).length + 7) / 8)) = _
 rw [h1, List.replicate_zero, List.append_nil, List.take_of_length_le (by rw [sbits_length]; omega)]
theorem pack_sbits_app (l bits : List Nat) (h : ∀ b ∈ l, b < 256) (h01 : Bits01 bits) : pack (sbits l ++ bits) = l ++ pack bits := by
 apply sbits_inj _ _ (pack_lt _ ((sbits_01 l).append h01)) (fun b hb => by
  rcases List.mem_append.1 hb with hb | hb
  ·exact h b hb
  ·exact pack_lt _ h01 b hb)
 obtain ⟨Z1, z1, l1⟩ := sbits_pack (sbits l ++ bits) ((sbits_01 l).append h01)
 have h2 := sbits_packN (sbits l ++ bits) ((sbits_01 l).append h01) (8 * ((bits.length + 7) / 8) - bits.length) (((sbits l ++ bits).length + 7) / 8) (by rw [List.length_append, sbits_length]; omega)
 have h3 := sbits_packN bits h01 (8 * ((bits.length + 7) / 8) - bits.length) ((bits.length + 7) / 8) (by omega)
 have e3 : sbits (pack bits) = bits ++ List.replicate (8 * ((bits.length + 7) / 8) - bits.length) 0 := by
  show sbits (packN bits ((bits.length + 7) / 8)) = _;rw [h3, List.take_of_length_le (by rw [List.length_append, List.length_replicate]; omega)]
 rw [sbits_append, e3]
 show sbits (packN (sbits l ++ bits) (((sbits l ++ bits).length + 7) / 8)) = _
 rw [h2, List.take_of_length_le (by simp only [List.length_append, List.length_replicate, sbits_length]; omega), List.append_assoc]
end Go.Proofs.YtfpfabmbipmipaaGreatDoor
namespace Go.Proofs.YtfpfabmbipmipaaGreatDoor
open Go.RowKit
namespace S2
theorem Tryz.info5 : (Tryz.prog.info? 5).map (fun i => (i.zero, i.size, i.bytes)) = some (some (.int .u8 0), 1, 1) := by kernel_rfl
theorem made_run (n : Nat) (h : n <= 281474976710656) (w : World) :
  (Instr.makeSlice 44 (.int .i64 (n : Int)) (.int .i64 (n : Int))).run Tryz.prog w = .ok (.slice (some ⟨w.heap.size, 0, none⟩) n n) (w.alloc (.cells (madeCells #[.int .u8 0] n) 5)) :=
 run_make_row' 44 5 (.int .u8 0) 1 Tryz.underlying44 Tryz.info5 rfl .i64 .i64 n (by omega) (by omega) w
theorem textOf_eq (bs : List Nat) : textOf bs = strOfNums (bs.map fun (b : Nat) => (b : Int)) := by
 unfold textOf strOfNums
 rw [List.map_map]
 congr 2
theorem conv_row {w : World} {g cap : Nat} {f : Nat -> Nat} {n : Nat} (h : w.rowIs g 5 n (fun i => .int .u8 (f i : Int))) :
  (convert 44 9 (.slice (some ⟨g, 0, none⟩) n cap)).run Tryz.prog w = .ok (.string (textOf ((List.range n).map f))) w := by
 rw [textOf_eq]
 refine run_convert_bytes_arg w 44 5 Tryz.underlying44 Tryz.underlying5 g 0 n cap _ (by simp) (fun i hi => ?_) 9 Tryz.underlying9
 rw [Nat.zero_add, h.cell hi]
 simp [List.getD, hi]
theorem pow8 (i : Nat) : (2 : Nat) ^ (8 * i) = 256 ^ i := by rw [Nat.pow_mul]
theorem i64_and63 (n : Int) : bits BinOp.and IntKind.i64 n 63 = n % 64 := by
 show IntKind.i64.wrap ((BitVec.ofInt 64 n &&& BitVec.ofInt 64 63).toNat : Int) = _
 rw [BitVec.toNat_and, BitVec.toNat_ofInt, show (BitVec.ofInt 64 63).toNat = 2 ^ 6 - 1 from rfl, Nat.and_two_pow_sub_one_eq_mod, IntKind.wrap_i64]
 omega
set_option maxRecDepth 100000 in
theorem len8_spec (x : Nat) (hx : x < 256) (w : World) : Calls Tryz.prog 218 #[.int .u8 (x : Int)] w fun e w' => e = .returned (.int .i64 (bitLen x : Int)) /\ w' = w := by
 go_enter Tryz.func218, Tryz.ntmps218
 go_wp2
 go_ret
 refine ⟨ret_int ?_, rfl⟩
 rw [len8tab_get x]
 have := bitLen_le8 x hx
 unfold wrap64
 omega
theorem lz8_spec (x : Nat) (hx : x < 256) (w : World) : Calls Tryz.prog 197 #[.int .u8 (x : Int)] w fun e w' => e = .returned (.int .i64 ((8 - bitLen x : Nat) : Int)) /\ w' = w := by
 have hb := bitLen_le8 x hx
 go_enter Tryz.func197, Tryz.ntmps197
 go_wp2_with (go_at_call 218; refine (len8_spec x hx w).mono ?_; rintro e w' ⟨rfl, rfl⟩)
 go_ret
 refine ⟨ret_int ?_, rfl⟩
 omega
theorem hc_all : ∀ b : Fin 256, ((8 - bitLen (255 - b.val)) = 0 /\ hc b.val = 1) ∨ ((8 - bitLen (255 - b.val)) = 1 /\ hc b.val = 0) ∨ ((8 - bitLen (255 - b.val)) = 8 /\ hc b.val = 0) ∨
  (2 <= (8 - bitLen (255 - b.val)) /\ (8 - bitLen (255 - b.val)) <= 7 /\ hc b.val = (8 - bitLen (255 - b.val))) := by decide +kernel
theorem not_byte : ∀ b : Fin 256, bits BinOp.xor IntKind.u8 IntKind.u8.max (b.val : Int) = ((255 - b.val : Nat) : Int) := by decide +kernel
theorem headCount_spec (b : Nat) (hb : b < 256) (w : World) : Calls Tryz.prog 175 #[.int .u8 (b : Int)] w fun e w' => e = .returned (.int .i64 (hc b : Int)) /\ w' = w := by
 have hall := hc_all ⟨b, hb⟩
 have hx := not_byte ⟨b, hb⟩
 simp only at hall hx
 have hs : IntKind.u8.signed = false := rfl
 have hL := lz8_spec (255 - b) (by omega) w
 generalize 8 - bitLen (255 - b) = o at *
 rcases hall with ⟨rfl, e⟩ | ⟨rfl, e⟩ | ⟨rfl, e⟩ | ⟨h2, h7, e⟩
 focus
  rw [e];clear e
 rotate_left
 focus
  rw [e];clear e
 rotate_left
 focus
  rw [e];clear e
 rotate_left
 focus
  rw [e];clear e;have n0 : ((o : Int) == 0) = false := by simp; omega
  have n1 : ((o : Int) == 1) = false := by simp; omega
  have n8 : ((o : Int) == 8) = false := by simp; omega
 rotate_left
 all_goals
  go_enter Tryz.func175, Tryz.ntmps175
  go_wp2_with fail
  refine hL.mono ?_;rintro e w1 ⟨rfl, rfl⟩
  go_wp2
  go_ret;exact ⟨rfl, rfl⟩
theorem headMark_spec (k : Nat) (h1 : 1 <= k) (h7 : k <= 7) (w : World) : Calls Tryz.prog 154 #[.int .i64 (k : Int)] w fun e w' => e = .returned (.int .i64 (hm k : Int)) /\ w' = w := by
 rcases seven k h1 h7 with rfl | rfl | rfl | rfl | rfl | rfl | rfl <;>
 (go_enter Tryz.func154, Tryz.ntmps154; go_wp2; go_ret; exact ⟨rfl, rfl⟩)
theorem cl_test (n c : Nat) (h : n < 68719476736) (h1 : 128 <= n) (h2 : 2 <= c) (hc : c <= clen n) : (((n : Int) / 2 ^ (5 * c + 1)) != 0) = decide (c < clen n) := by
 have h7 := (clen_range n).2
 have e : ((2 : Int) ^ (5 * c + 1)) = ((2 ^ (5 * c + 1) : Nat) : Int) := by simp
 have e2 : ((n : Int) / ((2 ^ (5 * c + 1) : Nat) : Int)) = ((n / 2 ^ (5 * c + 1) : Nat) : Int) := by simp
 have key : n / 2 ^ (5 * c + 1) = 0 ↔ ¬ c < clen n := by
  rw [Nat.div_eq_zero_iff_lt (Nat.two_pow_pos _)];unfold clen at *
  rcases seven c (by omega) (by omega) with rfl | rfl | rfl | rfl | rfl | rfl | rfl <;> (repeat' split) <;> simp <;> omega
 rw [e, e2, Bool.eq_iff_iff]
 simp only [bne_iff_ne, ne_eq, decide_eq_true_eq]
 omega
theorem codedLen_spec (n : Nat) (h : n < 68719476736) (w : World) : Calls Tryz.prog 153 #[.int .i64 (n : Int)] w fun e w' => e = .returned (.int .i64 (clen n : Int)) /\ w' = w := by
 by_cases hn : n < 128
 ·have e : clen n = 1 := by unfold clen; rw [if_pos hn]
  rw [e];go_enter Tryz.func153, Tryz.ntmps153
  go_wp2
  go_ret;exact ⟨rfl, rfl⟩
 ·have hr := clen_range n
  have h2 : 2 <= clen n := by unfold clen; rw [if_neg hn]; (repeat' split) <;> omega
  have ht := cl_test n;generalize clen n = cl at *;go_enter Tryz.func153, Tryz.ntmps153
  go_wp2
  go_loop [3] (fun t => ∃ (c : Nat), 2 <= c /\ c <= cl /\ t = .int .i64 (c : Int)) (fun t => cl - (intOf t).toNat)
  case atStart => exact ⟨2, by omega, by omega, rfl⟩
  case round =>
   obtain ⟨c, hc2, hcl, rfl⟩ := hrel;have hT := ht c h (by omega) hc2 hcl
   clear ht;by_cases hlt : c < cl
   ·rw [decide_eq_true hlt] at hT
    go_wp2
    go_round
    case rel => exact ⟨c + 1, by omega, by omega, by go_num⟩
    case measure => simp [intOf]; omega
   ·rw [decide_eq_false hlt] at hT
    obtain rfl : c = cl := by omega
    go_wp2
    go_ret;exact ⟨rfl, rfl⟩
def codB (n : Int) : Bool := decide (0 <= n /\ n < 68719476736)
def codT (n : Int) : ByteArray := if codB n then textOf (codeL n.toNat (clen n.toNat)) else ⟨#[]⟩
def codE (n : Int) : Int := if codB n then 0 else 11
theorem codB_nat {n : Int} (h : codB n = true) : ∃ m : Nat, n = m /\ m < 68719476736 := by
 unfold codB at h
 have h := of_decide_eq_true h
 exact ⟨n.toNat, by omega, by omega⟩
theorem codB_of (m : Nat) (h : m < 68719476736) : codB (m : Int) = true := by unfold codB; exact decide_eq_true (by omega)
theorem codT_nat (m : Nat) (h : m < 68719476736) : codT (m : Int) = textOf (codeL m (clen m)) := by unfold codT; rw [codB_of m h]; simp
theorem codE_nat (m : Nat) (h : m < 68719476736) : codE (m : Int) = 0 := by unfold codE; rw [codB_of m h]; simp
theorem codT_no (n : Int) (h : codB n = false) : codT n = ⟨#[]⟩ := by unfold codT; rw [h]; rfl
theorem codE_no (n : Int) (h : codB n = false) : codE n = 11 := by unfold codE; rw [h]; rfl
theorem pow6 (i : Nat) : (2 : Nat) ^ (6 * i) = 64 ^ i := by rw [Nat.pow_mul]
theorem or128 : ∀ b : Fin 64, bits BinOp.or IntKind.i64 128 (b.val : Int) = ((128 + b.val : Nat) : Int) := by decide +kernel
theorem tail_at (n i : Nat) : bits BinOp.or IntKind.i64 128 (bits BinOp.and IntKind.i64 ((n : Int) / 2 ^ (6 * i)) 63) % 256 = ((128 + n / 64 ^ i % 64 : Nat) : Int) := by
 have e : ((2 : Int) ^ (6 * i)) = ((64 ^ i : Nat) : Int) := by rw [<- pow6]; simp
 have e2 : ((n : Int) / ((64 ^ i : Nat) : Int)) % 64 = ((n / 64 ^ i % 64 : Nat) : Int) := by omega
 have hm := Nat.mod_lt (n / 64 ^ i) (show 64 > 0 by decide)
 have := or128 ⟨n / 64 ^ i % 64, hm⟩
 simp only at this
 rw [i64_and63, e, e2, this]
 omega
theorem head_at (n k : Nat) (h1 : 1 <= k) (h7 : k <= 7) (h : n < cbound k) : bits BinOp.or IntKind.i64 (hm k : Int) ((n : Int) / 2 ^ (6 * (k - 1))) % 256 = ((codeAt n k 0 : Nat) : Int) := by
 have e : ((2 : Int) ^ (6 * (k - 1))) = ((64 ^ (k - 1) : Nat) : Int) := by rw [<- pow6]; simp
 have e2 : ((n : Int) / ((64 ^ (k - 1) : Nat) : Int)) = ((n / 64 ^ (k - 1) : Nat) : Int) := by omega
 have ht := top_lt n k h1 h7 h
 have all : ∀ k : Fin 8, ∀ q : Fin 128, 1 <= k.val -> q.val < (if k.val = 1 then 128 else 2 ^ (7 - k.val)) -> bits BinOp.or IntKind.i64 (hm k.val : Int) (q.val : Int) % 256 = ((hm k.val + q.val : Nat) : Int) := by decide +kernel
 have hq : n / 64 ^ (k - 1) < 128 := by
  rcases seven k h1 h7 with rfl | rfl | rfl | rfl | rfl | rfl | rfl <;> simp at ht ⊢ <;> omega
 rw [e, e2]
 unfold codeAt
 rw [if_pos rfl]
 exact all ⟨k, by omega⟩ ⟨n / 64 ^ (k - 1), hq⟩ h1 ht
theorem coded_ok (n : Nat) (h : n < 68719476736) (w : World) :
  Calls Tryz.prog 113 #[.int .i64 (n : Int)] w fun e w' => e = .returned (.tuple #[.string (codT n), .int .i64 (codE n)]) /\ Lo w w' := by
 rw [codT_nat n h, codE_nat n h]
 have hr := clen_range n
 have hbd := clen_bound n h
 have hcl := codedLen_spec n h w
 obtain ⟨k, hk⟩ : ∃ k, k = clen n := ⟨_, rfl⟩
 rw [<- hk] at hr hbd hcl ⊢
 clear hk
 have hmk := made_run k (by omega)
 have hrow := World.rowIs_made w (.int .u8 0) k 5
 have hbel : Lo w (w.alloc (.cells (madeCells #[.int .u8 0] k) 5)) := aQ
 have HB := kQ hbd
 clear hbd
 go_enter Tryz.func113, Tryz.ntmps113
 go_wp2_with fail
 refine hcl.mono ?_
 rintro e w1 ⟨rfl, rfl⟩
 clear hcl
 go_wp2
 go_loopw [18] (fun t wr => ∃ (i : Nat), i <= k /\ t = .int .i64 (i : Int) /\ wr.rowIs w1.heap.size 5 k (fun j => .int .u8 ((if k - 1 - j < i then 128 + n / 64 ^ (k - 1 - j) % 64 else 0 : Nat) : Int)) /\ Lo w1 wr) (fun t _ => k - (intOf t).toNat)
 case atStart => exact ⟨0, Nat.zero_le _, rfl, hrow.congr (fun i _ => by simp), hbel⟩
 case round =>
  obtain ⟨i, hi, rfl, hr, hb⟩ := hrel;by_cases hlt : i < k
  ·have hc := hr.cell (i := k - 1 - i) (by omega)
   have hf := hr.frozen (k - 1 - i);have hta := tail_at n i
   go_wp2
   go_roundw
   case rel =>
    refine ⟨i + 1, by omega, by go_num, ?_, hb.setCell (by simp) _⟩
    refine (hr.set (k - 1 - i) _).congr (fun j hj => ?_);by_cases e : j = k - 1 - i
    ·subst e
     rw [if_pos rfl, show k - 1 - (k - 1 - i) = i from by omega, if_pos (by omega)]
     simp
    ·rw [if_neg e]
     congr 3;by_cases h : k - 1 - j < i
     ·simp [h, show k - 1 - j < i + 1 by omega]
     ·simp [h, show ¬ k - 1 - j < i + 1 by omega]
   case measure => simp [intOf]; omega
  ·obtain rfl : i = k := by omega
   have hr2 : wr.rowIs w1.heap.size 5 i (fun j => .int .u8 ((128 + n / 64 ^ (i - 1 - j) % 64 : Nat) : Int)) := hr.congr (fun j hj => by rw [if_pos (by omega)])
   have hc := hr2.cell (i := 0) (by omega)
   have hf := hr2.frozen 0
   have hsh : Op.shift BinOp.shr IntKind.i64 (n : Int) IntKind.i64 (IntKind.i64.wrap (6 * IntKind.i64.wrap ((i : Int) - 1))) = pure (.int .i64 ((n : Int) / 2 ^ (6 * (i - 1)))) := by
    have e : IntKind.i64.wrap (6 * IntKind.i64.wrap ((i : Int) - 1)) = ((6 * (i - 1) : Nat) : Int) := by
     rw [IntKind.wrap_i64, IntKind.wrap_i64];omega
    rw [e];exact shift_shr IntKind.i64 IntKind.i64 (n : Int) ((6 * (i - 1) : Nat) : Int) (by omega) (by show _ <= ((64 : Nat) : Int); omega)
   have hha := head_at n i (by omega) (by omega) HB.out
   generalize (n : Int) / 2 ^ (6 * (i - 1)) = q at *;obtain ⟨c0, hc0⟩ : ∃ c0, c0 = codeAt n i 0 := ⟨_, rfl⟩;rw [<- hc0] at hha;have HC : Hid _ := hc0;clear hr hc0
   go_wp2
   go_region_with (go_at_call 154; refine (headMark_spec i (by omega) (by omega) _).mono ?_; rintro e w' ⟨rfl, rfl⟩)
   have hr3 : (wr.setCell ⟨w1.heap.size, 0, none⟩ (.int .u8 (c0 : Int))).drew.rowIs w1.heap.size 5 i (fun j => .int .u8 ((codeAt n i j : Nat) : Int)) := by
    refine ((hr2.set 0 _).drew).congr (fun j hj => ?_);by_cases e : j = 0
    ·subst e
     rw [if_pos rfl, HC.out]
    ·rw [if_neg e]
     unfold codeAt;rw [if_neg e]
   have hb3 : Lo w1 (wr.setCell ⟨w1.heap.size, 0, none⟩ (.int .u8 (c0 : Int))).drew := (hb.setCell (by simp) _).drew
   generalize (wr.setCell ⟨w1.heap.size, 0, none⟩ (.int .u8 (c0 : Int))).drew = w3 at *;have hcv := conv_row (cap := i) hr3;clear hr3 hr2 hc hf hsh hha
   go_wp2
   go_ret2
   exact ⟨rfl, hb3⟩
end S2
end Go.Proofs.YtfpfabmbipmipaaGreatDoor
