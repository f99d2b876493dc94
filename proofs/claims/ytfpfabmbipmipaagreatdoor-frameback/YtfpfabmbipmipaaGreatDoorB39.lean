/- Own text. -/
import Derived.Test.YtfpfabmbipmipaaGreatDoorB38
set_option linter.unusedSimpArgs false
set_option linter.unusedVariables false
set_option maxRecDepth 20000
set_option maxHeartbeats 12800000
namespace Go.Proofs.YtfpfabmbipmipaaGreatDoor
open Go.RowKit
structure JX (w : World) (f : Fm) (so : OA) (sk : Nat) (a b c d : Int) (i : Inf) (e : Int) (s : ByteArray) (k : Nat) (q : Sb) (ca : OA) (cc : Nat) (pa : OA) (pc : Nat) (ea : OA) (ec : Nat) (wx : World) : Prop where
 fx : FX w f so sk a b c d i e s wx
 sb : wx.heap[k]? = some (.cells (subC q ca cc pa pc ea ec) 67 (0, 0))
section
variable {w wx w' : World} {f : Fm} {so : OA} {sk : Nat} {a b c d : Int} {i : Inf} {e : Int} {s : ByteArray} {k : Nat} {q : Sb} {ca : OA} {cc : Nat} {pa : OA} {pc : Nat} {ea : OA} {ec : Nat}
theorem JX.next (h : JX w f so sk a b c d i e s k q ca cc pa pc ea ec wx) (hb : Lo wx w') : JX w f so sk a b c d i e s k q ca cc pa pc ea ec w' :=
 ⟨h.fx.next hb, by rw [hb.block _ (lt_of_block h.sb)]; exact h.sb⟩
end
theorem JX.cells {w wx : World} {f : Fm} {so : OA} {sk : Nat} {a b c d : Int} {i : Inf} {e : Int} {s : ByteArray} {k : Nat} {q : Sb} {ca : OA} {cc : Nat} {pa : OA} {pc : Nat} {ea : OA} {ec : Nat} (h : JX w f so sk a b c d i e s k q ca cc pa pc ea ec wx) : wx.cell? ⟨w.heap.size, 2, none⟩ = some (.int .i64 f.size) /\ wx.cell? ⟨w.heap.size, 6, none⟩ = some (.int .i64 f.mo) /\ wx.cell? ⟨w.heap.size + 1, 6, none⟩ = some (.int .i64 i.wd) /\ wx.cell? ⟨k, 0, none⟩ = some (.int .i64 q.k) /\ wx.cell? ⟨k, 1, none⟩ = some (.int .i64 q.o) /\ wx.cell? ⟨k, 2, none⟩ = some (.int .i64 q.w) /\ wx.cell? ⟨k, 3, none⟩ = some (.int .i64 q.p) /\ wx.cell? ⟨k, 4, none⟩ = some (.int .i64 q.h) /\ wx.cell? ⟨k, 5, none⟩ = some (.slice ca q.C.length cc) /\ wx.cell? ⟨k, 6, none⟩ = some (.int .i64 q.R.m) /\ wx.cell? ⟨k, 7, none⟩ = some (.int .i64 q.R.o) /\ wx.cell? ⟨k, 8, none⟩ = some (.slice pa q.R.P.length pc) /\ wx.cell? ⟨k, 9, none⟩ = some (.slice ea q.R.E.length ec) := by
 obtain ⟨f0, f1, f2, f3, f4, f5, f6, f7, i0, i1, i2, i3, i4, i5, i6, i7, i8⟩ := h.fx.cells
 obtain ⟨x0, x1, x2, x3, x4, x5, x6, x7, x8, x9⟩ := sub_cells h.sb
 exact ⟨f2, f6, i6, x0, x1, x2, x3, x4, x5, x6, x7, x8, x9⟩
theorem f_has (f : Fm) (so : OA) (sk : Nat) (a b c d : Int) (i : Inf) (e : Int) (s : ByteArray) (hw : 4 <= i.wd /\ i.wd <= 24) (bb : Bool) (hbb : bb = true ↔ ((f.S.length : Int) = i.ch /\ ∀ j, j < f.S.length -> subOk (f.S.getD j Sb0) f.size (wdA i f.mo j))) (w : World) (hf : FmAt w f so sk) : Calls Tryz.prog 37 #[fmV f so sk, infV a b c d i e s] w fun en w' => en = .returned (.bool bb) /\ Lo w w' := by
 have hlen := hf.S.len
 have HS := kQ hf.S
 clear hf
 by_cases g0 : (f.S.length : Int) = i.ch
 focus
  have hb0 : ((f.S.length : Int) != i.ch) = false := by rw [bne_eq_false_iff_eq]; exact g0
  have HBB : Hid (bb = true ↔ ∀ j, j < f.S.length -> subOk (f.S.getD j Sb0) f.size (wdA i f.mo j)) := ⟨fun h => (hbb.1 h).2, fun h => hbb.2 ⟨g0, h⟩⟩
  clear hbb g0
  have KWW : Hid (∀ n wx, G0 65 #[.int .i64 f.mo, .int .i64 ((n : Nat) : Int), .int .i64 i.wd] wx (.int .i64 (wdA i f.mo n))) := fun n wx => f_subW i f.mo n hw wx
 rotate_left
 focus
  have hb0 : ((f.S.length : Int) != i.ch) = true := by rw [bne_iff_ne]; exact g0
  rw [bb_no hbb (fun h => g0 h.1)]
  clear hbb g0 HS
 rotate_left
 all_goals
  have HA : Hid (FX w f so sk a b c d i e s ((w.alloc (.cells (fmC f so sk) 24)).alloc (.cells (infC a b c d i e s) 26))) := FX.new w f so sk a b c d i e s
  go_enter Tryz.func37, Tryz.ntmps37
  go_upto_region 1 with fail
  generalize World.alloc _ _ = wa at *
  obtain ⟨f0, f1, f2, f3, f4, f5, f6, f7, i0, i1, i2, i3, i4, i5, i6, i7, i8⟩ := HA.out.cells
  go_wp2_with fail
 ·clear f0 f1 f2 f3 f4 f5 f6 f7 i0 i1 i2 i3 i4 i5 i6 i7 i8
  go_loopw [5, 6, 16] (fun s5 s6 s16 wr => ∃ n : Nat, n <= f.S.length /\ s16 = .int .i64 (n : Int) /\ (∀ j, j < n -> subOk (f.S.getD j Sb0) f.size (wdA i f.mo j)) /\ FX w f so sk a b c d i e s wr) (fun _ _ s16 _ => f.S.length - (intOf s16).toNat)
  case atStart => exact ⟨0, Nat.zero_le _, rfl, fun j hj => absurd hj (Nat.not_lt_zero _), HA.out⟩
  case round =>
   clear HA
   obtain ⟨n, hn, rfl, hok, hfx⟩ := hrel
   have HOK := kQ hok
   have HFX := kQ hfx
   clear hok hfx
   by_cases hlt : n < f.S.length
   focus
    obtain ⟨sb, sf, rfl, q1⟩ := HS.out.lies (by omega)
    obtain ⟨ca, cc, pa, pc, ea, ec, m1, m2, m3⟩ := q1 n hlt
    have m1r := m1.keep (HFX.out.below.block _ (lt_cell m1.1))
    have KW : Hid (∀ wx, G0 65 #[.int .i64 f.mo, .int .i64 (n : Int), .int .i64 i.wd] wx (.int .i64 (wdA i f.mo n))) := fun wx => KWW.out n wx
    obtain ⟨r, hr⟩ : ∃ r : Int, (subOk (f.S.getD n Sb0) f.size (wdA i f.mo n) -> r = 0) /\ (¬ subOk (f.S.getD n Sb0) f.size (wdA i f.mo n) -> r = 60) := by
     by_cases h : subOk (f.S.getD n Sb0) f.size (wdA i f.mo n)
     ·exact ⟨0, fun _ => rfl, fun h2 => absurd h h2⟩
     ·exact ⟨60, fun h2 => absurd h2 h, fun _ => rfl⟩
    have KK : Hid (∀ wx, Hid (JX w f (some ⟨sb, sf, none⟩) sk a b c d i e s wr.heap.size (f.S.getD n Sb0) ca cc pa pc ea ec wx) -> Calls Tryz.prog 88 #[subV (f.S.getD n Sb0) ca cc pa pc ea ec, .int .i64 f.size, .int .i64 (wdA i f.mo n)] wx fun en w' => en = .returned (.int .i64 r) /\ Hid (JX w f (some ⟨sb, sf, none⟩) sk a b c d i e s wr.heap.size (f.S.getD n Sb0) ca cc pa pc ea ec w')) := fun wx hx => (s_check (f.S.getD n Sb0) ca cc pa pc ea ec f.size (wdA i f.mo n) r hr.1 hr.2 wx (m2.below hx.out.fx.below)).mono fun en w' q => ⟨q.1, hx.out.next q.2⟩
    have HR := kQ hr
    have HJ : Hid (JX w f (some ⟨sb, sf, none⟩) sk a b c d i e s wr.heap.size (f.S.getD n Sb0) ca cc pa pc ea ec (wr.alloc (.cells (subC (f.S.getD n Sb0) ca cc pa pc ea ec) 67))) := ⟨HFX.out.next aQ, heap_alloc_new _ _⟩
    have HE : Hid (∀ j, j = n -> subOk (f.S.getD j Sb0) f.size (wdA i f.mo j) = subOk (f.S.getD n Sb0) f.size (wdA i f.mo n)) := fun j hj => by rw [hj]
    clear q1 m1 m2 m3 hr KWW
    unfold SubIn at m1r
    obtain ⟨x0, x1, x2, x3, x4, x5, x6, x7, x8, x9⟩ := m1r
    obtain ⟨f0, f1, f2, f3, f4, f5, f6, f7, i0, i1, i2, i3, i4, i5, i6, i7, i8⟩ := HFX.out.cells
    by_cases hs : subOk (f.S.getD n Sb0) f.size (wdA i f.mo n)
    focus
     have hr0 := HR.out.1 hs
     subst hr0
     have HSO := kQ hs
     clear hs HR HBB
    rotate_left
    focus
     have hr0 := HR.out.2 hs
     subst hr0
     have HF : Hid (bb = false) := bb_no HBB.out (fun h => hs (h n hlt))
     clear hs HR HBB HE HOK
    rotate_left
   rotate_left 2
   ·have HF : Hid (bb = true) := bb_yes HBB.out (fun j hj => HOK.out j (by omega))
    clear HBB HOK
    obtain ⟨f0, f1, f2, f3, f4, f5, f6, f7, i0, i1, i2, i3, i4, i5, i6, i7, i8⟩ := HFX.out.cells
    go_wp2_with fail
    go_ret
    exact ⟨by rw [HF.out]; rfl, HFX.out.below⟩
   all_goals
    generalize f.S.getD n Sb0 = q at *
    generalize wdA i f.mo n = v at *
    go_upto_region 6 with fail
    generalize World.alloc _ _ = w2 at *
    generalize wr.heap.size = k at *
    clear x0 x1 x2 x3 x4 x5 x6 x7 x8 x9 f0 f1 f2 f3 f4 f5 f6 f7 i0 i1 i2 i3 i4 i5 i6 i7 i8 HFX
    have HC : Hid (∀ wx, Hid (JX w f (some ⟨sb, sf, none⟩) sk a b c d i e s k q ca cc pa pc ea ec wx) -> wx.cell? ⟨w.heap.size, 2, none⟩ = some (.int .i64 f.size) /\ wx.cell? ⟨w.heap.size, 6, none⟩ = some (.int .i64 f.mo) /\ wx.cell? ⟨w.heap.size + 1, 6, none⟩ = some (.int .i64 i.wd) /\ wx.cell? ⟨k, 0, none⟩ = some (.int .i64 q.k) /\ wx.cell? ⟨k, 1, none⟩ = some (.int .i64 q.o) /\ wx.cell? ⟨k, 2, none⟩ = some (.int .i64 q.w) /\ wx.cell? ⟨k, 3, none⟩ = some (.int .i64 q.p) /\ wx.cell? ⟨k, 4, none⟩ = some (.int .i64 q.h) /\ wx.cell? ⟨k, 5, none⟩ = some (.slice ca q.C.length cc) /\ wx.cell? ⟨k, 6, none⟩ = some (.int .i64 q.R.m) /\ wx.cell? ⟨k, 7, none⟩ = some (.int .i64 q.R.o) /\ wx.cell? ⟨k, 8, none⟩ = some (.slice pa q.R.P.length pc) /\ wx.cell? ⟨k, 9, none⟩ = some (.slice ea q.R.E.length ec)) := fun wx h => h.out.cells
    have HD : Hid (JX w f (some ⟨sb, sf, none⟩) sk a b c d i e s k q ca cc pa pc ea ec w2.drew) := HJ.out.next dQ
    clear HJ
    go_wp2_with fail
    go_region_held3 (fun wx => wx.cell? ⟨w.heap.size, 2, none⟩ = some (.int .i64 f.size) /\ wx.cell? ⟨w.heap.size, 6, none⟩ = some (.int .i64 f.mo) /\ wx.cell? ⟨w.heap.size + 1, 6, none⟩ = some (.int .i64 i.wd) /\ wx.cell? ⟨k, 0, none⟩ = some (.int .i64 q.k) /\ wx.cell? ⟨k, 1, none⟩ = some (.int .i64 q.o) /\ wx.cell? ⟨k, 2, none⟩ = some (.int .i64 q.w) /\ wx.cell? ⟨k, 3, none⟩ = some (.int .i64 q.p) /\ wx.cell? ⟨k, 4, none⟩ = some (.int .i64 q.h) /\ wx.cell? ⟨k, 5, none⟩ = some (.slice ca q.C.length cc) /\ wx.cell? ⟨k, 6, none⟩ = some (.int .i64 q.R.m) /\ wx.cell? ⟨k, 7, none⟩ = some (.int .i64 q.R.o) /\ wx.cell? ⟨k, 8, none⟩ = some (.slice pa q.R.P.length pc) /\ wx.cell? ⟨k, 9, none⟩ = some (.slice ea q.R.E.length ec)) (exact HC.out _ (by assumption))
     (first
      | (go_at_call 65; refine (KW.out _).mono ?_; rintro en w4 ⟨rfl, hw4⟩; subst hw4)
      | (go_at_call 88; refine (KK.out _ (by assumption)).mono ?_; rintro en w5 ⟨rfl, h5⟩))
    go_wp2_with fail
   ·go_roundw
    case rel =>
     refine ⟨n + 1, by omega, by go_num, fun j hj => ?_, h5.out.fx⟩
     by_cases ej : j = n
     ·rw [HE.out j ej]; exact HSO.out
     ·exact HOK.out j (by omega)
    case measure => simp [intOf]; omega
   ·go_ret
    exact ⟨by rw [HF.out]; rfl, h5.out.fx.below⟩
 ·go_ret
  exact ⟨rfl, HA.out.below⟩
theorem wdA_rng (i : Inf) (m : Int) (c : Nat) (hw : 4 <= i.wd /\ i.wd <= 24) : 4 <= wdA i m c /\ wdA i m c <= 25 := by unfold wdA; split <;> omega
structure WG (w : World) (f : Fm) (so : OA) (sk : Nat) (a b c d : Int) (i : Inf) (e : Int) (s : ByteArray) (p : Nat) (ao aj : OA) (B : List Nat) (wx : World) : Prop where
 wb : WB w p ao aj B (w.heap.size + 2) wx
 fb : wx.heap[w.heap.size]? = some (.cells (fmC f so sk) 24 (0, 0))
 ib : wx.heap[w.heap.size + 1]? = some (.cells (infC a b c d i e s) 26 (0, 0))
section
variable {w wx w' : World} {f : Fm} {so : OA} {sk : Nat} {a b c d : Int} {i : Inf} {e : Int} {s : ByteArray} {p : Nat} {ao aj ao' : OA} {B B' : List Nat}
theorem WG.put (h : WG w f so sk a b c d i e s p ao aj B wx) (hw : WrB w' p ao' B') (hS : Stays (foot p aj) wx w') (hM : Moved wx.heap.size aj ao') : WG w f so sk a b c d i e s p ao ao' B' w' :=
 ⟨h.wb.put hw hS hM, by rw [h.wb.box hS _ (Nat.le_refl _) (by omega)]; exact h.fb, by rw [h.wb.box hS _ (by omega) (by omega)]; exact h.ib⟩
theorem WG.low (h : WG w f so sk a b c d i e s p ao aj B wx) (hb : Lo wx w') : WG w f so sk a b c d i e s p ao aj B w' :=
 ⟨h.wb.low hb, by rw [hb.block _ (lt_of_block h.fb)]; exact h.fb, by rw [hb.block _ (lt_of_block h.ib)]; exact h.ib⟩
theorem WB.apart {K : Nat} {xo : OA} {l : List Int} (h : WB w p ao aj B K wx) (hl : IntsAt w xo l) (ha : Apart p ao xo l) : Apart p aj xo l := fun h0 b hb hf => by
 rcases hf with hf | hf
 ·exact ha h0 b hb (Or.inl hf)
 ·rcases h.mv b hf with h1 | h1
  ·exact ha h0 b hb (Or.inr h1)
  ·have := hl.blk h0 b hb; omega
theorem WB.high {K n0 : Nat} (h : WB w p ao aj B K wx) (hn : n0 <= w.heap.size) (hft : ∀ k, foot p ao k -> n0 <= k) : ∀ k, foot p aj k -> n0 <= k := fun k hk => by
 rcases hk with hk | hk
 ·exact hft k (Or.inl hk)
 ·rcases h.mv k hk with h1 | h1
  ·exact hft k (Or.inr h1)
  ·omega
end
theorem apart_high {we : World} {p : Nat} {aj xo : OA} {l : List Int} (hl : IntsAt we xo l) (hft : ∀ k, foot p aj k -> we.heap.size <= k) : Apart p aj xo l := fun h0 b hb hf => by
 have := hft b hf
 have := hl.blk h0 b hb
 omega
theorem f_wsubs (f : Fm) (so : OA) (sk : Nat) (a b c d : Int) (i : Inf) (e : Int) (s : ByteArray) (hw : 4 <= i.wd /\ i.wd <= 24) (L : List (List Int)) (hLn : L.length = f.S.length) (hn8 : L.length <= 8) (hl4 : ∀ j, j < L.length -> (L.getD j []).length <= 4608) (we : World) (hS : SubsAt we so f.S) (p : Nat) (ao : OA) (B : List Nat) (hft : ∀ k, foot p ao k -> we.heap.size <= k) (h01 : Bits01 B) (hB : B.length <= 1000000000) (po : OA) (pk : Nat) (w : World) (hbe : Lo we w) (hwr : WrB w p ao B) (hR : RowsP (foot p ao) w po L) (r : Int) (hyes : (∀ j, j < L.length -> okS (f.S.getD j Sb0) (wdA i f.mo j) (L.getD j [])) -> r = 0) (hno : ¬ (∀ j, j < L.length -> okS (f.S.getD j Sb0) (wdA i f.mo j) (L.getD j [])) -> r = 60) :
  Calls Tryz.prog 21 #[.pointer (some ⟨p, 0, none⟩), fmV f so sk, infV a b c d i e s, .slice po L.length pk] w fun en w' => en = .returned (.int .i64 r) /\ Stays (foot p ao) w w' /\ (∃ ao', Moved w.heap.size ao ao' /\ ((∀ j, j < L.length -> okS (f.S.getD j Sb0) (wdA i f.mo j) (L.getD j [])) -> WrB w' p ao' (B ++ chB i f.mo f.S L L.length))) := by
 have HBL : Hid (∀ n, n <= L.length -> (∀ j, j < n -> okS (f.S.getD j Sb0) (wdA i f.mo j) (L.getD j [])) -> (B ++ chB i f.mo f.S L n).length <= 800000000000) := fun n hn hok => by
  have h1 := chB_room i f.mo f.S L n (by omega) (fun j hj => ⟨hok j hj, hl4 j (by omega)⟩)
  have h2 : 90000000000 * n <= 90000000000 * 8 := Nat.mul_le_mul_left _ (by omega)
  rw [List.length_append]; omega
 have HSS := kQ hS
 have HBE := kQ hbe
 have HFT := kQ hft
 have HL4 := kQ hl4
 have HYN : Hid (((∀ j, j < L.length -> okS (f.S.getD j Sb0) (wdA i f.mo j) (L.getD j [])) -> r = 0) /\ (¬ (∀ j, j < L.length -> okS (f.S.getD j Sb0) (wdA i f.mo j) (L.getD j [])) -> r = 60)) := ⟨hyes, hno⟩
 have HR := kQ hR
 have hsl := hS.len
 have H0 : Hid (WG w f so sk a b c d i e s p ao ao B ((w.alloc (.cells (fmC f so sk) 24)).alloc (.cells (infC a b c d i e s) 26))) := by
  have g := FX.new w f so sk a b c d i e s
  exact ⟨WB.start hwr g.below _ (by simp), g.fb, g.ib⟩
 have HLN := kQ hLn
 clear hS hbe hft hl4 hyes hno hR hwr hLn
 go_enter Tryz.func21, Tryz.ntmps21
 go_upto_region 1 with fail
 generalize World.alloc _ _ = w0 at *
 go_wp2_with fail
 go_loopw [9, 10, 11, 14] (fun s9 s10 s11 s14 wr => ∃ (n : Nat) (aj : OA), n <= L.length /\ s14 = .int .i64 (n : Int) /\ (∀ j, j < n -> okS (f.S.getD j Sb0) (wdA i f.mo j) (L.getD j [])) /\ WG w f so sk a b c d i e s p ao aj (B ++ chB i f.mo f.S L n) wr) (fun _ _ _ s14 _ => L.length - (intOf s14).toNat)
 case atStart => exact ⟨0, ao, Nat.zero_le _, rfl, fun j hj => absurd hj (Nat.not_lt_zero _), by rw [show chB i f.mo f.S L 0 = [] from rfl, List.append_nil]; exact H0.out⟩
 case round =>
  clear H0
  obtain ⟨n, aj, hn, rfl, hok, hg⟩ := hrel
  have HOK := kQ hok
  have HG := kQ hg
  clear hok hg
  by_cases hlt : n < L.length
  focus
   obtain ⟨sb, sf, rfl, q1⟩ := HSS.out.lies (by have := HLN.out; omega)
   obtain ⟨ca, cc, pa, pc, ea, ec, m1, m2, m3⟩ := q1 n (by have := HLN.out; omega)
   have hnS : n < f.S.length := by have := HLN.out; omega
   obtain ⟨rb, rf, rfl, hrb, q2⟩ := HR.out.lies (by omega)
   obtain ⟨la, lc, n1, n2, n3, n4, n5⟩ := q2 n hlt
   have hsbl := lt_cell m1.1
   have hrbl := lt_cell n1
   simp only at hsbl hrbl
   have hsame : ∀ k, k < we.heap.size -> wr.heap[k]? = we.heap[k]? := fun k hk => by
    rw [HG.out.wb.st.block k (by have := HBE.out.size; omega) (fun hf => by have := HFT.out k hf; omega), HBE.out.block k hk]
   have m1w : SubIn w sb (sf + n * 10) (f.S.getD n Sb0) ca cc pa pc ea ec := m1.keep (HBE.out.block _ hsbl)
   have m1r : SubIn wr.drew sb (sf + n * 10) (f.S.getD n Sb0) ca cc pa pc ea ec := m1.keep (hsame _ hsbl)
   have m2r : SbAt wr.drew (f.S.getD n Sb0) ca pa ea := m2.keep hsame
   have n1r : wr.cell? ⟨rb, rf + n, none⟩ = some (.slice la (L.getD n []).length lc) := by rw [World.cell?_of_block (w := w) (HG.out.wb.st.block rb hrbl hrb)]; exact n1
   have n4r : IntsAt wr.drew la (L.getD n []) := (HG.out.wb.ints n4 n5).below ((Below.refl _ _).drew)
   have KW : Hid (∀ wx, G0 65 #[.int .i64 f.mo, .int .i64 (n : Int), .int .i64 i.wd] wx (.int .i64 (wdA i f.mo n))) := fun wx => f_subW i f.mo n hw wx
   have hhi := HG.out.wb.high HBE.out.size HFT.out
   have HGD : Hid (WG w f (some ⟨sb, sf, none⟩) sk a b c d i e s p ao aj (B ++ chB i f.mo f.S L n) wr.drew) := HG.out.low dQ
   have HSUB := kQ m1w
   have HSL : Hid (sb < w.heap.size) := by show _ < _; have := HBE.out.size; omega
   have HSB := kQ hsbl
   have hl4n := HL4.out n hlt
   have hbl := HBL.out n (by omega) (fun j hj => HOK.out j hj)
   have o1 : Bits01 (B ++ chB i f.mo f.S L n) := h01.append (chB_01 _ _ _ _ _)
   by_cases hs : okS (f.S.getD n Sb0) (wdA i f.mo n) (L.getD n [])
   focus
    have ke := does10.enc_ok (f.S.getD n Sb0) (wdA i f.mo n) (L.getD n []) ca cc pa pc ea ec la lc p aj (B ++ chB i f.mo f.S L n) wr.drew n2 n3 m3.2 m3.1 o1 (by omega) m2r n4r HGD.out.wb.wr (apart_high m2.C hhi) (apart_high m2.R.P hhi) (apart_high m2.R.E hhi) (HG.out.wb.apart n4 n5) hs
    have HSO : Hid (∀ j, j = n -> okS (f.S.getD j Sb0) (wdA i f.mo j) (L.getD j [])) := fun j hj => by rw [hj]; exact hs
    have HNX : Hid (B ++ chB i f.mo f.S L (n + 1) = B ++ chB i f.mo f.S L n ++ subB (f.S.getD n Sb0) (wdA i f.mo n) (L.getD n [])) := by
     show B ++ (chB i f.mo f.S L n ++ _) = _
     rw [List.append_assoc]
    clear hs HYN
    have HS0 : Hid (wr.drew.heap[w.heap.size]? = some (.cells (fmC f (some ⟨sb, sf, none⟩) sk) 24 (0, 0)) /\ wr.drew.heap[w.heap.size + 1]? = some (.cells (infC a b c d i e s) 26 (0, 0)) /\ SubIn wr.drew sb (sf + n * 10) (f.S.getD n Sb0) ca cc pa pc ea ec) := ⟨HGD.out.fb, HGD.out.ib, m1r⟩
    clear m1r
    clear m1 m2 m3 m1w m2r n2 n3 n4 n4r n5 q1 q2 hsame hhi
    generalize L.getD n [] = l at *
    generalize f.S.getD n Sb0 = q at *
    generalize wdA i f.mo n = v at *
    generalize subB q v l = SB at *
   rotate_left
   focus
    have ke := does10.enc_no (f.S.getD n Sb0) (wdA i f.mo n) (L.getD n []) ca cc pa pc ea ec la lc p aj (B ++ chB i f.mo f.S L n) wr.drew n2 n3 m3.2 m3.1 (by omega) (by have h1 := wdA_rng i f.mo n hw; exact ⟨by omega, by omega⟩) o1 (by omega) m2r n4r HGD.out.wb.wr (apart_high m2.C hhi) (apart_high m2.R.P hhi) (apart_high m2.R.E hhi) (HG.out.wb.apart n4 n5) hs
    have HNO : Hid (¬ (∀ j, j < L.length -> okS (f.S.getD j Sb0) (wdA i f.mo j) (L.getD j []))) := fun h => hs (h n hlt)
    have hr60 := HYN.out.2 HNO.out
    clear hs HYN
    subst hr60
    have HS0 : Hid (wr.drew.heap[w.heap.size]? = some (.cells (fmC f (some ⟨sb, sf, none⟩) sk) 24 (0, 0)) /\ wr.drew.heap[w.heap.size + 1]? = some (.cells (infC a b c d i e s) 26 (0, 0)) /\ SubIn wr.drew sb (sf + n * 10) (f.S.getD n Sb0) ca cc pa pc ea ec) := ⟨HGD.out.fb, HGD.out.ib, m1r⟩
    clear m1r
    clear m1 m2 m3 m1w m2r n2 n3 n4 n4r n5 q1 q2 hsame hhi
    generalize L.getD n [] = l at *
    generalize f.S.getD n Sb0 = q at *
    generalize wdA i f.mo n = v at *
   rotate_left
  rotate_left 2
  ·have hnl : n = L.length := by omega
   subst hnl
   have hr0 := HYN.out.1 HOK.out
   subst hr0
   go_wp2_with fail
   go_ret
   exact ⟨rfl, HG.out.wb.st, aj, HG.out.wb.mv, fun _ => HG.out.wb.wr⟩
  all_goals
   generalize B ++ chB i f.mo f.S L n = BJ at *
   go_wp2_with fail
   clear n1r
   refine wp_region_held_drew (S := fun wx => wx.heap[w.heap.size]? = some (.cells (fmC f (some ⟨sb, sf, none⟩) sk) 24 (0, 0)) /\ wx.heap[w.heap.size + 1]? = some (.cells (infC a b c d i e s) 26 (0, 0)) /\ SubIn wx sb (sf + n * 10) q ca cc pa pc ea ec) (by kernel_rfl) HS0.out (fun hS => ?_)
   refine vQ 0 (.pointer (some ⟨p, 0, none⟩)) hS ?_
   simp only [SL]
   refine vQ 1 (.pointer (some ⟨w.heap.size, 7, none⟩)) hS ?_
   simp only [SL]
   refine uQ 2 (.slice (some ⟨sb, sf, none⟩) f.S.length sk) rfl hS (Or.inl ⟨by rfl, fun w hSw => by have z := fm_cells hSw.1; obtain ⟨f0, f1, f2, f3, f4, f5, f6, f7⟩ := z; have y := inf_cells hSw.2.1; obtain ⟨i0, i1, i2, i3, i4, i5, i6, i7, i8⟩ := y; go_simp⟩) ?_
   simp only [SL]
   refine vQ 3 (.int .i64 (n : Int)) hS ?_
   simp only [SL]
   refine vQ 4 (.pointer (some ⟨sb, sf + n * 10, none⟩)) hS ?_
   simp only [SL]
   refine uQ 5 (subV q ca cc pa pc ea ec) rfl hS (Or.inl ⟨by rfl, fun w hSw => by have hk := hSw.2.2; unfold SubIn at hk; obtain ⟨x0, x1, x2, x3, x4, x5, x6, x7, x8, x9⟩ := hk; go_simp⟩) ?_
   simp only [SL]
   refine vQ 6 (.pointer (some ⟨w.heap.size, 6, none⟩)) hS ?_
   simp only [SL]
   refine uQ 7 (.int .i64 f.mo) rfl hS (Or.inl ⟨by rfl, fun w hSw => by have z := fm_cells hSw.1; obtain ⟨f0, f1, f2, f3, f4, f5, f6, f7⟩ := z; have y := inf_cells hSw.2.1; obtain ⟨i0, i1, i2, i3, i4, i5, i6, i7, i8⟩ := y; go_simp⟩) ?_
   simp only [SL]
   refine vQ 8 (.int .i64 (n : Int)) hS ?_
   simp only [SL]
   refine vQ 9 (.pointer (some ⟨w.heap.size + 1, 6, none⟩)) hS ?_
   simp only [SL]
   refine uQ 10 (.int .i64 i.wd) rfl hS (Or.inl ⟨by rfl, fun w hSw => by have z := fm_cells hSw.1; obtain ⟨f0, f1, f2, f3, f4, f5, f6, f7⟩ := z; have y := inf_cells hSw.2.1; obtain ⟨i0, i1, i2, i3, i4, i5, i6, i7, i8⟩ := y; go_simp⟩) ?_
   simp only [SL]
   refine vQ 12 (.slice la l.length lc) hS ?_
   simp only [SL]
   refine wpAnyH_ready (rs := [11]) (by kernel_rfl) (by simp) ?_
   refine AllReadyH.cons rfl (fun K hK => ?_) AllReadyH.nil
   go_simp
   refine (KW.out _).mono ?_
   rintro en w4 ⟨rfl, hw4⟩
   have hw5 := hw4.symm
   clear hw4
   subst hw5
   refine hK.out _ _ hS (fun hS4 => ?_)
   clear hK K
   try simp only [SL]
   refine wpAnyH_ready (rs := [13]) (by kernel_rfl) (by simp) ?_
   refine AllReadyH.cons rfl (fun K hK => ?_) AllReadyH.nil
   go_simp
   refine ke.mono ?_
  focus
   rintro en w6 ⟨rfl, ao6, hw6, hs6, hm6⟩
   have HG6 := kQ (HGD.out.put hw6 hs6 hm6)
  rotate_left
  focus
   rintro en w6 ⟨rfl, hb6⟩
   have HG6 := kQ (HGD.out.low hb6)
  rotate_left
  all_goals
   have HI6 : Hid (SubIn w6 sb (sf + n * 10) q ca cc pa pc ea ec) := HSUB.out.keep (by
    rw [HG6.out.wb.st.block sb HSL.out (fun hf => by have := HFT.out _ hf; have := HSB.out; omega)])
  ·clear hw6 hs6 hm6
   refine hK.out _ _ ⟨HG6.out.fb, HG6.out.ib, HI6.out⟩ (fun hS6 => ?_)
   clear hK K
   try simp only [SL]
   refine vQ 14 (.int .i64 0) hS6 ?_
   simp only [SL]
   refine wpAnyH_done (by kernel_rfl) ?_ _
   go_wp2_with fail
   go_roundw
   case rel =>
    refine ⟨n + 1, ao6, by omega, by go_num, fun j hj => ?_, by rw [HNX.out]; exact HG6.out⟩
    by_cases ej : j = n
    ·exact HSO.out j ej
    ·exact HOK.out j (by omega)
   case measure => simp [intOf]; omega
  ·clear hb6
   refine hK.out _ _ ⟨HG6.out.fb, HG6.out.ib, HI6.out⟩ (fun hS6 => ?_)
   clear hK K
   try simp only [SL]
   refine vQ 14 (.int .i64 60) hS6 ?_
   simp only [SL]
   refine wpAnyH_done (by kernel_rfl) ?_ _
   go_wp2_with fail
   go_ret
   exact ⟨rfl, HG6.out.wb.st, aj, HG6.out.wb.mv, fun h => absurd h HNO.out⟩
theorem subsP_eq (s : ByteArray) (a : Nat) (i : Inf) (mo size : Int) (n : Nat) : subsP s a i mo size (n + 1) = (match subsP s a i mo size n with
  | none => none
  | some (L, S, a1) => match decS s a1 size (wdA i mo n) with
   | none => none
   | some (l, q, a2) => some (L ++ [l], S ++ [q], a2)) := rfl
theorem subsP_next {s : ByteArray} {a : Nat} {i : Inf} {mo size : Int} {n : Nat} {L : List (List Int)} {S : List Sb} {a1 : Nat} (h : subsP s a i mo size n = some (L, S, a1)) {l : List Int} {z : Sb} {a2 : Nat} (hd : decS s a1 size (wdA i mo n) = some (l, z, a2)) : subsP s a i mo size (n + 1) = some (L ++ [l], S ++ [z], a2) := by
 rw [subsP_eq, h]
 simp only [hd]
theorem subsP_stop {s : ByteArray} {a : Nat} {i : Inf} {mo size : Int} {n : Nat} {L : List (List Int)} {S : List Sb} {a1 : Nat} (h : subsP s a i mo size n = some (L, S, a1)) (hd : decS s a1 size (wdA i mo n) = none) : subsP s a i mo size (n + 1) = none := by
 rw [subsP_eq, h]
 simp only [hd]
theorem decS_le {s : ByteArray} {a : Nat} {b v : Int} {l : List Int} {z : Sb} {a2 : Nat} (hb : 1 <= b /\ b <= 65535) (hv : 1 <= v /\ v <= 33) (h : decS s a b v = some (l, z, a2)) (ha : a <= 8 * s.size) : a2 <= 8 * s.size := by
 obtain ⟨_, _, _, h4, h5⟩ := sub_again hb hv h
 have h6 := congrArg List.length h4
 rw [List.length_append, ahead_length, ahead_length] at h6
 omega
theorem rows_info : ∃ i, Tryz.prog.info? 56 = some i /\ i.zero = some (.slice none 0 0) /\ i.size = 1 /\ i.bytes = 24 := by
 have h : (Tryz.prog.info? 56).map (fun i => (i.zero, i.size, i.bytes)) = some (some (.slice none 0 0), 1, 24) := by kernel_rfl
 cases hq : Tryz.prog.info? 56 with
 | none => rw [hq] at h; cases h
 | some i =>
  rw [hq] at h
  simp only [Option.map_some, Option.some.injEq, Prod.mk.injEq] at h
  exact ⟨i, rfl, h.1, h.2.1, h.2.2⟩
theorem subs_info : ∃ i, Tryz.prog.info? 67 = some i /\ i.zero = some (.agg (subC S0 none 0 none 0 none 0)) /\ i.size = 10 /\ i.bytes = 128 := by
 have h : (Tryz.prog.info? 67).map (fun i => (i.zero, i.size, i.bytes)) = some (some (.agg (subC S0 none 0 none 0 none 0)), 10, 128) := by kernel_rfl
 cases hq : Tryz.prog.info? 67 with
 | none => rw [hq] at h; cases h
 | some i =>
  rw [hq] at h
  simp only [Option.map_some, Option.some.injEq, Prod.mk.injEq] at h
  exact ⟨i, rfl, h.1, h.2.1, h.2.2⟩
theorem undRows : Tryz.prog.underlying 27 = some (.slice 56) := by kernel_rfl
theorem undSubs : Tryz.prog.underlying 22 = some (.slice 67) := by kernel_rfl
theorem one_slice (a : OA) (n c : Nat) : ∀ u ∈ [Value.slice a n c], u.oneCell' = true := by intro u hu; simp at hu; subst hu; rfl
theorem one_sub (z : Sb) (ca : OA) (cc : Nat) (pa : OA) (pc : Nat) (ea : OA) (ec : Nat) : ∀ u ∈ (subC z ca cc pa pc ea ec).toList, u.oneCell' = true := by
 intro u hu
 simp only [subC, List.mem_cons, List.not_mem_nil, or_false] at hu
 rcases hu with rfl | rfl | rfl | rfl | rfl | rfl | rfl | rfl | rfl | rfl <;> rfl
theorem Off.moved {w wx : World} {vL vS : Value} {a : OA} {l : List Int} {g m cap : Nat} (h : Off w vL vS a l) (hi : IntsAt wx a l) (hat : vL.ownBlock = some g ∨ g = wx.heap.size) : Off w (.slice (some ⟨g, 0, none⟩) m cap) vS a l := fun h0 b hb => ⟨(h h0 b hb).1, fun e => by
  have e2 : g = b := by simpa [Value.ownBlock] using e
  rcases hat with h1 | h1
  ·exact (h h0 b hb).2.1 (by rw [h1, e2])
  ·have := hi.blk h0 b hb; omega, (h h0 b hb).2.2⟩
structure DN (w : World) (vL vS : Value) (l : List Int) (la : OA) (lc : Nat) (z : Sb) (ca : OA) (cc : Nat) (pa ea : OA) (wx : World) : Prop where
 li : IntsAt wx la l
 ll : l.length <= lc /\ (la = none -> lc = 0)
 lf : Off w vL vS la l
 zi : SbAt wx z ca pa ea
 zl : z.C.length <= cc /\ (ca = none -> cc = 0)
 cf : Off w vL vS ca z.C
 pf : Off w vL vS pa z.R.P
 ef : Off w vL vS ea z.R.E
section
variable {w wx w' : World} {vL vS : Value} {l : List Int} {la : OA} {lc : Nat} {z : Sb} {ca : OA} {cc : Nat} {pa ea : OA}
theorem DN.low (h : DN w vL vS l la lc z ca cc pa ea wx) (hb : Lo wx w') : DN w vL vS l la lc z ca cc pa ea w' := ⟨h.li.below hb, h.ll, h.lf, h.zi.below hb, h.zl, h.cf, h.pf, h.ef⟩
theorem DN.grown {g m cap : Nat} (h : DN w vL vS l la lc z ca cc pa ea wx) (hg : wx.grownBy w' vL.ownBlock) (hat : vL.ownBlock = some g ∨ g = wx.heap.size) : DN w (.slice (some ⟨g, 0, none⟩) m cap) vS l la lc z ca cc pa ea w' := by
 have blk : ∀ k, k < wx.heap.size -> vL.ownBlock ≠ some k -> w'.heap[k]? = wx.heap[k]? := fun k hk hne => hg.block k hk (fun e => hne e.symm)
 have off : ∀ {ao : OA} {l : List Int}, Off w vL vS ao l -> IntsAt wx ao l -> IntsAt w' ao l := fun {ao l} hf hi => ints_keep hi (fun h0 k hk hl => blk k hl (hf h0 k hk).2.1)
 exact ⟨off h.lf h.li, h.ll, h.lf.moved h.li hat, sb_keep h.zi (off h.cf h.zi.C) (off h.pf h.zi.R.P) (off h.ef h.zi.R.E), h.zl, h.cf.moved h.zi.C hat, h.pf.moved h.zi.R.P hat, h.ef.moved h.zi.R.E hat⟩
end
theorem rs_dec_no (a b c d : Int) (i : Inf) (e : Int) (sc : ByteArray) (hw : 4 <= i.wd /\ i.wd <= 24) (hch : 1 <= i.ch /\ i.ch <= 8) (x q : Nat) (s : ByteArray) (hs : s.size <= 140737488351232) (f : Fm) (hsz : 1 <= f.size /\ f.size <= 4608) (w : World) (L : List (List Int)) (S : List Sb) (lo : OA) (lk : Nat) (so : OA) (sk : Nat) (cX cY : List Value) (an n : Nat) (han : an <= 8 * s.size) (hdec : decS s an f.size (wdA i f.mo n) = none) (wx : World) (hx : RS w x q s f a b c d i e sc L S (.slice lo L.length lk) (.slice so S.length sk) (.slice so S.length sk) cX cY an wx) :
  Calls Tryz.prog 102 #[.pointer (some ⟨x, 0, none⟩), .int .i64 f.size, .int .i64 (wdA i f.mo n)] wx fun en w' => en = .returned (.tuple #[.slice none 0 0, subV S0 none 0 none 0 none 0, .int .i64 2]) /\ (Stays (two x q) w w' /\ w'.cell? ⟨q, 2, none⟩ = some (.int .i64 f.size) /\ w'.cell? ⟨q, 6, none⟩ = some (.int .i64 f.mo) /\ w'.cell? ⟨q, 7, none⟩ = some (.slice so S.length sk) /\ w'.cell? ⟨w.heap.size, 6, none⟩ = some (.int .i64 i.wd) /\ w'.cell? ⟨w.heap.size, 5, none⟩ = some (.int .i64 i.ch)) /\ ∀ k, k < wx.heap.size -> k ≠ x -> w'.heap[k]? = wx.heap[k]? := by
 have hvr := wdA_rng i f.mo n hw
 refine (does10.dec_no x s an f.size (wdA i f.mo n) wx hs han (by omega) (by omega) hx.rd hdec).mono fun en w' qq => ⟨qq.1, ⟨hx.st.trans qq.2 (fun _ _ h => Or.inl h), ?_⟩, fun k hk hne => qq.2.block k hk hne⟩
 have hk : ∀ k, k < wx.heap.size -> k ≠ x -> w'.heap[k]? = wx.heap[k]? := fun k hk hne => qq.2.block k hk hne
 have hx1 := hx.hx
 obtain ⟨c1, c2, c3, c4, c5⟩ := hx.cells
 refine ⟨?_, ?_, ?_, ?_, ?_⟩
 ·rw [World.cell?_of_block (w := wx) (hk _ (lt_of_block hx.fb) (fun e => hx.xq e.symm))]; exact c1
 ·rw [World.cell?_of_block (w := wx) (hk _ (lt_of_block hx.fb) (fun e => hx.xq e.symm))]; exact c2
 ·rw [World.cell?_of_block (w := wx) (hk _ (lt_of_block hx.fb) (fun e => hx.xq e.symm))]; exact c3
 ·rw [World.cell?_of_block (w := wx) (hk _ (lt_of_block hx.ib) (by show w.heap.size ≠ x; omega))]; exact c4
 ·rw [World.cell?_of_block (w := wx) (hk _ (lt_of_block hx.ib) (by show w.heap.size ≠ x; omega))]; exact c5
theorem rs_dec_ok (a b c d : Int) (i : Inf) (e : Int) (sc : ByteArray) (hw : 4 <= i.wd /\ i.wd <= 24) (hch : 1 <= i.ch /\ i.ch <= 8) (x q : Nat) (s : ByteArray) (hs : s.size <= 140737488351232) (f : Fm) (hsz : 1 <= f.size /\ f.size <= 4608) (w : World) (L : List (List Int)) (S : List Sb) (lo : OA) (lk : Nat) (so : OA) (sk : Nat) (cX cY : List Value) (an n : Nat) (han : an <= 8 * s.size) (l : List Int) (z : Sb) (a2 : Nat) (hdec : decS s an f.size (wdA i f.mo n) = some (l, z, a2)) (wx : World) (hx : RS w x q s f a b c d i e sc L S (.slice lo L.length lk) (.slice so S.length sk) (.slice so S.length sk) cX cY an wx) :
  Calls Tryz.prog 102 #[.pointer (some ⟨x, 0, none⟩), .int .i64 f.size, .int .i64 (wdA i f.mo n)] wx fun en w' => ∃ la lc ca cc pa pc ea ec, en = .returned (.tuple #[.slice la l.length lc, subV z ca cc pa pc ea ec, .int .i64 0]) /\ (RS w x q s f a b c d i e sc L S (.slice lo L.length lk) (.slice so S.length sk) (.slice so S.length sk) cX cY a2 w' /\ DN w (.slice lo L.length lk) (.slice so S.length sk) l la lc z ca cc pa ea w') /\ (∀ k, k < wx.heap.size -> k ≠ x -> w'.heap[k]? = wx.heap[k]?) /\ (Fr wx.heap.size la /\ Fr wx.heap.size ca /\ Fr wx.heap.size pa /\ Fr wx.heap.size ea) /\ wx.heap.size <= w'.heap.size := by
 have hvr := wdA_rng i f.mo n hw
 refine (does10.dec_ok x s an f.size (wdA i f.mo n) l z a2 wx hs han (by omega) (by omega) hx.rd hdec).mono fun en w' qq => ?_
 obtain ⟨la, lc, ca, cc, pa, pc, ea, ec, q1, q2, q3, q4, q5, ⟨f1, f2, f3, f4⟩, q7, q8⟩ := qq
 have hib := lt_of_block hx.ib
 have off : ∀ {ao : OA} {l : List Int}, Fr wx.heap.size ao -> Off w (.slice lo L.length lk) (.slice so S.length sk) ao l := fun {ao l} hf h0 b hb => by
  have h1 := hf b hb
  exact ⟨by omega, fun e => by have := (hx.oX.lt b e).2; omega, fun e => by have := (hx.oY.lt b e).2; omega⟩
 exact ⟨la, lc, ca, cc, pa, pc, ea, ec, q1, ⟨hx.only q7 q8, q2, q3, off f1, q4, q5, off f2, off f3, off f4⟩, fun k hk hne => q8.block k hk hne, ⟨f1, f2, f3, f4⟩, q8.size⟩
theorem rs_set10 {w wr w5 W : World} {x q : Nat} {s : ByteArray} {f : Fm} {a b c d : Int} {i : Inf} {e : Int} {sc : ByteArray} {L : List (List Int)} {S : List Sb} {vL vS : Value} {cX cY : List Value} {an a2 : Nat} {l : List Int} {la : OA} {lc : Nat} {z : Sb} {ca : OA} {cc : Nat} {pa ea : OA}
  (h0 : RS w x q s f a b c d i e sc L S vL vS vS cX cY an wr) (hst : Stays (only wr.heap.size) w5 W) (h5 : RS w x q s f a b c d i e sc L S vL vS vS cX cY a2 w5) (hd : DN w vL vS l la lc z ca cc pa ea w5) (hb : ∀ j, j < wr.heap.size -> j ≠ x -> w5.heap[j]? = wr.heap[j]?) (hf : Fr (wr.heap.size + 1) la /\ Fr (wr.heap.size + 1) ca /\ Fr (wr.heap.size + 1) pa /\ Fr (wr.heap.size + 1) ea) (hsz : wr.heap.size <= w5.heap.size) :
  RS w x q s f a b c d i e sc L S vL vS vS cX cY a2 W /\ DN w vL vS l la lc z ca cc pa ea W := by
 have hx := h0.hx
 have hib := lt_of_block h0.ib
 have blk : ∀ j, j < w5.heap.size -> j ≠ wr.heap.size -> W.heap[j]? = w5.heap[j]? := fun j hj hne => hst.block j hj hne
 have hrd : Rd W x s a2 := by have h := h5.rd; unfold Rd at h ⊢; rw [blk x h5.rd.lt (by omega)]; exact h
 have hstw : Stays (two x q) w W := h5.st.trans hst (fun j hj hjk => by have e2 : j = wr.heap.size := hjk; omega)
 have keep : ∀ {ao : OA} {l : List Int}, Fr (wr.heap.size + 1) ao -> IntsAt w5 ao l -> IntsAt W ao l := fun {ao l} hf hi => ints_keep hi (fun h0 k hk hl => blk k hl (by have := hf k hk; omega))
 refine ⟨h0.keep hrd (by have := hst.size; omega) hstw (fun j hj hne => by rw [blk j (by omega) (by omega)]; exact hb j hj hne), ?_⟩
 exact ⟨keep hf.1 hd.li, hd.ll, hd.lf, sb_keep hd.zi (keep hf.2.1 hd.zi.C) (keep hf.2.2.1 hd.zi.R.P) (keep hf.2.2.2 hd.zi.R.E), hd.zl, hd.cf, hd.pf, hd.ef⟩
theorem tmpn_old (w : World) (a b : Obj) : ((w.alloc a).alloc b).heap[w.heap.size]? = some a := by
 rw [Below.heap_alloc _ _ _ (by simp)]; exact heap_alloc_new _ _
theorem tmpn_next (w : World) (a b : Obj) : ((w.alloc a).alloc b).heap[w.heap.size + 1]? = some b := by
 have h := heap_alloc_new (w.alloc a) b
 rw [show (w.alloc a).heap.size = w.heap.size + 1 from by simp] at h
 exact h
end Go.Proofs.YtfpfabmbipmipaaGreatDoor
