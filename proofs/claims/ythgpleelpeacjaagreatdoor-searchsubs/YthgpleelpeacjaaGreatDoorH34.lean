/- Own text. -/
import Derived.Test.YthgpleelpeacjaaGreatDoorH33
set_option linter.unusedSimpArgs false
set_option linter.unusedVariables false
set_option maxRecDepth 20000
set_option maxHeartbeats 12800000
namespace Go.Proofs.YthgpleelpeacjaaGreatDoor
open Go.RowKit
structure JX (w : World) (f : Fm) (so : Option Addr) (sk : Nat) (a b c d : Int) (i : Inf) (e : Int) (s : ByteArray) (k : Nat) (q : Sb) (ca : Option Addr) (cc : Nat) (pa : Option Addr) (pc : Nat) (ea : Option Addr) (ec : Nat) (wx : World) : Prop where
 fx : FX w f so sk a b c d i e s wx
 sb : wx.heap[k]? = some (.cells (subC q ca cc pa pc ea ec) 27 (0, 0))
section
variable {w wx w' : World} {f : Fm} {so : Option Addr} {sk : Nat} {a b c d : Int} {i : Inf} {e : Int} {s : ByteArray} {k : Nat} {q : Sb} {ca : Option Addr} {cc : Nat} {pa : Option Addr} {pc : Nat} {ea : Option Addr} {ec : Nat}
theorem JX.next (h : JX w f so sk a b c d i e s k q ca cc pa pc ea ec wx) (hb : Below wx.heap.size wx w') : JX w f so sk a b c d i e s k q ca cc pa pc ea ec w' :=
 ⟨h.fx.next hb, by rw [hb.block _ (lt_of_block h.sb)]; exact h.sb⟩
end
theorem JX.cells {w wx : World} {f : Fm} {so : Option Addr} {sk : Nat} {a b c d : Int} {i : Inf} {e : Int} {s : ByteArray} {k : Nat} {q : Sb} {ca : Option Addr} {cc : Nat} {pa : Option Addr} {pc : Nat} {ea : Option Addr} {ec : Nat} (h : JX w f so sk a b c d i e s k q ca cc pa pc ea ec wx) : wx.cell? ⟨w.heap.size, 2, none⟩ = some (.int .i64 f.size) ∧ wx.cell? ⟨w.heap.size, 6, none⟩ = some (.int .i64 f.mo) ∧ wx.cell? ⟨w.heap.size + 1, 6, none⟩ = some (.int .i64 i.wd) ∧ wx.cell? ⟨k, 0, none⟩ = some (.int .i64 q.k) ∧ wx.cell? ⟨k, 1, none⟩ = some (.int .i64 q.o) ∧ wx.cell? ⟨k, 2, none⟩ = some (.int .i64 q.w) ∧ wx.cell? ⟨k, 3, none⟩ = some (.int .i64 q.p) ∧ wx.cell? ⟨k, 4, none⟩ = some (.int .i64 q.h) ∧ wx.cell? ⟨k, 5, none⟩ = some (.slice ca q.C.length cc) ∧ wx.cell? ⟨k, 6, none⟩ = some (.int .i64 q.R.m) ∧ wx.cell? ⟨k, 7, none⟩ = some (.int .i64 q.R.o) ∧ wx.cell? ⟨k, 8, none⟩ = some (.slice pa q.R.P.length pc) ∧ wx.cell? ⟨k, 9, none⟩ = some (.slice ea q.R.E.length ec) := by
 obtain ⟨f0, f1, f2, f3, f4, f5, f6, f7, i0, i1, i2, i3, i4, i5, i6, i7, i8⟩ := h.fx.cells
 obtain ⟨x0, x1, x2, x3, x4, x5, x6, x7, x8, x9⟩ := sub_cells h.sb
 exact ⟨f2, f6, i6, x0, x1, x2, x3, x4, x5, x6, x7, x8, x9⟩
theorem f_has (f : Fm) (so : Option Addr) (sk : Nat) (a b c d : Int) (i : Inf) (e : Int) (s : ByteArray) (hw : 4 ≤ i.wd ∧ i.wd ≤ 24) (bb : Bool) (hbb : bb = true ↔ ((f.S.length : Int) = i.ch ∧ ∀ j, j < f.S.length → subOk (f.S.getD j Sb0) f.size (wdA i f.mo j))) (w : World) (hf : FmAt w f so sk) : Calls Tryz.prog 65 #[fmV f so sk, infV a b c d i e s] w fun en w' => en = .returned (.bool bb) ∧ Below w.heap.size w w' := by
 have hlen := hf.S.len
 have HS : Hid (SubsAt w so f.S) := hf.S
 clear hf
 by_cases g0 : (f.S.length : Int) = i.ch
 ·have hb0 : ((f.S.length : Int) != i.ch) = false := by rw [bne_eq_false_iff_eq]; exact g0
  have HBB : Hid (bb = true ↔ ∀ j, j < f.S.length → subOk (f.S.getD j Sb0) f.size (wdA i f.mo j)) := ⟨fun h => (hbb.1 h).2, fun h => hbb.2 ⟨g0, h⟩⟩
  clear hbb g0
  have KWW : Hid (∀ n wx, Calls Tryz.prog 105 #[.int .i64 f.mo, .int .i64 ((n : Nat) : Int), .int .i64 i.wd] wx fun en w' => en = .returned (.int .i64 (wdA i f.mo n)) ∧ w' = wx) := fun n wx => f_subW i f.mo n hw wx
  have HA : Hid (FX w f so sk a b c d i e s ((w.alloc (.cells (fmC f so sk) 41)).alloc (.cells (infC a b c d i e s) 38))) := FX.new w f so sk a b c d i e s
  go_enter Tryz.func65, Tryz.ntmps65
  go_upto_region 1 with fail
  generalize hwa : World.alloc _ _ = wa at *
  clear hwa
  obtain ⟨f0, f1, f2, f3, f4, f5, f6, f7, i0, i1, i2, i3, i4, i5, i6, i7, i8⟩ := HA.out.cells
  go_wp2_with fail
  clear f0 f1 f2 f3 f4 f5 f6 f7 i0 i1 i2 i3 i4 i5 i6 i7 i8
  go_loopw [5, 6, 16] (fun s5 s6 s16 wr => ∃ n : Nat, n ≤ f.S.length ∧ s16 = .int .i64 (n : Int) ∧ (∀ j, j < n → subOk (f.S.getD j Sb0) f.size (wdA i f.mo j)) ∧ FX w f so sk a b c d i e s wr) (fun _ _ s16 _ => f.S.length - (intOf s16).toNat)
  case atStart => exact ⟨0, Nat.zero_le _, rfl, fun j hj => absurd hj (Nat.not_lt_zero _), HA.out⟩
  case round =>
   clear HA
   obtain ⟨n, hn, rfl, hok, hfx⟩ := hrel
   have HOK : Hid (∀ j, j < n → subOk (f.S.getD j Sb0) f.size (wdA i f.mo j)) := hok
   have HFX : Hid (FX w f so sk a b c d i e s wr) := hfx
   clear hok hfx
   by_cases hlt : n < f.S.length
   ·obtain ⟨sb, sf, rfl, q1⟩ := HS.out.lies (by omega)
    obtain ⟨ca, cc, pa, pc, ea, ec, m1, m2, m3⟩ := q1 n hlt
    have m1r := m1.keep (HFX.out.below.block _ (lt_cell m1.1))
    have KW : Hid (∀ wx, Calls Tryz.prog 105 #[.int .i64 f.mo, .int .i64 (n : Int), .int .i64 i.wd] wx fun en w' => en = .returned (.int .i64 (wdA i f.mo n)) ∧ w' = wx) := fun wx => KWW.out n wx
    obtain ⟨r, hr⟩ : ∃ r : Int, (subOk (f.S.getD n Sb0) f.size (wdA i f.mo n) → r = 0) ∧ (¬ subOk (f.S.getD n Sb0) f.size (wdA i f.mo n) → r = 60) := by
     by_cases h : subOk (f.S.getD n Sb0) f.size (wdA i f.mo n)
     ·exact ⟨0, fun _ => rfl, fun h2 => absurd h h2⟩
     ·exact ⟨60, fun h2 => absurd h2 h, fun _ => rfl⟩
    have KK : Hid (∀ wx, Hid (JX w f (some ⟨sb, sf, none⟩) sk a b c d i e s wr.heap.size (f.S.getD n Sb0) ca cc pa pc ea ec wx) → Calls Tryz.prog 66 #[subV (f.S.getD n Sb0) ca cc pa pc ea ec, .int .i64 f.size, .int .i64 (wdA i f.mo n)] wx fun en w' => en = .returned (.int .i64 r) ∧ Hid (JX w f (some ⟨sb, sf, none⟩) sk a b c d i e s wr.heap.size (f.S.getD n Sb0) ca cc pa pc ea ec w')) := fun wx hx => (s_check (f.S.getD n Sb0) ca cc pa pc ea ec f.size (wdA i f.mo n) r hr.1 hr.2 wx (m2.below hx.out.fx.below)).mono fun en w' q => ⟨q.1, hx.out.next q.2⟩
    have HR : Hid ((subOk (f.S.getD n Sb0) f.size (wdA i f.mo n) → r = 0) ∧ (¬ subOk (f.S.getD n Sb0) f.size (wdA i f.mo n) → r = 60)) := hr
    have HJ : Hid (JX w f (some ⟨sb, sf, none⟩) sk a b c d i e s wr.heap.size (f.S.getD n Sb0) ca cc pa pc ea ec (wr.alloc (.cells (subC (f.S.getD n Sb0) ca cc pa pc ea ec) 27))) := ⟨HFX.out.next ((Below.refl _ _).alloc (Nat.le_refl _) _), heap_alloc_new _ _⟩
    have HE : Hid (∀ j, j = n → subOk (f.S.getD j Sb0) f.size (wdA i f.mo j) = subOk (f.S.getD n Sb0) f.size (wdA i f.mo n)) := fun j hj => by rw [hj]
    clear q1 m1 m2 m3 hr KWW
    unfold SubIn at m1r
    obtain ⟨x0, x1, x2, x3, x4, x5, x6, x7, x8, x9⟩ := m1r
    obtain ⟨f0, f1, f2, f3, f4, f5, f6, f7, i0, i1, i2, i3, i4, i5, i6, i7, i8⟩ := HFX.out.cells
    by_cases hs : subOk (f.S.getD n Sb0) f.size (wdA i f.mo n)
    ·have hr0 := HR.out.1 hs
     subst hr0
     have HSO : Hid (subOk (f.S.getD n Sb0) f.size (wdA i f.mo n)) := hs
     clear hs HR HBB
     generalize f.S.getD n Sb0 = q at *
     generalize wdA i f.mo n = v at *
     go_upto_region 6 with fail
     generalize hw2 : World.alloc _ _ = w2 at *
     clear hw2
     generalize hk : wr.heap.size = k at *
     clear hk
     clear x0 x1 x2 x3 x4 x5 x6 x7 x8 x9 f0 f1 f2 f3 f4 f5 f6 f7 i0 i1 i2 i3 i4 i5 i6 i7 i8 HFX
     have HC : Hid (∀ wx, Hid (JX w f (some ⟨sb, sf, none⟩) sk a b c d i e s k q ca cc pa pc ea ec wx) → wx.cell? ⟨w.heap.size, 2, none⟩ = some (.int .i64 f.size) ∧ wx.cell? ⟨w.heap.size, 6, none⟩ = some (.int .i64 f.mo) ∧ wx.cell? ⟨w.heap.size + 1, 6, none⟩ = some (.int .i64 i.wd) ∧ wx.cell? ⟨k, 0, none⟩ = some (.int .i64 q.k) ∧ wx.cell? ⟨k, 1, none⟩ = some (.int .i64 q.o) ∧ wx.cell? ⟨k, 2, none⟩ = some (.int .i64 q.w) ∧ wx.cell? ⟨k, 3, none⟩ = some (.int .i64 q.p) ∧ wx.cell? ⟨k, 4, none⟩ = some (.int .i64 q.h) ∧ wx.cell? ⟨k, 5, none⟩ = some (.slice ca q.C.length cc) ∧ wx.cell? ⟨k, 6, none⟩ = some (.int .i64 q.R.m) ∧ wx.cell? ⟨k, 7, none⟩ = some (.int .i64 q.R.o) ∧ wx.cell? ⟨k, 8, none⟩ = some (.slice pa q.R.P.length pc) ∧ wx.cell? ⟨k, 9, none⟩ = some (.slice ea q.R.E.length ec)) := fun wx h => h.out.cells
     have HD : Hid (JX w f (some ⟨sb, sf, none⟩) sk a b c d i e s k q ca cc pa pc ea ec w2.drew) := HJ.out.next ⟨rfl, rfl, rfl, Nat.le_refl _, fun _ _ => rfl⟩
     clear HJ
     go_wp2_with fail
     go_region_held3 (fun wx => wx.cell? ⟨w.heap.size, 2, none⟩ = some (.int .i64 f.size) ∧ wx.cell? ⟨w.heap.size, 6, none⟩ = some (.int .i64 f.mo) ∧ wx.cell? ⟨w.heap.size + 1, 6, none⟩ = some (.int .i64 i.wd) ∧ wx.cell? ⟨k, 0, none⟩ = some (.int .i64 q.k) ∧ wx.cell? ⟨k, 1, none⟩ = some (.int .i64 q.o) ∧ wx.cell? ⟨k, 2, none⟩ = some (.int .i64 q.w) ∧ wx.cell? ⟨k, 3, none⟩ = some (.int .i64 q.p) ∧ wx.cell? ⟨k, 4, none⟩ = some (.int .i64 q.h) ∧ wx.cell? ⟨k, 5, none⟩ = some (.slice ca q.C.length cc) ∧ wx.cell? ⟨k, 6, none⟩ = some (.int .i64 q.R.m) ∧ wx.cell? ⟨k, 7, none⟩ = some (.int .i64 q.R.o) ∧ wx.cell? ⟨k, 8, none⟩ = some (.slice pa q.R.P.length pc) ∧ wx.cell? ⟨k, 9, none⟩ = some (.slice ea q.R.E.length ec)) (exact HC.out _ (by assumption))
      (first
       | (go_at_call 105; refine (KW.out _).mono ?_; rintro en w4 ⟨rfl, hw4⟩; subst hw4)
       | (go_at_call 66; refine (KK.out _ (by assumption)).mono ?_; rintro en w5 ⟨rfl, h5⟩))
     go_wp2_with fail
     go_roundw
     case rel =>
      refine ⟨n + 1, by omega, by go_num, fun j hj => ?_, h5.out.fx⟩
      by_cases ej : j = n
      ·rw [HE.out j ej]; exact HSO.out
      ·exact HOK.out j (by omega)
     case measure => simp [intOf]; omega
    ·have hr0 := HR.out.2 hs
     subst hr0
     have HF : Hid (bb = false) := bb_no HBB.out (fun h => hs (h n hlt))
     clear hs HR HBB HE HOK
     generalize f.S.getD n Sb0 = q at *
     generalize wdA i f.mo n = v at *
     go_upto_region 6 with fail
     generalize hw2 : World.alloc _ _ = w2 at *
     clear hw2
     generalize hk : wr.heap.size = k at *
     clear hk
     clear x0 x1 x2 x3 x4 x5 x6 x7 x8 x9 f0 f1 f2 f3 f4 f5 f6 f7 i0 i1 i2 i3 i4 i5 i6 i7 i8 HFX
     have HC : Hid (∀ wx, Hid (JX w f (some ⟨sb, sf, none⟩) sk a b c d i e s k q ca cc pa pc ea ec wx) → wx.cell? ⟨w.heap.size, 2, none⟩ = some (.int .i64 f.size) ∧ wx.cell? ⟨w.heap.size, 6, none⟩ = some (.int .i64 f.mo) ∧ wx.cell? ⟨w.heap.size + 1, 6, none⟩ = some (.int .i64 i.wd) ∧ wx.cell? ⟨k, 0, none⟩ = some (.int .i64 q.k) ∧ wx.cell? ⟨k, 1, none⟩ = some (.int .i64 q.o) ∧ wx.cell? ⟨k, 2, none⟩ = some (.int .i64 q.w) ∧ wx.cell? ⟨k, 3, none⟩ = some (.int .i64 q.p) ∧ wx.cell? ⟨k, 4, none⟩ = some (.int .i64 q.h) ∧ wx.cell? ⟨k, 5, none⟩ = some (.slice ca q.C.length cc) ∧ wx.cell? ⟨k, 6, none⟩ = some (.int .i64 q.R.m) ∧ wx.cell? ⟨k, 7, none⟩ = some (.int .i64 q.R.o) ∧ wx.cell? ⟨k, 8, none⟩ = some (.slice pa q.R.P.length pc) ∧ wx.cell? ⟨k, 9, none⟩ = some (.slice ea q.R.E.length ec)) := fun wx h => h.out.cells
     have HD : Hid (JX w f (some ⟨sb, sf, none⟩) sk a b c d i e s k q ca cc pa pc ea ec w2.drew) := HJ.out.next ⟨rfl, rfl, rfl, Nat.le_refl _, fun _ _ => rfl⟩
     clear HJ
     go_wp2_with fail
     go_region_held3 (fun wx => wx.cell? ⟨w.heap.size, 2, none⟩ = some (.int .i64 f.size) ∧ wx.cell? ⟨w.heap.size, 6, none⟩ = some (.int .i64 f.mo) ∧ wx.cell? ⟨w.heap.size + 1, 6, none⟩ = some (.int .i64 i.wd) ∧ wx.cell? ⟨k, 0, none⟩ = some (.int .i64 q.k) ∧ wx.cell? ⟨k, 1, none⟩ = some (.int .i64 q.o) ∧ wx.cell? ⟨k, 2, none⟩ = some (.int .i64 q.w) ∧ wx.cell? ⟨k, 3, none⟩ = some (.int .i64 q.p) ∧ wx.cell? ⟨k, 4, none⟩ = some (.int .i64 q.h) ∧ wx.cell? ⟨k, 5, none⟩ = some (.slice ca q.C.length cc) ∧ wx.cell? ⟨k, 6, none⟩ = some (.int .i64 q.R.m) ∧ wx.cell? ⟨k, 7, none⟩ = some (.int .i64 q.R.o) ∧ wx.cell? ⟨k, 8, none⟩ = some (.slice pa q.R.P.length pc) ∧ wx.cell? ⟨k, 9, none⟩ = some (.slice ea q.R.E.length ec)) (exact HC.out _ (by assumption))
      (first
       | (go_at_call 105; refine (KW.out _).mono ?_; rintro en w4 ⟨rfl, hw4⟩; subst hw4)
       | (go_at_call 66; refine (KK.out _ (by assumption)).mono ?_; rintro en w5 ⟨rfl, h5⟩))
     go_wp2_with fail
     go_ret
     exact ⟨by rw [HF.out]; rfl, h5.out.fx.below⟩
   ·have HF : Hid (bb = true) := bb_yes HBB.out (fun j hj => HOK.out j (by omega))
    clear HBB HOK
    obtain ⟨f0, f1, f2, f3, f4, f5, f6, f7, i0, i1, i2, i3, i4, i5, i6, i7, i8⟩ := HFX.out.cells
    go_wp2_with fail
    go_ret
    exact ⟨by rw [HF.out]; rfl, HFX.out.below⟩
 ·have hb0 : ((f.S.length : Int) != i.ch) = true := by rw [bne_iff_ne]; exact g0
  rw [bb_no hbb (fun h => g0 h.1)]
  clear hbb g0 HS
  have HA : Hid (FX w f so sk a b c d i e s ((w.alloc (.cells (fmC f so sk) 41)).alloc (.cells (infC a b c d i e s) 38))) := FX.new w f so sk a b c d i e s
  go_enter Tryz.func65, Tryz.ntmps65
  go_upto_region 1 with fail
  generalize hwa : World.alloc _ _ = wa at *
  clear hwa
  obtain ⟨f0, f1, f2, f3, f4, f5, f6, f7, i0, i1, i2, i3, i4, i5, i6, i7, i8⟩ := HA.out.cells
  go_wp2_with fail
  go_ret
  exact ⟨rfl, HA.out.below⟩
theorem FmAt.below {w w' : World} {f : Fm} {so : Option Addr} {sk : Nat} (h : FmAt w f so sk) (hb : Below w.heap.size w w') : FmAt w' f so sk := ⟨h.S.below hb, h.sk_, h.num, h.size, h.sc, h.rc, h.wc, h.mo⟩
theorem okC_iff (f : Fm) (i : Inf) : okC f i ↔ (mayF i ∧ (1 ≤ f.size ∧ f.size ≤ 4608) ∧ (0 ≤ f.num ∧ f.num ≤ (if f.v then 68719476735 else 2147483647)) ∧ (0 ≤ f.mo ∧ f.mo ≤ 3 ∧ (f.mo = 0 ∨ i.ch = 2))) ∧ (saysZ f ∧ saysR f i ∧ saysW f i) ∧ ((f.S.length : Int) = i.ch ∧ ∀ j, j < f.S.length → subOk (f.S.getD j Sb0) f.size (wdA i f.mo j)) :=
 ⟨fun h => ⟨⟨h.1.1, h.1.2.1, h.1.2.2.1, h.1.2.2.2.1⟩, ⟨h.1.2.2.2.2.1, h.1.2.2.2.2.2.1, h.1.2.2.2.2.2.2⟩, h.2⟩, fun h => ⟨⟨h.1.1, h.1.2.1, h.1.2.2.1, h.1.2.2.2, h.2.1.1, h.2.1.2.1, h.2.1.2.2⟩, h.2.2⟩⟩
theorem f_check (f : Fm) (so : Option Addr) (sk : Nat) (a b c d : Int) (i : Inf) (e : Int) (s : ByteArray) (hr : I64 i.rate) (r : Int) (hyes : okC f i → r = 0) (hno : ¬ okC f i → r = 60) (w : World) (hf : FmAt w f so sk) (hL : Lay w) : Calls Tryz.prog 19 #[fmV f so sk, infV a b c d i e s] w fun en w' => en = .returned (.int .i64 r) ∧ Below w.heap.size w w' := by
 by_cases g0 : ¬ (mayF i ∧ (1 ≤ f.size ∧ f.size ≤ 4608) ∧ (0 ≤ f.num ∧ f.num ≤ (if f.v then 68719476735 else 2147483647)) ∧ (0 ≤ f.mo ∧ f.mo ≤ 3 ∧ (f.mo = 0 ∨ i.ch = 2)))
 ·rw [hno (fun h => g0 ((okC_iff f i).1 h).1)]
  have K1 : Hid (∀ wx, Hid (FX w f so sk a b c d i e s wx) → Calls Tryz.prog 63 #[fmV f so sk, infV a b c d i e s] wx fun en w' => en = .returned (.bool false) ∧ Hid (FX w f so sk a b c d i e s w')) := fun wx hx => (f_fits f so sk a b c d i e s false (ff_iff (g0)) wx).mono fun en w' hh => ⟨hh.1, hx.out.next hh.2⟩
  clear hL hf
  have HA : Hid (FX w f so sk a b c d i e s ((w.alloc (.cells (fmC f so sk) 41)).alloc (.cells (infC a b c d i e s) 38))) := FX.new w f so sk a b c d i e s
  go_enter Tryz.func19, Tryz.ntmps19
  go_upto_region 1 with fail
  generalize hwa : World.alloc _ _ = wa at *
  clear hwa
  obtain ⟨f0, f1, f2, f3, f4, f5, f6, f7, i0, i1, i2, i3, i4, i5, i6, i7, i8⟩ := HA.out.cells
  go_wp2_with fail
  refine (K1.out _ HA).mono ?_
  rintro en w1 ⟨rfl, HB1⟩
  clear HA f0 f1 f2 f3 f4 f5 f6 f7 i0 i1 i2 i3 i4 i5 i6 i7 i8
  obtain ⟨f0, f1, f2, f3, f4, f5, f6, f7, i0, i1, i2, i3, i4, i5, i6, i7, i8⟩ := HB1.out.cells
  go_wp2_with fail
  go_ret
  exact ⟨rfl, HB1.out.below⟩
 ·skip
  by_cases g1 : ¬ (saysZ f ∧ saysR f i ∧ saysW f i)
  ·rw [hno (fun h => g1 ((okC_iff f i).1 h).2.1)]
   have hfit := Classical.not_not.1 g0
   have K1 : Hid (∀ wx, Hid (FX w f so sk a b c d i e s wx) → Calls Tryz.prog 63 #[fmV f so sk, infV a b c d i e s] wx fun en w' => en = .returned (.bool true) ∧ Hid (FX w f so sk a b c d i e s w')) := fun wx hx => (f_fits f so sk a b c d i e s true (tt_iff (Classical.not_not.1 g0)) wx).mono fun en w' hh => ⟨hh.1, hx.out.next hh.2⟩
   have K2 : Hid (∀ wx, Hid (FX w f so sk a b c d i e s wx) → Calls Tryz.prog 64 #[fmV f so sk, infV a b c d i e s] wx fun en w' => en = .returned (.bool false) ∧ Hid (FX w f so sk a b c d i e s w')) := fun wx hx => (f_said f so sk a b c d i e s hfit.2.1 ⟨hfit.1.2.2, hr.2⟩ hfit.1.2.1 false (ff_iff (g1)) wx (hL.below hx.out.below)).mono fun en w' hh => ⟨hh.1, hx.out.next hh.2⟩
   clear hL hf hfit
   have HA : Hid (FX w f so sk a b c d i e s ((w.alloc (.cells (fmC f so sk) 41)).alloc (.cells (infC a b c d i e s) 38))) := FX.new w f so sk a b c d i e s
   go_enter Tryz.func19, Tryz.ntmps19
   go_upto_region 1 with fail
   generalize hwa : World.alloc _ _ = wa at *
   clear hwa
   obtain ⟨f0, f1, f2, f3, f4, f5, f6, f7, i0, i1, i2, i3, i4, i5, i6, i7, i8⟩ := HA.out.cells
   go_wp2_with fail
   refine (K1.out _ HA).mono ?_
   rintro en w1 ⟨rfl, HB1⟩
   clear HA f0 f1 f2 f3 f4 f5 f6 f7 i0 i1 i2 i3 i4 i5 i6 i7 i8
   obtain ⟨f0, f1, f2, f3, f4, f5, f6, f7, i0, i1, i2, i3, i4, i5, i6, i7, i8⟩ := HB1.out.cells
   go_wp2_with fail
   refine (K2.out _ HB1).mono ?_
   rintro en w2 ⟨rfl, HB2⟩
   clear HB1 f0 f1 f2 f3 f4 f5 f6 f7 i0 i1 i2 i3 i4 i5 i6 i7 i8
   obtain ⟨f0, f1, f2, f3, f4, f5, f6, f7, i0, i1, i2, i3, i4, i5, i6, i7, i8⟩ := HB2.out.cells
   go_wp2_with fail
   go_ret
   exact ⟨rfl, HB2.out.below⟩
  ·skip
   by_cases g2 : ¬ ((f.S.length : Int) = i.ch ∧ ∀ j, j < f.S.length → subOk (f.S.getD j Sb0) f.size (wdA i f.mo j))
   ·rw [hno (fun h => g2 ((okC_iff f i).1 h).2.2)]
    have hfit := Classical.not_not.1 g0
    have K1 : Hid (∀ wx, Hid (FX w f so sk a b c d i e s wx) → Calls Tryz.prog 63 #[fmV f so sk, infV a b c d i e s] wx fun en w' => en = .returned (.bool true) ∧ Hid (FX w f so sk a b c d i e s w')) := fun wx hx => (f_fits f so sk a b c d i e s true (tt_iff (Classical.not_not.1 g0)) wx).mono fun en w' hh => ⟨hh.1, hx.out.next hh.2⟩
    have K2 : Hid (∀ wx, Hid (FX w f so sk a b c d i e s wx) → Calls Tryz.prog 64 #[fmV f so sk, infV a b c d i e s] wx fun en w' => en = .returned (.bool true) ∧ Hid (FX w f so sk a b c d i e s w')) := fun wx hx => (f_said f so sk a b c d i e s hfit.2.1 ⟨hfit.1.2.2, hr.2⟩ hfit.1.2.1 true (tt_iff (Classical.not_not.1 g1)) wx (hL.below hx.out.below)).mono fun en w' hh => ⟨hh.1, hx.out.next hh.2⟩
    have K3 : Hid (∀ wx, Hid (FX w f so sk a b c d i e s wx) → Calls Tryz.prog 65 #[fmV f so sk, infV a b c d i e s] wx fun en w' => en = .returned (.bool false) ∧ Hid (FX w f so sk a b c d i e s w')) := fun wx hx => (f_has f so sk a b c d i e s hfit.1.2.1 false (ff_iff (g2)) wx (hf.below hx.out.below)).mono fun en w' hh => ⟨hh.1, hx.out.next hh.2⟩
    clear hL hf hfit
    have HA : Hid (FX w f so sk a b c d i e s ((w.alloc (.cells (fmC f so sk) 41)).alloc (.cells (infC a b c d i e s) 38))) := FX.new w f so sk a b c d i e s
    go_enter Tryz.func19, Tryz.ntmps19
    go_upto_region 1 with fail
    generalize hwa : World.alloc _ _ = wa at *
    clear hwa
    obtain ⟨f0, f1, f2, f3, f4, f5, f6, f7, i0, i1, i2, i3, i4, i5, i6, i7, i8⟩ := HA.out.cells
    go_wp2_with fail
    refine (K1.out _ HA).mono ?_
    rintro en w1 ⟨rfl, HB1⟩
    clear HA f0 f1 f2 f3 f4 f5 f6 f7 i0 i1 i2 i3 i4 i5 i6 i7 i8
    obtain ⟨f0, f1, f2, f3, f4, f5, f6, f7, i0, i1, i2, i3, i4, i5, i6, i7, i8⟩ := HB1.out.cells
    go_wp2_with fail
    refine (K2.out _ HB1).mono ?_
    rintro en w2 ⟨rfl, HB2⟩
    clear HB1 f0 f1 f2 f3 f4 f5 f6 f7 i0 i1 i2 i3 i4 i5 i6 i7 i8
    obtain ⟨f0, f1, f2, f3, f4, f5, f6, f7, i0, i1, i2, i3, i4, i5, i6, i7, i8⟩ := HB2.out.cells
    go_wp2_with fail
    refine (K3.out _ HB2).mono ?_
    rintro en w3 ⟨rfl, HB3⟩
    clear HB2 f0 f1 f2 f3 f4 f5 f6 f7 i0 i1 i2 i3 i4 i5 i6 i7 i8
    obtain ⟨f0, f1, f2, f3, f4, f5, f6, f7, i0, i1, i2, i3, i4, i5, i6, i7, i8⟩ := HB3.out.cells
    go_wp2_with fail
    go_ret
    exact ⟨rfl, HB3.out.below⟩
   ·skip
    rw [hyes ((okC_iff f i).2 ⟨Classical.not_not.1 g0, Classical.not_not.1 g1, Classical.not_not.1 g2⟩)]
    have hfit := Classical.not_not.1 g0
    have K1 : Hid (∀ wx, Hid (FX w f so sk a b c d i e s wx) → Calls Tryz.prog 63 #[fmV f so sk, infV a b c d i e s] wx fun en w' => en = .returned (.bool true) ∧ Hid (FX w f so sk a b c d i e s w')) := fun wx hx => (f_fits f so sk a b c d i e s true (tt_iff (Classical.not_not.1 g0)) wx).mono fun en w' hh => ⟨hh.1, hx.out.next hh.2⟩
    have K2 : Hid (∀ wx, Hid (FX w f so sk a b c d i e s wx) → Calls Tryz.prog 64 #[fmV f so sk, infV a b c d i e s] wx fun en w' => en = .returned (.bool true) ∧ Hid (FX w f so sk a b c d i e s w')) := fun wx hx => (f_said f so sk a b c d i e s hfit.2.1 ⟨hfit.1.2.2, hr.2⟩ hfit.1.2.1 true (tt_iff (Classical.not_not.1 g1)) wx (hL.below hx.out.below)).mono fun en w' hh => ⟨hh.1, hx.out.next hh.2⟩
    have K3 : Hid (∀ wx, Hid (FX w f so sk a b c d i e s wx) → Calls Tryz.prog 65 #[fmV f so sk, infV a b c d i e s] wx fun en w' => en = .returned (.bool true) ∧ Hid (FX w f so sk a b c d i e s w')) := fun wx hx => (f_has f so sk a b c d i e s hfit.1.2.1 true (tt_iff (Classical.not_not.1 g2)) wx (hf.below hx.out.below)).mono fun en w' hh => ⟨hh.1, hx.out.next hh.2⟩
    clear hL hf hfit
    have HA : Hid (FX w f so sk a b c d i e s ((w.alloc (.cells (fmC f so sk) 41)).alloc (.cells (infC a b c d i e s) 38))) := FX.new w f so sk a b c d i e s
    go_enter Tryz.func19, Tryz.ntmps19
    go_upto_region 1 with fail
    generalize hwa : World.alloc _ _ = wa at *
    clear hwa
    obtain ⟨f0, f1, f2, f3, f4, f5, f6, f7, i0, i1, i2, i3, i4, i5, i6, i7, i8⟩ := HA.out.cells
    go_wp2_with fail
    refine (K1.out _ HA).mono ?_
    rintro en w1 ⟨rfl, HB1⟩
    clear HA f0 f1 f2 f3 f4 f5 f6 f7 i0 i1 i2 i3 i4 i5 i6 i7 i8
    obtain ⟨f0, f1, f2, f3, f4, f5, f6, f7, i0, i1, i2, i3, i4, i5, i6, i7, i8⟩ := HB1.out.cells
    go_wp2_with fail
    refine (K2.out _ HB1).mono ?_
    rintro en w2 ⟨rfl, HB2⟩
    clear HB1 f0 f1 f2 f3 f4 f5 f6 f7 i0 i1 i2 i3 i4 i5 i6 i7 i8
    obtain ⟨f0, f1, f2, f3, f4, f5, f6, f7, i0, i1, i2, i3, i4, i5, i6, i7, i8⟩ := HB2.out.cells
    go_wp2_with fail
    refine (K3.out _ HB2).mono ?_
    rintro en w3 ⟨rfl, HB3⟩
    clear HB2 f0 f1 f2 f3 f4 f5 f6 f7 i0 i1 i2 i3 i4 i5 i6 i7 i8
    obtain ⟨f0, f1, f2, f3, f4, f5, f6, f7, i0, i1, i2, i3, i4, i5, i6, i7, i8⟩ := HB3.out.cells
    go_wp2_with fail
    go_ret
    exact ⟨rfl, HB3.out.below⟩
def fstC (ok : Int → Bool) (x : Int) : List Int → Int
 | [] => x
 | c :: t => if ok c = true then c else fstC ok c t
theorem fstC_mem (ok : Int → Bool) (x : Int) (D : List Int) : fstC ok x D = x ∨ fstC ok x D ∈ D := by
 induction D generalizing x with
 | nil => exact Or.inl rfl
 | cons c t ih =>
  unfold fstC
  split
  ·exact Or.inr (List.mem_cons_self ..)
  ·rcases ih c with h | h
   ·rw [h]; exact Or.inr (List.mem_cons_self ..)
   ·exact Or.inr (List.mem_cons_of_mem _ h)
def fSize (f : Fm) (x : Int) : Fm := ⟨f.v, f.num, f.size, x, f.rc, f.wc, f.mo, f.S⟩
def fRate (f : Fm) (x : Int) : Fm := ⟨f.v, f.num, f.size, f.sc, x, f.wc, f.mo, f.S⟩
def fWidth (f : Fm) (x : Int) : Fm := ⟨f.v, f.num, f.size, f.sc, f.rc, x, f.mo, f.S⟩
structure WR (w : World) (f : Fm) (so : Option Addr) (sk : Nat) (a b c d : Int) (i : Inf) (e : Int) (s : ByteArray) (X : World) : Prop where
 fb : X.heap[w.heap.size]? = some (.cells (fmC f so sk) 41 (0, 0))
 ib : X.heap[w.heap.size + 1]? = some (.cells (infC a b c d i e s) 38 (0, 0))
 rb : X.heap[w.heap.size + 2]? = some (.cells #[.bool false, .int .i64 0, .int .i64 0, .int .i64 0, .int .i64 0, .int .i64 0, .int .i64 0, .slice none 0 0] 41 (0, 0))
 low : Below w.heap.size w X
section
variable {w X X' : World} {f : Fm} {so : Option Addr} {sk : Nat} {a b c d : Int} {i : Inf} {e : Int} {s : ByteArray}
theorem WR.next (h : WR w f so sk a b c d i e s X) (hb : Below X.heap.size X X') : WR w f so sk a b c d i e s X' :=
 ⟨by rw [hb.block _ (lt_of_block h.fb)]; exact h.fb, by rw [hb.block _ (lt_of_block h.ib)]; exact h.ib, by rw [hb.block _ (lt_of_block h.rb)]; exact h.rb, h.low.trans (hb.mono h.low.size)⟩
theorem WR.new (w : World) (f : Fm) (so : Option Addr) (sk : Nat) (a b c d : Int) (i : Inf) (e : Int) (s : ByteArray) : WR w f so sk a b c d i e s (((w.alloc (.cells (fmC f so sk) 41)).alloc (.cells (infC a b c d i e s) 38)).alloc (.cells #[.bool false, .int .i64 0, .int .i64 0, .int .i64 0, .int .i64 0, .int .i64 0, .int .i64 0, .slice none 0 0] 41)) := by
 refine ⟨(heap_three _ _ _ _).1, (heap_three _ _ _ _).2.1, (heap_three _ _ _ _).2.2, ((((Below.refl _ _).alloc (Nat.le_refl _) _).alloc (by simp) _).alloc (by simp; omega) _)⟩
theorem WR.putSize (h : WR w f so sk a b c d i e s X) (x : Int) : WR w (fSize f x) so sk a b c d i e s (X.setCell ⟨w.heap.size, 3, none⟩ (.int .i64 x)) := by
 refine ⟨?_, by rw [Below.heap_setCell _ _ _ _ (by show w.heap.size + 1 ≠ w.heap.size; omega)]; exact h.ib, by rw [Below.heap_setCell _ _ _ _ (by show w.heap.size + 2 ≠ w.heap.size; omega)]; exact h.rb, h.low.setCell (Nat.le_refl _) _⟩
 rw [block_setCell _ _ _ _ _ _ h.fb]
 simp only [List.setIfInBounds_toArray, List.set_cons_zero, List.set_cons_succ]
 rfl
theorem WR.putRate (h : WR w f so sk a b c d i e s X) (x : Int) : WR w (fRate f x) so sk a b c d i e s (X.setCell ⟨w.heap.size, 4, none⟩ (.int .i64 x)) := by
 refine ⟨?_, by rw [Below.heap_setCell _ _ _ _ (by show w.heap.size + 1 ≠ w.heap.size; omega)]; exact h.ib, by rw [Below.heap_setCell _ _ _ _ (by show w.heap.size + 2 ≠ w.heap.size; omega)]; exact h.rb, h.low.setCell (Nat.le_refl _) _⟩
 rw [block_setCell _ _ _ _ _ _ h.fb]
 simp only [List.setIfInBounds_toArray, List.set_cons_zero, List.set_cons_succ]
 rfl
theorem WR.putWidth (h : WR w f so sk a b c d i e s X) (x : Int) : WR w (fWidth f x) so sk a b c d i e s (X.setCell ⟨w.heap.size, 5, none⟩ (.int .i64 x)) := by
 refine ⟨?_, by rw [Below.heap_setCell _ _ _ _ (by show w.heap.size + 1 ≠ w.heap.size; omega)]; exact h.ib, by rw [Below.heap_setCell _ _ _ _ (by show w.heap.size + 2 ≠ w.heap.size; omega)]; exact h.rb, h.low.setCell (Nat.le_refl _) _⟩
 rw [block_setCell _ _ _ _ _ _ h.fb]
 simp only [List.setIfInBounds_toArray, List.set_cons_zero, List.set_cons_succ]
 rfl
end
theorem z_putSize (f : Fm) (so : Option Addr) (sk : Nat) (x : Int) (g : Nat) (w : World) (h : w.heap[g]? = some (.cells (fmC f so sk) 41 (0, 0))) : Calls Tryz.prog 90 #[.pointer (some ⟨g, 0, none⟩), .int .i64 x] w fun en w' => en = .returned (.tuple #[]) ∧ w' = w.setCell ⟨g, 3, none⟩ (.int .i64 x) := by
 obtain ⟨z0, z1, z2, z3, z4, z5, z6, z7⟩ := fm_cells h
 have fz := row_frozen h 3
 go_enter Tryz.func90, Tryz.ntmps90
 go_wp2_with fail
 go_end0
 exact ⟨rfl, rfl⟩
theorem z_putRate (f : Fm) (so : Option Addr) (sk : Nat) (x : Int) (g : Nat) (w : World) (h : w.heap[g]? = some (.cells (fmC f so sk) 41 (0, 0))) : Calls Tryz.prog 91 #[.pointer (some ⟨g, 0, none⟩), .int .i64 x] w fun en w' => en = .returned (.tuple #[]) ∧ w' = w.setCell ⟨g, 4, none⟩ (.int .i64 x) := by
 obtain ⟨z0, z1, z2, z3, z4, z5, z6, z7⟩ := fm_cells h
 have fz := row_frozen h 4
 go_enter Tryz.func91, Tryz.ntmps91
 go_wp2_with fail
 go_end0
 exact ⟨rfl, rfl⟩
theorem z_putWidth (f : Fm) (so : Option Addr) (sk : Nat) (x : Int) (g : Nat) (w : World) (h : w.heap[g]? = some (.cells (fmC f so sk) 41 (0, 0))) : Calls Tryz.prog 92 #[.pointer (some ⟨g, 0, none⟩), .int .i64 x] w fun en w' => en = .returned (.tuple #[]) ∧ w' = w.setCell ⟨g, 5, none⟩ (.int .i64 x) := by
 obtain ⟨z0, z1, z2, z3, z4, z5, z6, z7⟩ := fm_cells h
 have fz := row_frozen h 5
 go_enter Tryz.func92, Tryz.ntmps92
 go_wp2_with fail
 go_end0
 exact ⟨rfl, rfl⟩
theorem set8f_a {wx : World} (n : Nat) (v0 v1 v2 v3 v4 v5 v6 v7 : Value) {a0 a1 a2 a3 a4 a5 a6 a7 : Value} {t : TypeId} (h : wx.heap[n]? = some (.cells #[a0, a1, a2, a3, a4, a5, a6, a7] t (0, 0))) : ((((((((wx.setCell ⟨n, 0, none⟩ v0).setCell ⟨n, 1, none⟩ v1).setCell ⟨n, 2, none⟩ v2).setCell ⟨n, 3, none⟩ v3).setCell ⟨n, 4, none⟩ v4).setCell ⟨n, 5, none⟩ v5).setCell ⟨n, 6, none⟩ v6).setCell ⟨n, 7, none⟩ v7).heap[n]? = some (.cells #[v0, v1, v2, v3, v4, v5, v6, v7] t (0, 0)) := by
 rw [block_setCell _ _ _ _ _ _ (block_setCell _ _ _ _ _ _ (block_setCell _ _ _ _ _ _ (block_setCell _ _ _ _ _ _ (block_setCell _ _ _ _ _ _ (block_setCell _ _ _ _ _ _ (block_setCell _ _ _ _ _ _ (block_setCell _ _ _ _ _ _ h)))))))]
 simp only [List.setIfInBounds_toArray, List.set_cons_zero, List.set_cons_succ]
theorem set8f_b {wx : World} (n : Nat) (v0 v1 v2 v3 v4 v5 v6 v7 : Value) (w : World) (hn : w.heap.size ≤ n) (h : Below w.heap.size w wx) : Below w.heap.size w ((((((((wx.setCell ⟨n, 0, none⟩ v0).setCell ⟨n, 1, none⟩ v1).setCell ⟨n, 2, none⟩ v2).setCell ⟨n, 3, none⟩ v3).setCell ⟨n, 4, none⟩ v4).setCell ⟨n, 5, none⟩ v5).setCell ⟨n, 6, none⟩ v6).setCell ⟨n, 7, none⟩ v7) := (((((((h.setCell hn _).setCell hn _).setCell hn _).setCell hn _).setCell hn _).setCell hn _).setCell hn _).setCell hn _
theorem set8f_d {wx : World} (n : Nat) (v0 v1 v2 v3 v4 v5 v6 v7 : Value) (j : Nat) (h0 : j ≠ n) : ((((((((wx.setCell ⟨n, 0, none⟩ v0).setCell ⟨n, 1, none⟩ v1).setCell ⟨n, 2, none⟩ v2).setCell ⟨n, 3, none⟩ v3).setCell ⟨n, 4, none⟩ v4).setCell ⟨n, 5, none⟩ v5).setCell ⟨n, 6, none⟩ v6).setCell ⟨n, 7, none⟩ v7).heap[j]? = wx.heap[j]? := by
 rw [Below.heap_setCell _ _ _ j h0, Below.heap_setCell _ _ _ j h0, Below.heap_setCell _ _ _ j h0, Below.heap_setCell _ _ _ j h0, Below.heap_setCell _ _ _ j h0, Below.heap_setCell _ _ _ j h0, Below.heap_setCell _ _ _ j h0, Below.heap_setCell _ _ _ j h0]
theorem info_Frame12 : (Tryz.prog.info? 41).map (·.size) = some 8 := by kernel_rfl
theorem zf_cells {w : World} {g : Nat} {a0 a1 a2 a3 a4 a5 a6 a7 : Value} (h : w.heap[g]? = some (.cells #[a0, a1, a2, a3, a4, a5, a6, a7] 41 (0, 0))) : w.cell? ⟨g, 0, none⟩ = some a0 ∧ w.cell? ⟨g, 1, none⟩ = some a1 ∧ w.cell? ⟨g, 2, none⟩ = some a2 ∧ w.cell? ⟨g, 3, none⟩ = some a3 ∧ w.cell? ⟨g, 4, none⟩ = some a4 ∧ w.cell? ⟨g, 5, none⟩ = some a5 ∧ w.cell? ⟨g, 6, none⟩ = some a6 ∧ w.cell? ⟨g, 7, none⟩ = some a7 := by
 refine ⟨?_, ?_, ?_, ?_, ?_, ?_, ?_, ?_⟩ <;> (rw [cell_of_row _ _ _ _ _ _ h]; rfl)
theorem z_rightSize (f : Fm) (so : Option Addr) (sk : Nat) (a b c d : Int) (i : Inf) (e : Int) (s : ByteArray) (hr : I64 i.rate) (D : List Int) (hD : D.length ≤ 100) (ok : Int → Bool) (hok : ∀ x, ok x = true ↔ okC (fSize f x) i) (da : Option Addr) (dc : Nat) (w : World) (hL : Lay w) (hf : FmAt w f so sk) (hDa : IntsAt w da D) : Calls Tryz.prog 89 #[fmV f so sk, infV a b c d i e s, .func (.func 90) #[] #[], .slice da D.length dc] w fun en w' => en = .returned (fmV (fSize f (fstC ok f.sc D)) so sk) ∧ Below w.heap.size w w' := by
 have hDa0 := hDa
 have KCk : Hid (∀ x wx, I64 x → Below w.heap.size w wx → Calls Tryz.prog 19 #[fmV (fSize f x) so sk, infV a b c d i e s] wx fun en w' => en = .returned (.int .i64 (if ok x = true then 0 else 60)) ∧ Below wx.heap.size wx w') := fun x wx hx hb => f_check (fSize f x) so sk a b c d i e s hr _ (fun h => if_pos ((hok x).2 h)) (fun h => if_neg (fun h2 => h ((hok x).1 h2))) wx ⟨hf.S.below hb, hf.sk_, hf.num, hf.size, hx, hf.rc, hf.wc, hf.mo⟩ (hL.below hb)
 have HDA : Hid (IntsAt w da D) := hDa
 have HA : Hid (WR w (fSize f f.sc) so sk a b c d i e s (((w.alloc (.cells (fmC f so sk) 41)).alloc (.cells (infC a b c d i e s) 38)).alloc (.cells #[.bool false, .int .i64 0, .int .i64 0, .int .i64 0, .int .i64 0, .int .i64 0, .int .i64 0, .slice none 0 0] 41))) := WR.new w f so sk a b c d i e s
 clear hL hf hDa hDa0 hr hok
 go_enter Tryz.func89, Tryz.ntmps89
 go_wp2_with fail
 generalize hwa : World.alloc _ _ = wa at *
 clear hwa
 go_loopw [10, 13] (fun s10 s13 wr => ∃ (j : Nat) (x : Int), j ≤ D.length ∧ s13 = .int .i64 (j : Int) ∧ fstC ok f.sc D = fstC ok x (D.drop j) ∧ WR w (fSize f x) so sk a b c d i e s wr) (fun _ s13 _ => D.length - (intOf s13).toNat)
 case atStart => exact ⟨0, f.sc, Nat.zero_le _, rfl, rfl, HA.out⟩
 case round =>
  clear HA
  obtain ⟨j, x, hj, rfl, hfs, hwr⟩ := hrel
  have HFS : Hid (fstC ok f.sc D = fstC ok x (D.drop j)) := hfs
  have HW : Hid (WR w (fSize f x) so sk a b c d i e s wr) := hwr
  clear hfs hwr
  by_cases hlt : j < D.length
  ·obtain ⟨b1, o1, hda, q1⟩ := HDA.out.at j hlt
   subst hda
   have r1 := q1 wr HW.out.low
   have HX : Hid (I64 (D.getD j 0)) := HDA.out.rng j
   have HF2 : Hid (fstC ok f.sc D = if ok (D.getD j 0) = true then D.getD j 0 else fstC ok (D.getD j 0) (D.drop (j + 1))) := by
    show _ = _
    rw [HFS.out, List.drop_eq_getElem_cons hlt]
    have e : D[j] = D.getD j 0 := by rw [List.getD_eq_getElem?_getD, List.getElem?_eq_getElem hlt]; rfl
    rw [e]; rfl
   clear q1 HFS
   generalize D.getD j 0 = y at *
   have KP := z_putSize (fSize f x) so sk y w.heap.size wr HW.out.fb
   have HW2 : Hid (WR w (fSize f y) so sk a b c d i e s (wr.setCell ⟨w.heap.size, 3, none⟩ (.int .i64 y))) := HW.out.putSize y
   clear HW
   go_wp2_with fail
   refine KP.mono ?_
   rintro en w2 ⟨rfl, hw2⟩
   rw [← hw2] at HW2
   clear KP hw2 r1
   obtain ⟨z0, z1, z2, z3, z4, z5, z6, z7⟩ := fm_cells HW2.out.fb
   obtain ⟨i0, i1, i2, i3, i4, i5, i6, i7, i8⟩ := inf_cells HW2.out.ib
   have KK := KCk.out y w2 HX.out HW2.out.low
   by_cases ho : ok y = true
   ·rw [if_pos ho] at HF2 KK
    clear ho
    go_wp2_with fail
    refine KK.mono ?_
    rintro en w3 ⟨rfl, hb3⟩
    have HW3 : Hid (WR w (fSize f y) so sk a b c d i e s w3) := HW2.out.next hb3
    clear hb3 HW2 KK z0 z1 z2 z3 z4 z5 z6 z7 i0 i1 i2 i3 i4 i5 i6 i7 i8
    obtain ⟨z0, z1, z2, z3, z4, z5, z6, z7⟩ := fm_cells HW3.out.fb
    obtain ⟨u0, u1, u2, u3, u4, u5, u6, u7⟩ := zf_cells HW3.out.rb
    have fz0 := row_frozen HW3.out.rb 0
    have fz1 := row_frozen HW3.out.rb 1
    have fz2 := row_frozen HW3.out.rb 2
    have fz3 := row_frozen HW3.out.rb 3
    have fz4 := row_frozen HW3.out.rb 4
    have fz5 := row_frozen HW3.out.rb 5
    have fz6 := row_frozen HW3.out.rb 6
    have fz7 := row_frozen HW3.out.rb 7
    go_wp2_with fail
    generalize hwf : World.setCell _ _ _ = wf
    have hrow : wf.heap[w.heap.size + 2]? = some (.cells (fmC (fSize f y) so sk) 41 (0, 0)) := by rw [← hwf]; exact set8f_a _ _ _ _ _ _ _ _ _ HW3.out.rb
    have hbel : Below w.heap.size w wf := by rw [← hwf]; exact set8f_b _ _ _ _ _ _ _ _ _ w (by omega) HW3.out.low
    refine bodyPost_ret (v := .agg (fmC (fSize f y) so sk)) ?_ rfl ⟨by rw [HF2.out], hbel⟩
    rw [results_one rfl]
    have hld := run_loadVar_row (P := Tryz.prog) (wf) (w.heap.size + 2) 41 41 (fmC (fSize f y) so sk) (0, 0) _ hrow Tryz.underlying41 rfl info_Frame12
    simp [asAddr, Result.andThen, hld]
   ·rw [if_neg ho] at HF2 KK
    clear ho
    go_wp2_with fail
    refine KK.mono ?_
    rintro en w3 ⟨rfl, hb3⟩
    have HW3 : Hid (WR w (fSize f y) so sk a b c d i e s w3) := HW2.out.next hb3
    clear hb3 HW2 KK z0 z1 z2 z3 z4 z5 z6 z7 i0 i1 i2 i3 i4 i5 i6 i7 i8
    go_wp2_with fail
    go_roundw
    case rel => exact ⟨j + 1, y, by omega, by go_num, HF2.out, HW3.out⟩
    case measure => simp [intOf]; omega
  ·have hjl : D.drop j = [] := List.drop_eq_nil_of_le (by omega)
   rw [hjl] at HFS
   have HF3 : Hid (fstC ok f.sc D = x) := HFS.out
   clear HFS hjl
   obtain ⟨z0, z1, z2, z3, z4, z5, z6, z7⟩ := fm_cells HW.out.fb
   obtain ⟨u0, u1, u2, u3, u4, u5, u6, u7⟩ := zf_cells HW.out.rb
   have fz0 := row_frozen HW.out.rb 0
   have fz1 := row_frozen HW.out.rb 1
   have fz2 := row_frozen HW.out.rb 2
   have fz3 := row_frozen HW.out.rb 3
   have fz4 := row_frozen HW.out.rb 4
   have fz5 := row_frozen HW.out.rb 5
   have fz6 := row_frozen HW.out.rb 6
   have fz7 := row_frozen HW.out.rb 7
   go_wp2_with fail
   generalize hwf : World.setCell _ _ _ = wf
   have hrow : wf.heap[w.heap.size + 2]? = some (.cells (fmC (fSize f x) so sk) 41 (0, 0)) := by rw [← hwf]; exact set8f_a _ _ _ _ _ _ _ _ _ HW.out.rb
   have hbel : Below w.heap.size w wf := by rw [← hwf]; exact set8f_b _ _ _ _ _ _ _ _ _ w (by omega) HW.out.low
   refine bodyPost_ret (v := .agg (fmC (fSize f x) so sk)) ?_ rfl ⟨by rw [HF3.out], hbel⟩
   rw [results_one rfl]
   have hld := run_loadVar_row (P := Tryz.prog) (wf) (w.heap.size + 2) 41 41 (fmC (fSize f x) so sk) (0, 0) _ hrow Tryz.underlying41 rfl info_Frame12
   simp [asAddr, Result.andThen, hld]
theorem z_rightRate (f : Fm) (so : Option Addr) (sk : Nat) (a b c d : Int) (i : Inf) (e : Int) (s : ByteArray) (hr : I64 i.rate) (D : List Int) (hD : D.length ≤ 100) (ok : Int → Bool) (hok : ∀ x, ok x = true ↔ okC (fRate f x) i) (da : Option Addr) (dc : Nat) (w : World) (hL : Lay w) (hf : FmAt w f so sk) (hDa : IntsAt w da D) : Calls Tryz.prog 89 #[fmV f so sk, infV a b c d i e s, .func (.func 91) #[] #[], .slice da D.length dc] w fun en w' => en = .returned (fmV (fRate f (fstC ok f.rc D)) so sk) ∧ Below w.heap.size w w' := by
 have hDa0 := hDa
 have KCk : Hid (∀ x wx, I64 x → Below w.heap.size w wx → Calls Tryz.prog 19 #[fmV (fRate f x) so sk, infV a b c d i e s] wx fun en w' => en = .returned (.int .i64 (if ok x = true then 0 else 60)) ∧ Below wx.heap.size wx w') := fun x wx hx hb => f_check (fRate f x) so sk a b c d i e s hr _ (fun h => if_pos ((hok x).2 h)) (fun h => if_neg (fun h2 => h ((hok x).1 h2))) wx ⟨hf.S.below hb, hf.sk_, hf.num, hf.size, hf.sc, hx, hf.wc, hf.mo⟩ (hL.below hb)
 have HDA : Hid (IntsAt w da D) := hDa
 have HA : Hid (WR w (fRate f f.rc) so sk a b c d i e s (((w.alloc (.cells (fmC f so sk) 41)).alloc (.cells (infC a b c d i e s) 38)).alloc (.cells #[.bool false, .int .i64 0, .int .i64 0, .int .i64 0, .int .i64 0, .int .i64 0, .int .i64 0, .slice none 0 0] 41))) := WR.new w f so sk a b c d i e s
 clear hL hf hDa hDa0 hr hok
 go_enter Tryz.func89, Tryz.ntmps89
 go_wp2_with fail
 generalize hwa : World.alloc _ _ = wa at *
 clear hwa
 go_loopw [10, 13] (fun s10 s13 wr => ∃ (j : Nat) (x : Int), j ≤ D.length ∧ s13 = .int .i64 (j : Int) ∧ fstC ok f.rc D = fstC ok x (D.drop j) ∧ WR w (fRate f x) so sk a b c d i e s wr) (fun _ s13 _ => D.length - (intOf s13).toNat)
 case atStart => exact ⟨0, f.rc, Nat.zero_le _, rfl, rfl, HA.out⟩
 case round =>
  clear HA
  obtain ⟨j, x, hj, rfl, hfs, hwr⟩ := hrel
  have HFS : Hid (fstC ok f.rc D = fstC ok x (D.drop j)) := hfs
  have HW : Hid (WR w (fRate f x) so sk a b c d i e s wr) := hwr
  clear hfs hwr
  by_cases hlt : j < D.length
  ·obtain ⟨b1, o1, hda, q1⟩ := HDA.out.at j hlt
   subst hda
   have r1 := q1 wr HW.out.low
   have HX : Hid (I64 (D.getD j 0)) := HDA.out.rng j
   have HF2 : Hid (fstC ok f.rc D = if ok (D.getD j 0) = true then D.getD j 0 else fstC ok (D.getD j 0) (D.drop (j + 1))) := by
    show _ = _
    rw [HFS.out, List.drop_eq_getElem_cons hlt]
    have e : D[j] = D.getD j 0 := by rw [List.getD_eq_getElem?_getD, List.getElem?_eq_getElem hlt]; rfl
    rw [e]; rfl
   clear q1 HFS
   generalize D.getD j 0 = y at *
   have KP := z_putRate (fRate f x) so sk y w.heap.size wr HW.out.fb
   have HW2 : Hid (WR w (fRate f y) so sk a b c d i e s (wr.setCell ⟨w.heap.size, 4, none⟩ (.int .i64 y))) := HW.out.putRate y
   clear HW
   go_wp2_with fail
   refine KP.mono ?_
   rintro en w2 ⟨rfl, hw2⟩
   rw [← hw2] at HW2
   clear KP hw2 r1
   obtain ⟨z0, z1, z2, z3, z4, z5, z6, z7⟩ := fm_cells HW2.out.fb
   obtain ⟨i0, i1, i2, i3, i4, i5, i6, i7, i8⟩ := inf_cells HW2.out.ib
   have KK := KCk.out y w2 HX.out HW2.out.low
   by_cases ho : ok y = true
   ·rw [if_pos ho] at HF2 KK
    clear ho
    go_wp2_with fail
    refine KK.mono ?_
    rintro en w3 ⟨rfl, hb3⟩
    have HW3 : Hid (WR w (fRate f y) so sk a b c d i e s w3) := HW2.out.next hb3
    clear hb3 HW2 KK z0 z1 z2 z3 z4 z5 z6 z7 i0 i1 i2 i3 i4 i5 i6 i7 i8
    obtain ⟨z0, z1, z2, z3, z4, z5, z6, z7⟩ := fm_cells HW3.out.fb
    obtain ⟨u0, u1, u2, u3, u4, u5, u6, u7⟩ := zf_cells HW3.out.rb
    have fz0 := row_frozen HW3.out.rb 0
    have fz1 := row_frozen HW3.out.rb 1
    have fz2 := row_frozen HW3.out.rb 2
    have fz3 := row_frozen HW3.out.rb 3
    have fz4 := row_frozen HW3.out.rb 4
    have fz5 := row_frozen HW3.out.rb 5
    have fz6 := row_frozen HW3.out.rb 6
    have fz7 := row_frozen HW3.out.rb 7
    go_wp2_with fail
    generalize hwf : World.setCell _ _ _ = wf
    have hrow : wf.heap[w.heap.size + 2]? = some (.cells (fmC (fRate f y) so sk) 41 (0, 0)) := by rw [← hwf]; exact set8f_a _ _ _ _ _ _ _ _ _ HW3.out.rb
    have hbel : Below w.heap.size w wf := by rw [← hwf]; exact set8f_b _ _ _ _ _ _ _ _ _ w (by omega) HW3.out.low
    refine bodyPost_ret (v := .agg (fmC (fRate f y) so sk)) ?_ rfl ⟨by rw [HF2.out], hbel⟩
    rw [results_one rfl]
    have hld := run_loadVar_row (P := Tryz.prog) (wf) (w.heap.size + 2) 41 41 (fmC (fRate f y) so sk) (0, 0) _ hrow Tryz.underlying41 rfl info_Frame12
    simp [asAddr, Result.andThen, hld]
   ·rw [if_neg ho] at HF2 KK
    clear ho
    go_wp2_with fail
    refine KK.mono ?_
    rintro en w3 ⟨rfl, hb3⟩
    have HW3 : Hid (WR w (fRate f y) so sk a b c d i e s w3) := HW2.out.next hb3
    clear hb3 HW2 KK z0 z1 z2 z3 z4 z5 z6 z7 i0 i1 i2 i3 i4 i5 i6 i7 i8
    go_wp2_with fail
    go_roundw
    case rel => exact ⟨j + 1, y, by omega, by go_num, HF2.out, HW3.out⟩
    case measure => simp [intOf]; omega
  ·have hjl : D.drop j = [] := List.drop_eq_nil_of_le (by omega)
   rw [hjl] at HFS
   have HF3 : Hid (fstC ok f.rc D = x) := HFS.out
   clear HFS hjl
   obtain ⟨z0, z1, z2, z3, z4, z5, z6, z7⟩ := fm_cells HW.out.fb
   obtain ⟨u0, u1, u2, u3, u4, u5, u6, u7⟩ := zf_cells HW.out.rb
   have fz0 := row_frozen HW.out.rb 0
   have fz1 := row_frozen HW.out.rb 1
   have fz2 := row_frozen HW.out.rb 2
   have fz3 := row_frozen HW.out.rb 3
   have fz4 := row_frozen HW.out.rb 4
   have fz5 := row_frozen HW.out.rb 5
   have fz6 := row_frozen HW.out.rb 6
   have fz7 := row_frozen HW.out.rb 7
   go_wp2_with fail
   generalize hwf : World.setCell _ _ _ = wf
   have hrow : wf.heap[w.heap.size + 2]? = some (.cells (fmC (fRate f x) so sk) 41 (0, 0)) := by rw [← hwf]; exact set8f_a _ _ _ _ _ _ _ _ _ HW.out.rb
   have hbel : Below w.heap.size w wf := by rw [← hwf]; exact set8f_b _ _ _ _ _ _ _ _ _ w (by omega) HW.out.low
   refine bodyPost_ret (v := .agg (fmC (fRate f x) so sk)) ?_ rfl ⟨by rw [HF3.out], hbel⟩
   rw [results_one rfl]
   have hld := run_loadVar_row (P := Tryz.prog) (wf) (w.heap.size + 2) 41 41 (fmC (fRate f x) so sk) (0, 0) _ hrow Tryz.underlying41 rfl info_Frame12
   simp [asAddr, Result.andThen, hld]
theorem z_rightWidth (f : Fm) (so : Option Addr) (sk : Nat) (a b c d : Int) (i : Inf) (e : Int) (s : ByteArray) (hr : I64 i.rate) (D : List Int) (hD : D.length ≤ 100) (ok : Int → Bool) (hok : ∀ x, ok x = true ↔ okC (fWidth f x) i) (da : Option Addr) (dc : Nat) (w : World) (hL : Lay w) (hf : FmAt w f so sk) (hDa : IntsAt w da D) : Calls Tryz.prog 89 #[fmV f so sk, infV a b c d i e s, .func (.func 92) #[] #[], .slice da D.length dc] w fun en w' => en = .returned (fmV (fWidth f (fstC ok f.wc D)) so sk) ∧ Below w.heap.size w w' := by
 have hDa0 := hDa
 have KCk : Hid (∀ x wx, I64 x → Below w.heap.size w wx → Calls Tryz.prog 19 #[fmV (fWidth f x) so sk, infV a b c d i e s] wx fun en w' => en = .returned (.int .i64 (if ok x = true then 0 else 60)) ∧ Below wx.heap.size wx w') := fun x wx hx hb => f_check (fWidth f x) so sk a b c d i e s hr _ (fun h => if_pos ((hok x).2 h)) (fun h => if_neg (fun h2 => h ((hok x).1 h2))) wx ⟨hf.S.below hb, hf.sk_, hf.num, hf.size, hf.sc, hf.rc, hx, hf.mo⟩ (hL.below hb)
 have HDA : Hid (IntsAt w da D) := hDa
 have HA : Hid (WR w (fWidth f f.wc) so sk a b c d i e s (((w.alloc (.cells (fmC f so sk) 41)).alloc (.cells (infC a b c d i e s) 38)).alloc (.cells #[.bool false, .int .i64 0, .int .i64 0, .int .i64 0, .int .i64 0, .int .i64 0, .int .i64 0, .slice none 0 0] 41))) := WR.new w f so sk a b c d i e s
 clear hL hf hDa hDa0 hr hok
 go_enter Tryz.func89, Tryz.ntmps89
 go_wp2_with fail
 generalize hwa : World.alloc _ _ = wa at *
 clear hwa
 go_loopw [10, 13] (fun s10 s13 wr => ∃ (j : Nat) (x : Int), j ≤ D.length ∧ s13 = .int .i64 (j : Int) ∧ fstC ok f.wc D = fstC ok x (D.drop j) ∧ WR w (fWidth f x) so sk a b c d i e s wr) (fun _ s13 _ => D.length - (intOf s13).toNat)
 case atStart => exact ⟨0, f.wc, Nat.zero_le _, rfl, rfl, HA.out⟩
 case round =>
  clear HA
  obtain ⟨j, x, hj, rfl, hfs, hwr⟩ := hrel
  have HFS : Hid (fstC ok f.wc D = fstC ok x (D.drop j)) := hfs
  have HW : Hid (WR w (fWidth f x) so sk a b c d i e s wr) := hwr
  clear hfs hwr
  by_cases hlt : j < D.length
  ·obtain ⟨b1, o1, hda, q1⟩ := HDA.out.at j hlt
   subst hda
   have r1 := q1 wr HW.out.low
   have HX : Hid (I64 (D.getD j 0)) := HDA.out.rng j
   have HF2 : Hid (fstC ok f.wc D = if ok (D.getD j 0) = true then D.getD j 0 else fstC ok (D.getD j 0) (D.drop (j + 1))) := by
    show _ = _
    rw [HFS.out, List.drop_eq_getElem_cons hlt]
    have e : D[j] = D.getD j 0 := by rw [List.getD_eq_getElem?_getD, List.getElem?_eq_getElem hlt]; rfl
    rw [e]; rfl
   clear q1 HFS
   generalize D.getD j 0 = y at *
   have KP := z_putWidth (fWidth f x) so sk y w.heap.size wr HW.out.fb
   have HW2 : Hid (WR w (fWidth f y) so sk a b c d i e s (wr.setCell ⟨w.heap.size, 5, none⟩ (.int .i64 y))) := HW.out.putWidth y
   clear HW
   go_wp2_with fail
   refine KP.mono ?_
   rintro en w2 ⟨rfl, hw2⟩
   rw [← hw2] at HW2
   clear KP hw2 r1
   obtain ⟨z0, z1, z2, z3, z4, z5, z6, z7⟩ := fm_cells HW2.out.fb
   obtain ⟨i0, i1, i2, i3, i4, i5, i6, i7, i8⟩ := inf_cells HW2.out.ib
   have KK := KCk.out y w2 HX.out HW2.out.low
   by_cases ho : ok y = true
   ·rw [if_pos ho] at HF2 KK
    clear ho
    go_wp2_with fail
    refine KK.mono ?_
    rintro en w3 ⟨rfl, hb3⟩
    have HW3 : Hid (WR w (fWidth f y) so sk a b c d i e s w3) := HW2.out.next hb3
    clear hb3 HW2 KK z0 z1 z2 z3 z4 z5 z6 z7 i0 i1 i2 i3 i4 i5 i6 i7 i8
    obtain ⟨z0, z1, z2, z3, z4, z5, z6, z7⟩ := fm_cells HW3.out.fb
    obtain ⟨u0, u1, u2, u3, u4, u5, u6, u7⟩ := zf_cells HW3.out.rb
    have fz0 := row_frozen HW3.out.rb 0
    have fz1 := row_frozen HW3.out.rb 1
    have fz2 := row_frozen HW3.out.rb 2
    have fz3 := row_frozen HW3.out.rb 3
    have fz4 := row_frozen HW3.out.rb 4
    have fz5 := row_frozen HW3.out.rb 5
    have fz6 := row_frozen HW3.out.rb 6
    have fz7 := row_frozen HW3.out.rb 7
    go_wp2_with fail
    generalize hwf : World.setCell _ _ _ = wf
    have hrow : wf.heap[w.heap.size + 2]? = some (.cells (fmC (fWidth f y) so sk) 41 (0, 0)) := by rw [← hwf]; exact set8f_a _ _ _ _ _ _ _ _ _ HW3.out.rb
    have hbel : Below w.heap.size w wf := by rw [← hwf]; exact set8f_b _ _ _ _ _ _ _ _ _ w (by omega) HW3.out.low
    refine bodyPost_ret (v := .agg (fmC (fWidth f y) so sk)) ?_ rfl ⟨by rw [HF2.out], hbel⟩
    rw [results_one rfl]
    have hld := run_loadVar_row (P := Tryz.prog) (wf) (w.heap.size + 2) 41 41 (fmC (fWidth f y) so sk) (0, 0) _ hrow Tryz.underlying41 rfl info_Frame12
    simp [asAddr, Result.andThen, hld]
   ·rw [if_neg ho] at HF2 KK
    clear ho
    go_wp2_with fail
    refine KK.mono ?_
    rintro en w3 ⟨rfl, hb3⟩
    have HW3 : Hid (WR w (fWidth f y) so sk a b c d i e s w3) := HW2.out.next hb3
    clear hb3 HW2 KK z0 z1 z2 z3 z4 z5 z6 z7 i0 i1 i2 i3 i4 i5 i6 i7 i8
    go_wp2_with fail
    go_roundw
    case rel => exact ⟨j + 1, y, by omega, by go_num, HF2.out, HW3.out⟩
    case measure => simp [intOf]; omega
  ·have hjl : D.drop j = [] := List.drop_eq_nil_of_le (by omega)
   rw [hjl] at HFS
   have HF3 : Hid (fstC ok f.wc D = x) := HFS.out
   clear HFS hjl
   obtain ⟨z0, z1, z2, z3, z4, z5, z6, z7⟩ := fm_cells HW.out.fb
   obtain ⟨u0, u1, u2, u3, u4, u5, u6, u7⟩ := zf_cells HW.out.rb
   have fz0 := row_frozen HW.out.rb 0
   have fz1 := row_frozen HW.out.rb 1
   have fz2 := row_frozen HW.out.rb 2
   have fz3 := row_frozen HW.out.rb 3
   have fz4 := row_frozen HW.out.rb 4
   have fz5 := row_frozen HW.out.rb 5
   have fz6 := row_frozen HW.out.rb 6
   have fz7 := row_frozen HW.out.rb 7
   go_wp2_with fail
   generalize hwf : World.setCell _ _ _ = wf
   have hrow : wf.heap[w.heap.size + 2]? = some (.cells (fmC (fWidth f x) so sk) 41 (0, 0)) := by rw [← hwf]; exact set8f_a _ _ _ _ _ _ _ _ _ HW.out.rb
   have hbel : Below w.heap.size w wf := by rw [← hwf]; exact set8f_b _ _ _ _ _ _ _ _ _ w (by omega) HW.out.low
   refine bodyPost_ret (v := .agg (fmC (fWidth f x) so sk)) ?_ rfl ⟨by rw [HF3.out], hbel⟩
   rw [results_one rfl]
   have hld := run_loadVar_row (P := Tryz.prog) (wf) (w.heap.size + 2) 41 41 (fmC (fWidth f x) so sk) (0, 0) _ hrow Tryz.underlying41 rfl info_Frame12
   simp [asAddr, Result.andThen, hld]
end Go.Proofs.YthgpleelpeacjaaGreatDoor
