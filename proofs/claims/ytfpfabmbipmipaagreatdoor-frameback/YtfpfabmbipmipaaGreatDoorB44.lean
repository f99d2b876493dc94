/- Own text. -/
import Derived.Test.YtfpfabmbipmipaaGreatDoorB43
set_option linter.unusedSimpArgs false
set_option linter.unusedVariables false
set_option maxRecDepth 20000
set_option maxHeartbeats 12800000
namespace Go.Proofs.YtfpfabmbipmipaaGreatDoor
open Go.RowKit
structure BX (w : World) (f : Fm) (so : OA) (sk : Nat) (a b c d : Int) (i : Inf) (e : Int) (s : ByteArray) (p : Nat) (ao : OA) (B : List Nat) (wx : World) : Prop where
 fb : wx.heap[w.heap.size]? = some (.cells (fmC f so sk) 24 (0, 0))
 ib : wx.heap[w.heap.size + 1]? = some (.cells (infC a b c d i e s) 26 (0, 0))
 below : Lo w wx
 wr : WrB wx p ao B
 hp : w.heap.size + 2 <= p
 hao : ∀ k, blockOf ao = some k -> w.heap.size + 2 <= k
section
variable {w wx w' : World} {f : Fm} {so : OA} {sk : Nat} {a b c d : Int} {i : Inf} {e : Int} {s : ByteArray} {p : Nat} {ao ao' : OA} {B B' : List Nat}
theorem BX.foot (h : BX w f so sk a b c d i e s p ao B wx) : ∀ k, foot p ao k -> w.heap.size + 2 <= k := fun k hk => by
 rcases hk with hk | hk
 ·rw [hk]; exact h.hp
 ·exact h.hao k hk
theorem BX.lt (h : BX w f so sk a b c d i e s p ao B wx) : ∀ k, Go.Proofs.YtfpfabmbipmipaaGreatDoor.foot p ao k -> k < wx.heap.size := fun k hk => by
 rcases hk with hk | hk
 ·rw [hk]; exact h.wr.lt
 ·exact h.wr.blocks k hk
theorem BX.put (h : BX w f so sk a b c d i e s p ao B wx) (hw : WrB w' p ao' B') (hS : Stays (Go.Proofs.YtfpfabmbipmipaaGreatDoor.foot p ao) wx w') (hM : Moved wx.heap.size ao ao') : BX w f so sk a b c d i e s p ao' B' w' :=
 ⟨by rw [hS.block _ (lt_of_block h.fb) (fun hf => by have := h.foot _ hf; omega)]; exact h.fb, by rw [hS.block _ (lt_of_block h.ib) (fun hf => by have := h.foot _ hf; omega)]; exact h.ib,
  h.below.trans (hS.below h.below.size (fun k hk hf => by have := h.foot _ hf; omega)), hw, h.hp, fun k hk => by
  rcases hM k hk with h1 | h1
  ·exact h.hao k h1
  ·have := lt_of_block h.ib; omega⟩
theorem BX.low (h : BX w f so sk a b c d i e s p ao B wx) (hb : Lo wx w') : BX w f so sk a b c d i e s p ao B w' :=
 ⟨by rw [hb.block _ (lt_of_block h.fb)]; exact h.fb, by rw [hb.block _ (lt_of_block h.ib)]; exact h.ib, h.below.trans (hb.mono h.below.size), h.wr.below hb, h.hp, h.hao⟩
theorem BX.cells (h : BX w f so sk a b c d i e s p ao B wx) : wx.cell? ⟨w.heap.size, 0, none⟩ = some (.bool f.v) /\ wx.cell? ⟨w.heap.size, 1, none⟩ = some (.int .i64 f.num) /\ wx.cell? ⟨w.heap.size, 2, none⟩ = some (.int .i64 f.size) /\ wx.cell? ⟨w.heap.size, 3, none⟩ = some (.int .i64 f.sc) /\ wx.cell? ⟨w.heap.size, 4, none⟩ = some (.int .i64 f.rc) /\ wx.cell? ⟨w.heap.size, 5, none⟩ = some (.int .i64 f.wc) /\ wx.cell? ⟨w.heap.size, 6, none⟩ = some (.int .i64 f.mo) /\ wx.cell? ⟨w.heap.size, 7, none⟩ = some (.slice so f.S.length sk) /\ wx.cell? ⟨w.heap.size + 1, 0, none⟩ = some (.int .i64 a) /\ wx.cell? ⟨w.heap.size + 1, 1, none⟩ = some (.int .i64 b) /\ wx.cell? ⟨w.heap.size + 1, 2, none⟩ = some (.int .i64 c) /\ wx.cell? ⟨w.heap.size + 1, 3, none⟩ = some (.int .i64 d) /\ wx.cell? ⟨w.heap.size + 1, 4, none⟩ = some (.int .i64 i.rate) /\ wx.cell? ⟨w.heap.size + 1, 5, none⟩ = some (.int .i64 i.ch) /\ wx.cell? ⟨w.heap.size + 1, 6, none⟩ = some (.int .i64 i.wd) /\ wx.cell? ⟨w.heap.size + 1, 7, none⟩ = some (.int .i64 e) /\ wx.cell? ⟨w.heap.size + 1, 8, none⟩ = some (.string s) := by
 obtain ⟨z0, z1, z2, z3, z4, z5, z6, z7⟩ := fm_cells h.fb
 obtain ⟨y0, y1, y2, y3, y4, y5, y6, y7, y8⟩ := inf_cells h.ib
 exact ⟨z0, z1, z2, z3, z4, z5, z6, z7, y0, y1, y2, y3, y4, y5, y6, y7, y8⟩
end
theorem align_bits (bits : List Nat) (h01 : Bits01 bits) : bits ++ List.replicate (8 * ((bits.length + 7) / 8) - bits.length) 0 = sbits (pack bits) := by
 have h1 := sbits_packN bits h01 (8 * ((bits.length + 7) / 8) - bits.length) ((bits.length + 7) / 8) (by omega)
 show _ = sbits (packN bits ((bits.length + 7) / 8))
 rw [h1, List.take_of_length_le (by rw [List.length_append, List.length_replicate]; omega)]
theorem hedC_lt (f : Fm) (i : Inf) (h : okH f i) : ∀ b ∈ hedC f i, b < 256 := fun b hb => by
 rcases List.mem_append.1 hb with hb | hb
 ·exact hedL_lt f i h b hb
 ·rw [List.mem_singleton] at hb; rw [hb]; exact (crcL p8 0#8 _).isLt
theorem chn_all (f : Fm) (i : Inf) (P : List (List Int)) (hC : okC f i) (hP : okP f i P) : (chnL f.mo P).length = f.S.length /\ (chnL f.mo P).length <= 8 /\ (∀ j, j < (chnL f.mo P).length -> ((chnL f.mo P).getD j []).length <= 4608) /\ ((∀ j, j < (chnL f.mo P).length -> okS (f.S.getD j Sb0) (wdA i f.mo j) ((chnL f.mo P).getD j [])) ↔ okF f i P) := by
 have hch := hC.1.1.1
 have h1 := chnL_len f.mo P i.ch hP.1 hC.1.2.2.2.1.2.2
 have h2 := chnL_size f.mo P f.size (fun l hl => (hP.2 l hl).1) (by have := hP.1; omega)
 have h3 := hC.2.1
 have h4 := hC.1.2.1
 refine ⟨by omega, by omega, fun j hj => by have := h2 j hj; omega, fun h => ⟨hC, hP, fun c hc => (h c (by omega)).2⟩, fun h j hj => ⟨?_, h.2.2 j (by omega)⟩⟩
 have h5 := hC.2.2 j (by omega)
 rw [h2 j hj]; exact h5
theorem f_withinW (P : List (List Int)) (po : OA) (pk : Nat) (v : Int) (hv : 4 <= v /\ v <= 24) (bb : Bool) (hbb : bb = true ↔ ∀ l ∈ P, ∀ x ∈ l, sigE x v = 0) (w : World) (hp : RowsAt w po P) : Calls Tryz.prog 18 #[.slice po P.length pk, .int .i64 v] w fun en w' => en = .returned (.bool bb) /\ w' = w := by
 obtain ⟨k, hk⟩ : ∃ k : Nat, v = (k : Int) + 1 := ⟨v.toNat - 1, by omega⟩
 subst hk
 exact f_within P po pk k (by omega) bb hbb w hp
theorem bd_chk (f : Fm) (so : OA) (sk : Nat) (a b c d : Int) (i : Inf) (e : Int) (s : ByteArray) (hr : I64 i.rate) (P : List (List Int)) (po : OA) (pk : Nat) (w : World) (hL : Lay w) (hf : FmAt w f so sk) (hP : RowsAt w po P) (h : ¬ okC f i) : Calls Tryz.prog 8 #[fmV f so sk, infV a b c d i e s, .slice po P.length pk] w fun en w' => en = .returned (.tuple #[.string ⟨#[]⟩, .int .i64 60]) /\ Lo w w' := by
 have K1 : Hid (∀ wx, Hid (FX w f so sk a b c d i e s wx) -> Calls Tryz.prog 10 #[fmV f so sk, infV a b c d i e s] wx fun en w' => en = .returned (.int .i64 60) /\ Hid (FX w f so sk a b c d i e s w')) := fun wx hx => (f_check f so sk a b c d i e s hr 60 (fun hq => absurd hq (h)) (fun _ => rfl) wx (hf.below hx.out.below) (hL.below hx.out.below)).mono fun en w' hh => ⟨hh.1, hx.out.next hh.2⟩
 clear h hL hf hP
 have HA : Hid (FX w f so sk a b c d i e s ((w.alloc (.cells (fmC f so sk) 24)).alloc (.cells (infC a b c d i e s) 26))) := FX.new w f so sk a b c d i e s
 go_enter Tryz.func8, Tryz.ntmps8
 go_upto_region 1 with fail
 generalize World.alloc _ _ = wa at *
 obtain ⟨f0, f1, f2, f3, f4, f5, f6, f7, i0, i1, i2, i3, i4, i5, i6, i7, i8⟩ := HA.out.cells
 go_wp2_with fail
 refine (K1.out _ HA).mono ?_
 rintro en w1 ⟨rfl, HB1⟩
 clear HA f0 f1 f2 f3 f4 f5 f6 f7 i0 i1 i2 i3 i4 i5 i6 i7 i8
 obtain ⟨f0, f1, f2, f3, f4, f5, f6, f7, i0, i1, i2, i3, i4, i5, i6, i7, i8⟩ := HB1.out.cells
 go_wp2_with fail
 go_ret2
 exact ⟨rfl, HB1.out.below⟩
theorem bd_len (f : Fm) (so : OA) (sk : Nat) (a b c d : Int) (i : Inf) (e : Int) (s : ByteArray) (hr : I64 i.rate) (P : List (List Int)) (po : OA) (pk : Nat) (w : World) (hL : Lay w) (hf : FmAt w f so sk) (hP : RowsAt w po P) (h : okC f i) (h2 : ¬ (P.length : Int) = i.ch) : Calls Tryz.prog 8 #[fmV f so sk, infV a b c d i e s, .slice po P.length pk] w fun en w' => en = .returned (.tuple #[.string ⟨#[]⟩, .int .i64 60]) /\ Lo w w' := by
 have hpl := hP.len
 have K1 : Hid (∀ wx, Hid (FX w f so sk a b c d i e s wx) -> Calls Tryz.prog 10 #[fmV f so sk, infV a b c d i e s] wx fun en w' => en = .returned (.int .i64 0) /\ Hid (FX w f so sk a b c d i e s w')) := fun wx hx => (f_check f so sk a b c d i e s hr 0 (fun _ => rfl) (fun hq => absurd (h) hq) wx (hf.below hx.out.below) (hL.below hx.out.below)).mono fun en w' hh => ⟨hh.1, hx.out.next hh.2⟩
 have hne : ((P.length : Int) != i.ch) = true := by rw [bne_iff_ne]; exact h2
 clear h h2 hL hf hP
 have HA : Hid (FX w f so sk a b c d i e s ((w.alloc (.cells (fmC f so sk) 24)).alloc (.cells (infC a b c d i e s) 26))) := FX.new w f so sk a b c d i e s
 go_enter Tryz.func8, Tryz.ntmps8
 go_upto_region 1 with fail
 generalize World.alloc _ _ = wa at *
 obtain ⟨f0, f1, f2, f3, f4, f5, f6, f7, i0, i1, i2, i3, i4, i5, i6, i7, i8⟩ := HA.out.cells
 go_wp2_with fail
 refine (K1.out _ HA).mono ?_
 rintro en w1 ⟨rfl, HB1⟩
 clear HA f0 f1 f2 f3 f4 f5 f6 f7 i0 i1 i2 i3 i4 i5 i6 i7 i8
 obtain ⟨f0, f1, f2, f3, f4, f5, f6, f7, i0, i1, i2, i3, i4, i5, i6, i7, i8⟩ := HB1.out.cells
 go_wp2_with fail
 go_ret2
 exact ⟨rfl, HB1.out.below⟩
theorem bd_long (f : Fm) (so : OA) (sk : Nat) (a b c d : Int) (i : Inf) (e : Int) (s : ByteArray) (hr : I64 i.rate) (P : List (List Int)) (po : OA) (pk : Nat) (w : World) (hL : Lay w) (hf : FmAt w f so sk) (hP : RowsAt w po P) (h : okC f i) (h2 : (P.length : Int) = i.ch) (h3 : ¬ ∀ l ∈ P, (l.length : Int) = f.size) : Calls Tryz.prog 8 #[fmV f so sk, infV a b c d i e s, .slice po P.length pk] w fun en w' => en = .returned (.tuple #[.string ⟨#[]⟩, .int .i64 60]) /\ Lo w w' := by
 have hpl := hP.len
 have K1 : Hid (∀ wx, Hid (FX w f so sk a b c d i e s wx) -> Calls Tryz.prog 10 #[fmV f so sk, infV a b c d i e s] wx fun en w' => en = .returned (.int .i64 0) /\ Hid (FX w f so sk a b c d i e s w')) := fun wx hx => (f_check f so sk a b c d i e s hr 0 (fun _ => rfl) (fun hq => absurd (h) hq) wx (hf.below hx.out.below) (hL.below hx.out.below)).mono fun en w' hh => ⟨hh.1, hx.out.next hh.2⟩
 have K2 : Hid (∀ wx, Hid (FX w f so sk a b c d i e s wx) -> Calls Tryz.prog 17 #[.slice po P.length pk, .int .i64 f.size] wx fun en w' => en = .returned (.bool false) /\ Hid (FX w f so sk a b c d i e s w')) := fun wx hx => ((f_long P po pk f.size false (ff_iff (h3)) wx (hP.below hx.out.below))).mono fun en w' hh => ⟨hh.1, by rw [hh.2]; exact hx⟩
 have hne : ((P.length : Int) != i.ch) = false := by rw [bne_eq_false_iff_eq]; exact h2
 clear h h2 h3 hL hf hP
 have HA : Hid (FX w f so sk a b c d i e s ((w.alloc (.cells (fmC f so sk) 24)).alloc (.cells (infC a b c d i e s) 26))) := FX.new w f so sk a b c d i e s
 go_enter Tryz.func8, Tryz.ntmps8
 go_upto_region 1 with fail
 generalize World.alloc _ _ = wa at *
 obtain ⟨f0, f1, f2, f3, f4, f5, f6, f7, i0, i1, i2, i3, i4, i5, i6, i7, i8⟩ := HA.out.cells
 go_wp2_with fail
 refine (K1.out _ HA).mono ?_
 rintro en w1 ⟨rfl, HB1⟩
 clear HA f0 f1 f2 f3 f4 f5 f6 f7 i0 i1 i2 i3 i4 i5 i6 i7 i8
 obtain ⟨f0, f1, f2, f3, f4, f5, f6, f7, i0, i1, i2, i3, i4, i5, i6, i7, i8⟩ := HB1.out.cells
 go_wp2_with fail
 refine (K2.out _ HB1).mono ?_
 rintro en w2 ⟨rfl, HB2⟩
 clear HB1 f0 f1 f2 f3 f4 f5 f6 f7 i0 i1 i2 i3 i4 i5 i6 i7 i8
 obtain ⟨f0, f1, f2, f3, f4, f5, f6, f7, i0, i1, i2, i3, i4, i5, i6, i7, i8⟩ := HB2.out.cells
 go_wp2_with fail
 go_ret2
 exact ⟨rfl, HB2.out.below⟩
theorem bd_with (f : Fm) (so : OA) (sk : Nat) (a b c d : Int) (i : Inf) (e : Int) (s : ByteArray) (hr : I64 i.rate) (P : List (List Int)) (po : OA) (pk : Nat) (w : World) (hL : Lay w) (hf : FmAt w f so sk) (hP : RowsAt w po P) (h : okC f i) (h2 : (P.length : Int) = i.ch) (h3 : ∀ l ∈ P, (l.length : Int) = f.size) (h4 : ¬ ∀ l ∈ P, ∀ x ∈ l, sigE x i.wd = 0) : Calls Tryz.prog 8 #[fmV f so sk, infV a b c d i e s, .slice po P.length pk] w fun en w' => en = .returned (.tuple #[.string ⟨#[]⟩, .int .i64 60]) /\ Lo w w' := by
 have hpl := hP.len
 have hwd := h.1.1.2.1
 have K1 : Hid (∀ wx, Hid (FX w f so sk a b c d i e s wx) -> Calls Tryz.prog 10 #[fmV f so sk, infV a b c d i e s] wx fun en w' => en = .returned (.int .i64 0) /\ Hid (FX w f so sk a b c d i e s w')) := fun wx hx => (f_check f so sk a b c d i e s hr 0 (fun _ => rfl) (fun hq => absurd (h) hq) wx (hf.below hx.out.below) (hL.below hx.out.below)).mono fun en w' hh => ⟨hh.1, hx.out.next hh.2⟩
 have K2 : Hid (∀ wx, Hid (FX w f so sk a b c d i e s wx) -> Calls Tryz.prog 17 #[.slice po P.length pk, .int .i64 f.size] wx fun en w' => en = .returned (.bool true) /\ Hid (FX w f so sk a b c d i e s w')) := fun wx hx => ((f_long P po pk f.size true (tt_iff (h3)) wx (hP.below hx.out.below))).mono fun en w' hh => ⟨hh.1, by rw [hh.2]; exact hx⟩
 have K3 : Hid (∀ wx, Hid (FX w f so sk a b c d i e s wx) -> Calls Tryz.prog 18 #[.slice po P.length pk, .int .i64 i.wd] wx fun en w' => en = .returned (.bool false) /\ Hid (FX w f so sk a b c d i e s w')) := fun wx hx => ((f_withinW P po pk i.wd hwd false (ff_iff (h4)) wx (hP.below hx.out.below))).mono fun en w' hh => ⟨hh.1, by rw [hh.2]; exact hx⟩
 have hne : ((P.length : Int) != i.ch) = false := by rw [bne_eq_false_iff_eq]; exact h2
 clear h h2 h3 h4 hL hf hP hwd
 have HA : Hid (FX w f so sk a b c d i e s ((w.alloc (.cells (fmC f so sk) 24)).alloc (.cells (infC a b c d i e s) 26))) := FX.new w f so sk a b c d i e s
 go_enter Tryz.func8, Tryz.ntmps8
 go_upto_region 1 with fail
 generalize World.alloc _ _ = wa at *
 obtain ⟨f0, f1, f2, f3, f4, f5, f6, f7, i0, i1, i2, i3, i4, i5, i6, i7, i8⟩ := HA.out.cells
 go_wp2_with fail
 refine (K1.out _ HA).mono ?_
 rintro en w1 ⟨rfl, HB1⟩
 clear HA f0 f1 f2 f3 f4 f5 f6 f7 i0 i1 i2 i3 i4 i5 i6 i7 i8
 obtain ⟨f0, f1, f2, f3, f4, f5, f6, f7, i0, i1, i2, i3, i4, i5, i6, i7, i8⟩ := HB1.out.cells
 go_wp2_with fail
 refine (K2.out _ HB1).mono ?_
 rintro en w2 ⟨rfl, HB2⟩
 clear HB1 f0 f1 f2 f3 f4 f5 f6 f7 i0 i1 i2 i3 i4 i5 i6 i7 i8
 obtain ⟨f0, f1, f2, f3, f4, f5, f6, f7, i0, i1, i2, i3, i4, i5, i6, i7, i8⟩ := HB2.out.cells
 go_wp2_with fail
 refine (K3.out _ HB2).mono ?_
 rintro en w3 ⟨rfl, HB3⟩
 clear HB2 f0 f1 f2 f3 f4 f5 f6 f7 i0 i1 i2 i3 i4 i5 i6 i7 i8
 obtain ⟨f0, f1, f2, f3, f4, f5, f6, f7, i0, i1, i2, i3, i4, i5, i6, i7, i8⟩ := HB3.out.cells
 go_wp2_with fail
 go_ret2
 exact ⟨rfl, HB3.out.below⟩
theorem sigE_more (x v u : Int) (h : sigE x v = 0) (hv : v <= u) (hu : u <= 64) : sigE x u = 0 := by
 rw [sigE_iff] at h ⊢
 obtain ⟨h1, h2, h3, h4⟩ := h
 have hp : (2 : Nat) ^ (v.toNat - 1) <= 2 ^ (u.toNat - 1) := Nat.pow_le_pow_right (by decide) (by omega)
 rw [pow_int] at h3 h4 ⊢
 refine ⟨by omega, hu, by omega, by omega⟩
theorem drew_heap (w : World) : w.drew.heap = w.heap := rfl
theorem fmw_cells {w : World} {g : Nat} {f : Fm} {v : Value} (h : w.heap[g]? = some (.cells (fmW f v) 24 (0, 0))) :
  w.cell? ⟨g, 0, none⟩ = some (.bool f.v) /\ w.cell? ⟨g, 1, none⟩ = some (.int .i64 f.num) /\ w.cell? ⟨g, 2, none⟩ = some (.int .i64 f.size) /\ w.cell? ⟨g, 3, none⟩ = some (.int .i64 f.sc) /\ w.cell? ⟨g, 4, none⟩ = some (.int .i64 f.rc) /\ w.cell? ⟨g, 5, none⟩ = some (.int .i64 f.wc) /\ w.cell? ⟨g, 6, none⟩ = some (.int .i64 f.mo) /\ w.cell? ⟨g, 7, none⟩ = some v := by
 refine ⟨?_, ?_, ?_, ?_, ?_, ?_, ?_, ?_⟩ <;> (rw [cell_of_row _ _ _ _ _ _ h]; rfl)
theorem RowsP.keep {F : Nat -> Prop} {w W : World} {po : OA} {P : List (List Int)} (h : RowsP F w po P) (hW : ∀ k, ¬ F k -> k < w.heap.size -> W.heap[k]? = w.heap[k]?) : RowsP F W po P := by
 refine ⟨h.len, fun h0 => ?_⟩
 obtain ⟨b, off, e, hb, hc⟩ := h.lies h0
 refine ⟨b, off, e, hb, fun c hl => ?_⟩
 obtain ⟨a, k, h1, h2, h3, h4, h5⟩ := hc c hl
 exact ⟨a, k, by rw [World.cell?_of_block (w := w) (hW b hb (lt_cell h1))]; exact h1, h2, h3, ints_keep h4 (fun h0 b' hb' hl' => hW b' (h5 h0 b' hb') hl'), h5⟩
section
variable {w wx W : World} {x q : Nat} {s : ByteArray} {f : Fm} {a b c d : Int} {i : Inf} {e : Int} {sc : ByteArray} {L : List (List Int)} {S : List Sb} {vL vS vB : Value} {cX cY : List Value} {at_ : Nat}
theorem RS.rowsP (h : RS w x q s f a b c d i e sc L S vL vS vB cX cY at_ wx) (hl : L.length <= 8) (F : Nat -> Prop) (hF : ∀ k, F k -> k <= w.heap.size) : ∃ lo lk, vL = .slice lo L.length lk /\ RowsP F wx lo L := by
 have ho := h.oX
 rcases ho.2 with ⟨h1, h2⟩ | ⟨g, cap, cur, h1, h2, h3, h4, h5, h6, h7⟩
 ·exact ⟨none, 0, by rw [h1, h2], ⟨by omega, fun h0 => by omega⟩⟩
 ·refine ⟨_, cap, h1, ⟨by omega, fun h0 => ⟨g, 0, rfl, fun hf => by have := hF g hf; omega, fun n hn => ?_⟩⟩⟩
  obtain ⟨a, k, k1, k2, k3, k4⟩ := h.dX n hn
  refine ⟨a, k, ?_, k2.1, k2.2, k3, fun h0 b' hb' hf => by have := hF b' hf; have := (k4 h0 b' hb').1; omega⟩
  rw [Nat.zero_add, cell_of_row _ _ _ _ _ _ h3, <- Array.getElem?_toList]
  rw [<- h7, List.getElem?_take] at k1
  split at k1
  ·exact k1
  ·cases k1
theorem RS.subsW (h : RS w x q s f a b c d i e sc L S vL vS vB cX cY at_ wx) (hl : S.length <= 8) (hW : ∀ k, w.heap.size < k -> k < wx.heap.size -> W.heap[k]? = wx.heap[k]?) : ∃ so sk, vS = .slice so S.length sk /\ SubsAt W so S /\ (S.length <= sk /\ (so = none -> sk = 0)) := by
 have ho := h.oY
 rcases ho.2 with ⟨h1, h2⟩ | ⟨g, cap, cur, h1, h2, h3, h4, h5, h6, h7⟩
 ·exact ⟨none, 0, by rw [h1, h2], ⟨by omega, fun h0 => by omega⟩, by omega, fun _ => rfl⟩
 ·have h3W : W.heap[g]? = some (.cells cur 67 (0, 0)) := by rw [hW g (by omega) (lt_of_block h3)]; exact h3
  refine ⟨_, cap, h1, ⟨by omega, fun h0 => ⟨g, 0, rfl, fun n hn => ?_⟩⟩, h4, fun e => by cases e⟩
  obtain ⟨ca, cc, pa, pc, ea, ec, k1, k2, k3, k4, k5, k6⟩ := h.dY n hn
  have off : ∀ {ao : OA} {l : List Int}, Off w vL vS ao l -> IntsAt wx ao l -> IntsAt W ao l := fun {ao l} hf hi => ints_keep hi (fun h0 k hk hl => hW k (hf h0 k hk).1 hl)
  refine ⟨ca, cc, pa, pc, ea, ec, ?_, sb_keep k2 (off k4 k2.C) (off k5 k2.R.P) (off k6 k2.R.E), k3⟩
  have cel : ∀ j u, (subC (S.getD n Sb0) ca cc pa pc ea ec).toList[j]? = some u -> W.cell? ⟨g, 0 + n * 10 + j, none⟩ = some u := fun j u hu => by
   have k := k1 j u hu
   rw [<- h7, List.getElem?_take] at k
   split at k
   ·rw [Nat.zero_add, cell_of_row _ _ _ _ _ _ h3W, <- Array.getElem?_toList]; exact k
   ·cases k
  exact ⟨cel 0 _ rfl, cel 1 _ rfl, cel 2 _ rfl, cel 3 _ rfl, cel 4 _ rfl, cel 5 _ rfl, cel 6 _ rfl, cel 7 _ rfl, cel 8 _ rfl, cel 9 _ rfl⟩
end
theorem grp2 : (∀ (s : ByteArray) (hs : s.size <= 140737488351232) (a b c d : Int) (i : Inf) (e : Int) (sc : ByteArray) (w : World) (hL : Lay w) (KH : Hid (∀ x wx, Rd wx x s 0 -> Lay wx -> 4 <= x -> Calls Tryz.prog 43 #[.pointer (some ⟨x, 0, none⟩), .string s] wx fun en w' => en = .returned (.tuple #[.agg (hdC H0), .bool false]) /\ Stays (only x) wx w')), Calls Tryz.prog 13 #[.string s, infV a b c d i e sc] w fun en w' => en = .returned (.tuple #[.slice none 0 0, fmV F0 none 0, .int .i64 0, .int .i64 2]) /\ Lo w w') /\ (∀ (s : ByteArray) (hs : s.size <= 140737488351232) (a b c d : Int) (i : Inf) (e : Int) (sc : ByteArray) (w : World) (hL : Lay w) (hw : 4 <= i.wd /\ i.wd <= 24) (hch : 1 <= i.ch /\ i.ch <= 8) (h : Hd) (at1 : Nat) (hat1 : at1 <= 8 * s.size) (KH : Hid (∀ x wx, Rd wx x s 0 -> Lay wx -> 4 <= x -> Calls Tryz.prog 43 #[.pointer (some ⟨x, 0, none⟩), .string s] wx fun en w' => en = .returned (.tuple #[.agg (hdC h), .bool true]) /\ Rd w' x s at1 /\ Stays (only x) wx w')) (f : Fm) (hfS : f.S = []) (hsz : 1 <= f.size /\ f.size <= 4608) (hmo : 0 <= f.mo /\ f.mo <= 3 /\ (f.mo = 0 ∨ i.ch = 2)) (KF : Hid (∀ wx, Lay wx -> Calls Tryz.prog 44 #[.agg (hdC h), infV a b c d i e sc] wx fun en w' => en = .returned (.tuple #[fmV f none 0, .int .i64 0]) /\ Lo wx w')) (L : List (List Int)) (S : List Sb) (a1 : Nat) (HRR : Hid (subsP s at1 i f.mo f.size i.ch.toNat = some (L, S, a1))) (hwn : ∀ l ∈ plnL f.mo L, ∀ x ∈ l, sigE x i.wd = 0) (m : Nat) (hm8 : 8 * m + 16 <= 8 * s.size) (hI : I64 f.num /\ I64 f.size /\ I64 f.sc /\ I64 f.rc /\ I64 f.wc /\ I64 f.mo) (KRE : Hid (∀ x wx, Rd wx x s a1 -> Lay wx -> 4 <= x -> Calls Tryz.prog 47 #[.pointer (some ⟨x, 0, none⟩), .string s] wx fun en w' => en = .returned (.bool true) /\ Rd w' x s (8 * m + 16) /\ Stays (only x) wx w')), Calls Tryz.prog 13 #[.string s, infV a b c d i e sc] w fun en w' => ∃ ro rk so sk, en = .returned (.tuple #[.slice ro (plnL f.mo L).length rk, fmV ⟨f.v, f.num, f.size, f.sc, f.rc, f.wc, f.mo, S⟩ so sk, .int .i64 ((m : Int) + 2), .int .i64 0]) /\ RowsAt w' ro (plnL f.mo L) /\ FmAt w' ⟨f.v, f.num, f.size, f.sc, f.rc, f.wc, f.mo, S⟩ so sk /\ Lo w w') := by
 refine ⟨?_, ?_⟩
 focus
  intro s hs a b c d i e sc w hL KH
 rotate_left
 focus
  intro s hs a b c d i e sc w hL hw hch h at1 hat1 KH f hfS hsz hmo KF L S a1 HRR hwn m hm8 hI KRE
  have KWI : Hid (∀ ro rk wx, RowsAt wx ro (plnL f.mo L) -> G0 18 #[.slice ro (plnL f.mo L).length rk, .int .i64 i.wd] wx (.bool true)) := fun ro rk wx hh => f_withinW _ ro rk i.wd hw true (tt_iff hwn) wx hh
  clear hwn
 rotate_left
 all_goals
  have HP0 : Hid (PX w a b c d i e sc (w.heap.size + 2) ((w.alloc (.cells (infC a b c d i e sc) 26)).alloc (.cells (fmC F0 none 0) 24))) := by
   refine ⟨heap_two _ _ _, ?_, aQ.alloc (by simp) _, Nat.le_refl _⟩
   have hh := heap_alloc_new (w.alloc (.cells (infC a b c d i e sc) 26)) (.cells (fmC F0 none 0) 24)
   rw [show (w.alloc (.cells (infC a b c d i e sc) 26)).heap.size = w.heap.size + 1 from by simp] at hh
   exact hh
  have HSZ : Hid (((w.alloc (.cells (infC a b c d i e sc) 26)).alloc (.cells (fmC F0 none 0) 24)).heap.size = w.heap.size + 2) := by show _ = _; simp
  have HL := kQ hL
  have hp4 := hL.size4
  clear hL
  go_enter Tryz.func13, Tryz.ntmps13
  go_upto_region 1 with fail
  generalize World.alloc _ _ = wa at *
  have ko := of_spec s (by omega) wa
  go_wp2_with fail
  refine ko.mono ?_
  rintro en w1 ⟨rfl, hr1, hb1⟩
  rw [HSZ.out] at hr1
  rw [HSZ.out]
  have HR1 := kQ hr1
  have HP1 := kQ (HP0.out.low hb1)
  clear ko hr1 hb1 HP0 HSZ
  generalize hxx : w.heap.size + 2 = x at *
  have hx4 : 4 <= x := by omega
  have hxw : w.heap.size < x := by omega
  clear hxx
  go_wp2_with fail
  refine (KH.out x w1 HR1.out (HL.out.below HP1.out.below) hx4).mono ?_
 ·rintro en w2 ⟨rfl, hs2⟩
  have HP2 : Hid (PX w a b c d i e sc x (w2.alloc (.cells (hdC H0) 78))) := (HP1.out.only hs2).low aQ
  clear hs2 HP1 HR1 KH
  go_upto_region 3 with fail
  generalize World.alloc _ _ = w3 at *
  obtain ⟨k0, k1, k2, k3, k4, k5, k6, k7⟩ := fm_cells HP2.out.zb
  have r0 := row_frozen HP2.out.zb 0
  have r1 := row_frozen HP2.out.zb 1
  have r2 := row_frozen HP2.out.zb 2
  have r3 := row_frozen HP2.out.zb 3
  have r4 := row_frozen HP2.out.zb 4
  have r5 := row_frozen HP2.out.zb 5
  have r6 := row_frozen HP2.out.zb 6
  have r7 := row_frozen HP2.out.zb 7
  go_wp2_with fail
  generalize hwf : World.setCell _ _ _ = wf
  have hH : wf.heap[w.heap.size + 1]? = some (.cells (fmC F0 none 0) 24 (0, 0)) := by rw [<- hwf]; exact set8_a _ _ _ _ _ _ _ _ _ HP2.out.zb
  have hS : Lo w wf := by rw [<- hwf]; exact set8_b _ _ _ _ _ _ _ _ _ _ (by omega) HP2.out.below
  refine bodyPost_ret (v := .tuple #[.slice none 0 0, .agg (fmC F0 none 0), .int .i64 0, .int .i64 2]) ?_ rfl ⟨rfl, hS⟩
  rw [results_four rfl]
  have hld := run_loadVar_row (P := Tryz.prog) (wf) (w.heap.size + 1) 24 24 (fmC F0 none 0) (0, 0) _ hH Tryz.underlying24 rfl info_Frame
  simp [asAddr, Result.andThen, hld]
 ·rintro en w2 ⟨rfl, hr2, hs2⟩
  have HP3 : Hid (PX w a b c d i e sc x (w2.alloc (.cells (hdC h) 78))) := (HP1.out.only hs2).low aQ
  have HR3 : Hid (Rd (w2.alloc (.cells (hdC h) 78)) x s at1) := by
   have g := hr2
   unfold Rd at g ⊢
   rw [Below.heap_alloc _ _ _ hr2.lt]; exact g
  have HH3 : Hid ((w2.alloc (.cells (hdC h) 78)).heap[w2.heap.size]? = some (.cells (hdC h) 78 (0, 0))) := heap_alloc_new _ _
  clear hr2 hs2 HP1 HR1 KH
  go_upto_region 3 with fail
  generalize World.alloc _ _ = w3 at *
  generalize w2.heap.size = kh at *
  obtain ⟨z0, z1, z2, z3, z4, z5, z6, z7⟩ := hd_cells HH3.out
  obtain ⟨i0, i1, i2, i3, i4, i5, i6, i7, i8⟩ := inf_cells HP3.out.ib
  go_wp2_with fail
  refine (KF.out w3 (HL.out.below HP3.out.below)).mono ?_
  rintro en w4 ⟨rfl, hb4⟩
  have hfl : f.S.length = 0 := by rw [hfS]; rfl
  have HP5 : Hid (PX w a b c d i e sc x (w4.alloc (.cells (fmW f (.slice none 0 0)) 24))) := (HP3.out.low hb4).low aQ
  have HR5 : Hid (Rd (w4.alloc (.cells (fmW f (.slice none 0 0)) 24)) x s at1) := by
   have g := HR3.out
   have hb : Lo w3 (w4.alloc (.cells (fmW f (.slice none 0 0)) 24)) := hb4.alloc hb4.size _
   unfold Rd at g ⊢
   rw [hb.block _ HR3.out.lt]; exact g
  have HF5 : Hid ((w4.alloc (.cells (fmW f (.slice none 0 0)) 24)).heap[w4.heap.size]? = some (.cells (fmW f (.slice none 0 0)) 24 (0, 0))) := by
   exact heap_alloc_new _ _
  have hqx : x ≠ w4.heap.size := by have := HR3.out.lt; have := hb4.size; omega
  have hq2 : w.heap.size + 2 <= w4.heap.size := by have := lt_of_block HP3.out.zb; have := hb4.size; omega
  clear hb4 HP3 HR3 HH3 KF z0 z1 z2 z3 z4 z5 z6 z7 i0 i1 i2 i3 i4 i5 i6 i7 i8
  go_upto_region 6 with fail
  generalize World.alloc _ _ = w5 at *
  generalize w4.heap.size = q at *
  have krs := rs_all a b c d i e sc hw hch x q s hs f hsz w5 at1 hat1 HR5.out HF5.out hqx _ HRR.out
  obtain ⟨i0, i1, i2, i3, i4, i5, i6, i7, i8⟩ := inf_cells HP5.out.ib
  go_wp2_with fail
  refine krs.mono ?_
  rintro en w6 ⟨v, er, rfl, hst6, hh6⟩
  obtain ⟨vL, vS, cX, cY, rfl, rfl, hLl, hSl, ha1, hrs⟩ : ∃ vL vS cX cY, er = 0 /\ v = vL /\ L.length = i.ch.toNat /\ S.length = i.ch.toNat /\ a1 <= 8 * s.size /\ RS w5 x q s f a b c d i e sc L S vL vS vS cX cY a1 w6 := by
   rcases hh6 with g | ⟨L2, S2, a2, vL, vS, cX, cY, g, g1, g2, g3, g4, g5, g6⟩
   ·cases g.1
   ·injection g with g
    injection g with g7 g8
    injection g8 with g8 g9
    subst g7 g8 g9
    exact ⟨vL, vS, cX, cY, g1, g2, g3, g4, g5, g6⟩
  have hxw5 := hrs.hx
  have hz5 := lt_of_block HP5.out.zb
  have hx2 := HP5.out.hx
  obtain ⟨lo, lk, rfl, hrow⟩ := hrs.rowsP (by omega) (fun k => k = x ∨ k = w.heap.size + 1) (fun k hk => by rcases hk with e | e <;> omega)
  obtain ⟨so, sk, rfl, _, _⟩ := hrs.subs (by omega)
  have HP6 := kQ (HP5.out.two hq2 hst6)
  have HS8 : Hid (S.length <= 8) := by show _ <= _; omega
  have HRS6 := kQ hrs
  have hzl : w.heap.size + 1 < w5.heap.size := hz5
  have HF6 := kQ hrs.fb
  have HR6 := kQ hrs.rd
  have hcm : w6.cell? ⟨q, 6, none⟩ = some (.int .i64 f.mo) := hrs.cells.2.1
  have KU : Hid (Calls Tryz.prog 46 #[.int .i64 f.mo, .slice lo L.length lk] w6 fun en w' => ∃ ro rk, en = .returned (.slice ro (plnL f.mo L).length rk) /\ RowsP (fun k => k = x ∨ k = w.heap.size + 1) w' ro (plnL f.mo L) /\ Lo w6 w') := by
   by_cases g0 : f.mo = 0
   ·have e1 : plnL f.mo L = L := by unfold plnL; rw [if_pos g0]
    rw [e1, g0]
    exact (f_uncoded_0 L lo lk w6).mono fun en w' q => ⟨lo, lk, q.1, by rw [q.2]; exact hrow, by rw [q.2]; exact Below.refl _ _⟩
   ·have hch2 : i.ch = 2 := by rcases hmo.2.2 with g | g; exact absurd g g0; exact g
    obtain ⟨s1, s2, s3, s4, s5⟩ := subs_again ⟨hsz.1, by omega⟩ hw HRR.out
    have hL2 : L.length = 2 := by rw [hLl, hch2]; rfl
    have hl0 := (s3 0 (by omega)).2.2
    have hl1 := (s3 1 (by omega)).2.2
    have hl2 : (plnL f.mo L).length = 2 := by unfold plnL; rw [if_neg g0]; rfl
    rw [hl2]
    refine (grp4.2 f.mo (by omega) L hL2 (by omega) (by omega) 25 (by decide) (fun l hl x hx => ?_) lo lk w6 hrow.rows (fun k => k = x ∨ k = w.heap.size + 1) (fun k hk => by have h6 := hrs.rd.lt; have h7 := hrs.st.size; rcases hk with e | e <;> omega)).mono fun en w' qq => ?_
    ·obtain ⟨cc, hcc, rfl⟩ := mem_getD' L l hl
     have h1 := (s3 cc (by omega)).2.1.1 x hx
     have h2 := wdA_rng i f.mo cc hw
     exact sigE_more x _ 25 h1 h2.2 (by decide)
    ·obtain ⟨ro, rk, q1, q2, q3⟩ := qq
     exact ⟨ro, rk, q1, q2, q3⟩
  clear hst6 hh6 krs HP5 HR5 HF5 hrs hrow hLl hSl hz5 i0 i1 i2 i3 i4 i5 i6 i7 i8
  generalize hpl : plnL f.mo L = P at *
  have HPL := kQ hpl
  clear hpl
  go_wp2_with fail
  refine KU.out.mono ?_
  rintro en w7 ⟨ro, rk, rfl, hrw7, hb7⟩
  have HP7 := kQ (HP6.out.low hb7)
  have HRW7 := kQ hrw7
  have HRS7 := kQ (HRS6.out.low hb7)
  have HF7 : Hid (w7.heap[q]? = some (.cells (fmW f (.slice so S.length sk)) 24 (0, 0))) := by show _ = _; rw [hb7.block _ (lt_of_block HF6.out)]; exact HF6.out
  have HR7 : Hid (Rd w7 x s a1) := by
   have g := HR6.out
   unfold Rd at g
   show w7.heap[x]? = _
   rw [hb7.block _ HR6.out.lt]; exact g
  clear hrw7 hb7 KU HP6 HRS6 HF6 HR6 hcm
  obtain ⟨i0, i1, i2, i3, i4, i5, i6, i7, i8⟩ := inf_cells HP7.out.ib
  go_wp2_with fail
  refine (KWI.out _ _ _ HRW7.out.rows).mono ?_
  rintro en w8 ⟨rfl, hw8⟩
  have hw9 := hw8.symm
  clear hw8
  subst hw9
  clear KWI
  go_wp2_with fail
  refine (KRE.out x w7 HR7.out (HL.out.below HP7.out.below) hx4).mono ?_
  rintro en w8 ⟨rfl, hr8, hs8⟩
  have HP8 := kQ (HP7.out.only hs8)
  have HRW8 : Hid (RowsP (fun k => k = x ∨ k = w.heap.size + 1) w8 ro P) := HRW7.out.keep (fun k hk hl => hs8.block k hl (fun e => hk (Or.inl e)))
  have HRS8 := kQ (HRS7.out.only hr8 hs8)
  have hqz : q ≠ w.heap.size + 1 := by omega
  clear hr8 hs8 KRE HP7 HRW7 HF7 HR7 HRS7 i0 i1 i2 i3 i4 i5 i6 i7 i8
  obtain ⟨g0, g1, g2, g3, g4, g5, g6, g7⟩ := fmw_cells HRS8.out.fb
  obtain ⟨k0, k1, k2, k3, k4, k5, k6, k7⟩ := fm_cells HP8.out.zb
  have r0 := row_frozen HP8.out.zb 0
  have r1 := row_frozen HP8.out.zb 1
  have r2 := row_frozen HP8.out.zb 2
  have r3 := row_frozen HP8.out.zb 3
  have r4 := row_frozen HP8.out.zb 4
  have r5 := row_frozen HP8.out.zb 5
  have r6 := row_frozen HP8.out.zb 6
  have r7 := row_frozen HP8.out.zb 7
  have kat := at_spec x s (8 * m + 16) w8 HRS8.out.rd
  have KAT : Hid (∀ wx, wx = w8.drew -> G0 48 #[.pointer (some ⟨x, 0, none⟩)] wx (.int .i64 ((8 * m + 16 : Nat) : Int))) := fun wx hx => at_spec x s (8 * m + 16) wx (by rw [hx]; exact HRS8.out.rd)
  clear kat
  have hdv : (8 * (m : Int) + 16).tdiv 8 = (m : Int) + 2 := by rw [Int.tdiv_eq_ediv_of_nonneg (by omega)]; omega
  have hdw : IntKind.i64.wrap ((m : Int) + 2) = (m : Int) + 2 := wrap_i64 _ (by omega) (by omega)
  go_wp2_with fail
  refine wp_region_held_drew (S := fun wx => wx.heap[q]? = some (.cells (fmW f (.slice so S.length sk)) 24 (0, 0))) (by kernel_rfl) HRS8.out.fb (fun hS => ?_)
  refine vQ 0 (.slice ro P.length rk) hS ?_
  simp only [SL]
  refine uQ 1 (.agg (fmW f (.slice so S.length sk))) rfl hS (Or.inl ⟨by rfl, fun w hSw => by obtain ⟨g0, g1, g2, g3, g4, g5, g6, g7⟩ := fmw_cells hSw; go_simp⟩) ?_
  simp only [SL]
  refine vQ 2 (.pointer (some ⟨x, 0, none⟩)) hS ?_
  simp only [SL]
  refine wpAnyH_ready (rs := [3]) (by kernel_rfl) (by simp) ?_
  refine AllReadyH.cons rfl (fun K hK => ?_) AllReadyH.nil
  go_simp
  refine (KAT.out _ rfl).mono ?_
  rintro en wq ⟨rfl, hwq⟩
  have hwq2 := hwq.symm
  clear hwq
  subst hwq2
  refine hK.out _ _ hS (fun hS4 => ?_)
  clear hK K
  try simp only [SL]
  refine vQ 4 (.int .i64 ((m : Int) + 2)) hS4 ?_
  simp only [SL]
  refine vQ 5 (.slice ro P.length rk) hS4 ?_
  simp only [SL]
  refine wpAnyH_ready (rs := [6]) (by kernel_rfl) (by simp) ?_
  refine AllReadyH.cons rfl (fun K hK => ?_) AllReadyH.nil
  go_simp
  refine hK.out _ _ (by rw [drew_heap, set8_d _ _ _ _ _ _ _ _ _ _ hqz]; exact HRS8.out.fb) (fun hS6 => ?_)
  clear hK K
  try simp only [SL]
  refine vQ 7 (.int .i64 ((m : Int) + 2)) hS6 ?_
  simp only [SL]
  refine vQ 8 (.int .i64 0) hS6 ?_
  simp only [SL]
  refine wpAnyH_done (by kernel_rfl) ?_ _
  go_wp2_with fail
  generalize hwf : World.drew (World.setCell _ _ _) = wf
  have hH : wf.heap[w.heap.size + 1]? = some (.cells (fmC ⟨f.v, f.num, f.size, f.sc, f.rc, f.wc, f.mo, S⟩ so sk) 24 (0, 0)) := by rw [<- hwf, drew_heap]; exact set8_a _ _ _ _ _ _ _ _ _ HP8.out.zb
  have hB : Lo w wf := by rw [<- hwf]; exact (set8_b _ _ _ _ _ _ _ _ _ _ (by omega) HP8.out.below).drew
  have hWk : ∀ k, k ≠ w.heap.size + 1 -> wf.heap[k]? = w8.heap[k]? := fun k hk => by rw [<- hwf, drew_heap, set8_d _ _ _ _ _ _ _ _ _ _ hk]
  have hrows : RowsAt wf ro P := (HRW8.out.keep (fun k hk hl => hWk k (fun e => hk (Or.inr e)))).rows
  obtain ⟨so2, sk2, hv, hsubs, hsk⟩ := HRS8.out.subsW HS8.out (W := wf) (fun k hk hl => hWk k (by omega))
  injection hv with hv1 hv2 hv3
  subst hv1 hv3
  have hfm : FmAt wf ⟨f.v, f.num, f.size, f.sc, f.rc, f.wc, f.mo, S⟩ so sk := ⟨hsubs, hsk, hI.1, hI.2.1, hI.2.2.1, hI.2.2.2.1, hI.2.2.2.2.1, hI.2.2.2.2.2⟩
  refine bodyPost_ret (v := .tuple #[.slice ro P.length rk, .agg (fmC ⟨f.v, f.num, f.size, f.sc, f.rc, f.wc, f.mo, S⟩ so sk), .int .i64 ((m : Int) + 2), .int .i64 0]) ?_ rfl ⟨ro, rk, so, sk, by rw [HPL.out], by rw [HPL.out]; exact hrows, hfm, hB⟩
  rw [results_four rfl]
  have hld := run_loadVar_row (P := Tryz.prog) (wf) (w.heap.size + 1) 24 24 (fmC ⟨f.v, f.num, f.size, f.sc, f.rc, f.wc, f.mo, S⟩ so sk) (0, 0) _ hH Tryz.underlying24 rfl info_Frame
  simp [asAddr, Result.andThen, hld]
end Go.Proofs.YtfpfabmbipmipaaGreatDoor
