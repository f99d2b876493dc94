/- Own text. -/
import Derived.Test.YthgpleelpeacjaaGreatDoorH34
set_option linter.unusedSimpArgs false
set_option linter.unusedVariables false
set_option maxRecDepth 20000
set_option maxHeartbeats 12800000
namespace Go.Proofs.YthgpleelpeacjaaGreatDoor
open Go.RowKit
abbrev sizD : List Int := [1, 2, 3, 4, 5, 8, 9, 10, 11, 12, 13, 14, 15, 6, 7]
abbrev ratD : List Int := [1, 2, 3, 4, 5, 6, 7, 8, 9, 10, 11, 12, 13, 14, 0]
abbrev widD : List Int := [1, 2, 4, 5, 6, 0]
theorem fstC_64 (ok : Int → Bool) (x : Int) (D : List Int) (hx : I64 x) (hD : ∀ y ∈ D, I64 y) : I64 (fstC ok x D) := by
 rcases fstC_mem ok x D with h | h
 ·rw [h]; exact hx
 ·exact hD _ h
theorem WR.all {w X : World} {f : Fm} {so : Option Addr} {sk : Nat} {a b c d : Int} {i : Inf} {e : Int} {s : ByteArray} (h : WR w f so sk a b c d i e s X) (f' : Fm) : WR w f' so sk a b c d i e s ((((((((X.setCell ⟨w.heap.size, 0, none⟩ (.bool f'.v)).setCell ⟨w.heap.size, 1, none⟩ (.int .i64 f'.num)).setCell ⟨w.heap.size, 2, none⟩ (.int .i64 f'.size)).setCell ⟨w.heap.size, 3, none⟩ (.int .i64 f'.sc)).setCell ⟨w.heap.size, 4, none⟩ (.int .i64 f'.rc)).setCell ⟨w.heap.size, 5, none⟩ (.int .i64 f'.wc)).setCell ⟨w.heap.size, 6, none⟩ (.int .i64 f'.mo)).setCell ⟨w.heap.size, 7, none⟩ (.slice so f'.S.length sk)) :=
 ⟨set8f_a _ _ _ _ _ _ _ _ _ h.fb, by rw [set8f_d _ _ _ _ _ _ _ _ _ _ (by omega)]; exact h.ib, by rw [set8f_d _ _ _ _ _ _ _ _ _ _ (by omega)]; exact h.rb, set8f_b _ _ _ _ _ _ _ _ _ w (Nat.le_refl _) h.low⟩
theorem z_withCodes (f : Fm) (so : Option Addr) (sk : Nat) (a b c d : Int) (i : Inf) (e : Int) (s : ByteArray) (hr : I64 i.rate) (ok1 ok2 ok3 : Int → Bool) (h1 : ∀ x, ok1 x = true ↔ okC (fSize f x) i) (h2 : ∀ x, ok2 x = true ↔ okC (fRate (fSize f (fstC ok1 f.sc sizD)) x) i) (h3 : ∀ x, ok3 x = true ↔ okC (fWidth (fRate (fSize f (fstC ok1 f.sc sizD)) (fstC ok2 (fSize f (fstC ok1 f.sc sizD)).rc ratD)) x) i) (w : World) (hL : Lay w) (hf : FmAt w f so sk) : Calls Tryz.prog 41 #[fmV f so sk, infV a b c d i e s] w fun en w' => en = .returned (fmV (fWidth (fRate (fSize f (fstC ok1 f.sc sizD)) (fstC ok2 (fSize f (fstC ok1 f.sc sizD)).rc ratD)) (fstC ok3 (fRate (fSize f (fstC ok1 f.sc sizD)) (fstC ok2 (fSize f (fstC ok1 f.sc sizD)).rc ratD)).wc widD)) so sk) ∧ Below w.heap.size w w' := by
 have HR : Hid (I64 i.rate) := hr
 have HL : Hid (Lay w) := hL
 have HO1 : Hid (∀ x, ok1 x = true ↔ okC (fSize f x) i) := h1
 have HO2 : Hid (∀ x, ok2 x = true ↔ okC (fRate (fSize f (fstC ok1 f.sc sizD)) x) i) := h2
 have HO3 : Hid (∀ x, ok3 x = true ↔ okC (fWidth (fRate (fSize f (fstC ok1 f.sc sizD)) (fstC ok2 (fSize f (fstC ok1 f.sc sizD)).rc ratD)) x) i) := h3
 have HF1 : Hid (∀ wx, Below w.heap.size w wx → FmAt wx f so sk) := fun wx hb => ⟨hf.S.below hb, hf.sk_, hf.num, hf.size, hf.sc, hf.rc, hf.wc, hf.mo⟩
 have hc1 : I64 (fstC ok1 f.sc sizD) := fstC_64 ok1 f.sc sizD hf.sc (by decide)
 have hc2 : I64 (fstC ok2 (fSize f (fstC ok1 f.sc sizD)).rc ratD) := fstC_64 ok2 f.rc ratD hf.rc (by decide)
 have HF2 : Hid (∀ wx, Below w.heap.size w wx → FmAt wx (fSize f (fstC ok1 f.sc sizD)) so sk) := fun wx hb => ⟨hf.S.below hb, hf.sk_, hf.num, hf.size, hc1, hf.rc, hf.wc, hf.mo⟩
 have HF3 : Hid (∀ wx, Below w.heap.size w wx → FmAt wx (fRate (fSize f (fstC ok1 f.sc sizD)) (fstC ok2 (fSize f (fstC ok1 f.sc sizD)).rc ratD)) so sk) := fun wx hb => ⟨hf.S.below hb, hf.sk_, hf.num, hf.size, hc1, hc2, hf.wc, hf.mo⟩
 have HW0 : Hid (WR w f so sk a b c d i e s (((w.alloc (.cells (fmC f so sk) 41)).alloc (.cells (infC a b c d i e s) 38)).alloc (.cells #[.bool false, .int .i64 0, .int .i64 0, .int .i64 0, .int .i64 0, .int .i64 0, .int .i64 0, .slice none 0 0] 41))) := WR.new w f so sk a b c d i e s
 clear hr hL h1 h2 h3 hf hc1 hc2
 go_enter Tryz.func41, Tryz.ntmps41
 go_upto_region 1 with fail
 generalize hwa : World.alloc _ _ = wa at *
 clear hwa
 have HW1a : Hid (WR w f so sk a b c d i e s (wa.alloc (.cells #[.int .i64 1, .int .i64 2, .int .i64 3, .int .i64 4, .int .i64 5, .int .i64 8, .int .i64 9, .int .i64 10, .int .i64 11, .int .i64 12, .int .i64 13, .int .i64 14, .int .i64 15, .int .i64 6, .int .i64 7] 3))) := HW0.out.next ((Below.refl _ _).alloc (Nat.le_refl _) _)
 have K1 : Calls Tryz.prog 89 #[fmV f so sk, infV a b c d i e s, .func (.func 90) #[] #[], .slice (some ⟨wa.heap.size, 0, none⟩) 15 15] (wa.alloc (.cells #[.int .i64 1, .int .i64 2, .int .i64 3, .int .i64 4, .int .i64 5, .int .i64 8, .int .i64 9, .int .i64 10, .int .i64 11, .int .i64 12, .int .i64 13, .int .i64 14, .int .i64 15, .int .i64 6, .int .i64 7] 3)) fun en w' => en = .returned (fmV (fSize f (fstC ok1 f.sc sizD)) so sk) ∧ Below (wa.alloc (.cells #[.int .i64 1, .int .i64 2, .int .i64 3, .int .i64 4, .int .i64 5, .int .i64 8, .int .i64 9, .int .i64 10, .int .i64 11, .int .i64 12, .int .i64 13, .int .i64 14, .int .i64 15, .int .i64 6, .int .i64 7] 3)).heap.size (wa.alloc (.cells #[.int .i64 1, .int .i64 2, .int .i64 3, .int .i64 4, .int .i64 5, .int .i64 8, .int .i64 9, .int .i64 10, .int .i64 11, .int .i64 12, .int .i64 13, .int .i64 14, .int .i64 15, .int .i64 6, .int .i64 7] 3)) w' := z_rightSize f so sk a b c d i e s HR.out sizD (by decide) ok1 HO1.out (some ⟨wa.heap.size, 0, none⟩) 15 _ (HL.out.below HW1a.out.low) (HF1.out _ HW1a.out.low) (ints_new wa sizD (by decide) (by decide))
 obtain ⟨z0, z1, z2, z3, z4, z5, z6, z7⟩ := fm_cells HW0.out.fb
 obtain ⟨i0, i1, i2, i3, i4, i5, i6, i7, i8⟩ := inf_cells HW0.out.ib
 go_wp2_with fail
 refine K1.mono ?_
 rintro en w1 ⟨rfl, hb1⟩
 have HW1b : Hid (WR w f so sk a b c d i e s w1) := HW1a.out.next hb1
 clear K1 hb1 HW1a HW0 z0 z1 z2 z3 z4 z5 z6 z7 i0 i1 i2 i3 i4 i5 i6 i7 i8
 obtain ⟨z0, z1, z2, z3, z4, z5, z6, z7⟩ := fm_cells HW1b.out.fb
 have fz0 := row_frozen HW1b.out.fb 0
 have fz1 := row_frozen HW1b.out.fb 1
 have fz2 := row_frozen HW1b.out.fb 2
 have fz3 := row_frozen HW1b.out.fb 3
 have fz4 := row_frozen HW1b.out.fb 4
 have fz5 := row_frozen HW1b.out.fb 5
 have fz6 := row_frozen HW1b.out.fb 6
 have fz7 := row_frozen HW1b.out.fb 7
 have HW1 : Hid (WR w (fSize f (fstC ok1 f.sc sizD)) so sk a b c d i e s ((((((((w1.setCell ⟨w.heap.size, 0, none⟩ (.bool (fSize f (fstC ok1 f.sc sizD)).v)).setCell ⟨w.heap.size, 1, none⟩ (.int .i64 (fSize f (fstC ok1 f.sc sizD)).num)).setCell ⟨w.heap.size, 2, none⟩ (.int .i64 (fSize f (fstC ok1 f.sc sizD)).size)).setCell ⟨w.heap.size, 3, none⟩ (.int .i64 (fSize f (fstC ok1 f.sc sizD)).sc)).setCell ⟨w.heap.size, 4, none⟩ (.int .i64 (fSize f (fstC ok1 f.sc sizD)).rc)).setCell ⟨w.heap.size, 5, none⟩ (.int .i64 (fSize f (fstC ok1 f.sc sizD)).wc)).setCell ⟨w.heap.size, 6, none⟩ (.int .i64 (fSize f (fstC ok1 f.sc sizD)).mo)).setCell ⟨w.heap.size, 7, none⟩ (.slice so (fSize f (fstC ok1 f.sc sizD)).S.length sk))) := HW1b.out.all (fSize f (fstC ok1 f.sc sizD))
 go_upto_region 2 with fail
 generalize hws : World.setCell _ _ _ = w1c at *
 clear hws HW1b z0 z1 z2 z3 z4 z5 z6 z7 fz0 fz1 fz2 fz3 fz4 fz5 fz6 fz7
 have HW2a : Hid (WR w (fSize f (fstC ok1 f.sc sizD)) so sk a b c d i e s (w1c.alloc (.cells #[.int .i64 1, .int .i64 2, .int .i64 3, .int .i64 4, .int .i64 5, .int .i64 6, .int .i64 7, .int .i64 8, .int .i64 9, .int .i64 10, .int .i64 11, .int .i64 12, .int .i64 13, .int .i64 14, .int .i64 0] 3))) := HW1.out.next ((Below.refl _ _).alloc (Nat.le_refl _) _)
 have K2 : Calls Tryz.prog 89 #[fmV (fSize f (fstC ok1 f.sc sizD)) so sk, infV a b c d i e s, .func (.func 91) #[] #[], .slice (some ⟨w1c.heap.size, 0, none⟩) 15 15] (w1c.alloc (.cells #[.int .i64 1, .int .i64 2, .int .i64 3, .int .i64 4, .int .i64 5, .int .i64 6, .int .i64 7, .int .i64 8, .int .i64 9, .int .i64 10, .int .i64 11, .int .i64 12, .int .i64 13, .int .i64 14, .int .i64 0] 3)) fun en w' => en = .returned (fmV (fRate (fSize f (fstC ok1 f.sc sizD)) (fstC ok2 (fSize f (fstC ok1 f.sc sizD)).rc ratD)) so sk) ∧ Below (w1c.alloc (.cells #[.int .i64 1, .int .i64 2, .int .i64 3, .int .i64 4, .int .i64 5, .int .i64 6, .int .i64 7, .int .i64 8, .int .i64 9, .int .i64 10, .int .i64 11, .int .i64 12, .int .i64 13, .int .i64 14, .int .i64 0] 3)).heap.size (w1c.alloc (.cells #[.int .i64 1, .int .i64 2, .int .i64 3, .int .i64 4, .int .i64 5, .int .i64 6, .int .i64 7, .int .i64 8, .int .i64 9, .int .i64 10, .int .i64 11, .int .i64 12, .int .i64 13, .int .i64 14, .int .i64 0] 3)) w' := z_rightRate (fSize f (fstC ok1 f.sc sizD)) so sk a b c d i e s HR.out ratD (by decide) ok2 HO2.out (some ⟨w1c.heap.size, 0, none⟩) 15 _ (HL.out.below HW2a.out.low) (HF2.out _ HW2a.out.low) (ints_new w1c ratD (by decide) (by decide))
 obtain ⟨z0, z1, z2, z3, z4, z5, z6, z7⟩ := fm_cells HW1.out.fb
 obtain ⟨i0, i1, i2, i3, i4, i5, i6, i7, i8⟩ := inf_cells HW1.out.ib
 go_wp2_with fail
 refine K2.mono ?_
 rintro en w2 ⟨rfl, hb2⟩
 have HW2b : Hid (WR w (fSize f (fstC ok1 f.sc sizD)) so sk a b c d i e s w2) := HW2a.out.next hb2
 clear K2 hb2 HW2a HW1 z0 z1 z2 z3 z4 z5 z6 z7 i0 i1 i2 i3 i4 i5 i6 i7 i8
 obtain ⟨z0, z1, z2, z3, z4, z5, z6, z7⟩ := fm_cells HW2b.out.fb
 have fz0 := row_frozen HW2b.out.fb 0
 have fz1 := row_frozen HW2b.out.fb 1
 have fz2 := row_frozen HW2b.out.fb 2
 have fz3 := row_frozen HW2b.out.fb 3
 have fz4 := row_frozen HW2b.out.fb 4
 have fz5 := row_frozen HW2b.out.fb 5
 have fz6 := row_frozen HW2b.out.fb 6
 have fz7 := row_frozen HW2b.out.fb 7
 have HW2 : Hid (WR w (fRate (fSize f (fstC ok1 f.sc sizD)) (fstC ok2 (fSize f (fstC ok1 f.sc sizD)).rc ratD)) so sk a b c d i e s ((((((((w2.setCell ⟨w.heap.size, 0, none⟩ (.bool (fRate (fSize f (fstC ok1 f.sc sizD)) (fstC ok2 (fSize f (fstC ok1 f.sc sizD)).rc ratD)).v)).setCell ⟨w.heap.size, 1, none⟩ (.int .i64 (fRate (fSize f (fstC ok1 f.sc sizD)) (fstC ok2 (fSize f (fstC ok1 f.sc sizD)).rc ratD)).num)).setCell ⟨w.heap.size, 2, none⟩ (.int .i64 (fRate (fSize f (fstC ok1 f.sc sizD)) (fstC ok2 (fSize f (fstC ok1 f.sc sizD)).rc ratD)).size)).setCell ⟨w.heap.size, 3, none⟩ (.int .i64 (fRate (fSize f (fstC ok1 f.sc sizD)) (fstC ok2 (fSize f (fstC ok1 f.sc sizD)).rc ratD)).sc)).setCell ⟨w.heap.size, 4, none⟩ (.int .i64 (fRate (fSize f (fstC ok1 f.sc sizD)) (fstC ok2 (fSize f (fstC ok1 f.sc sizD)).rc ratD)).rc)).setCell ⟨w.heap.size, 5, none⟩ (.int .i64 (fRate (fSize f (fstC ok1 f.sc sizD)) (fstC ok2 (fSize f (fstC ok1 f.sc sizD)).rc ratD)).wc)).setCell ⟨w.heap.size, 6, none⟩ (.int .i64 (fRate (fSize f (fstC ok1 f.sc sizD)) (fstC ok2 (fSize f (fstC ok1 f.sc sizD)).rc ratD)).mo)).setCell ⟨w.heap.size, 7, none⟩ (.slice so (fRate (fSize f (fstC ok1 f.sc sizD)) (fstC ok2 (fSize f (fstC ok1 f.sc sizD)).rc ratD)).S.length sk))) := HW2b.out.all (fRate (fSize f (fstC ok1 f.sc sizD)) (fstC ok2 (fSize f (fstC ok1 f.sc sizD)).rc ratD))
 go_upto_region 3 with fail
 generalize hws : World.setCell _ _ _ = w2c at *
 clear hws HW2b z0 z1 z2 z3 z4 z5 z6 z7 fz0 fz1 fz2 fz3 fz4 fz5 fz6 fz7
 have HW3a : Hid (WR w (fRate (fSize f (fstC ok1 f.sc sizD)) (fstC ok2 (fSize f (fstC ok1 f.sc sizD)).rc ratD)) so sk a b c d i e s (w2c.alloc (.cells #[.int .i64 1, .int .i64 2, .int .i64 4, .int .i64 5, .int .i64 6, .int .i64 0] 3))) := HW2.out.next ((Below.refl _ _).alloc (Nat.le_refl _) _)
 have K3 : Calls Tryz.prog 89 #[fmV (fRate (fSize f (fstC ok1 f.sc sizD)) (fstC ok2 (fSize f (fstC ok1 f.sc sizD)).rc ratD)) so sk, infV a b c d i e s, .func (.func 92) #[] #[], .slice (some ⟨w2c.heap.size, 0, none⟩) 6 6] (w2c.alloc (.cells #[.int .i64 1, .int .i64 2, .int .i64 4, .int .i64 5, .int .i64 6, .int .i64 0] 3)) fun en w' => en = .returned (fmV (fWidth (fRate (fSize f (fstC ok1 f.sc sizD)) (fstC ok2 (fSize f (fstC ok1 f.sc sizD)).rc ratD)) (fstC ok3 (fRate (fSize f (fstC ok1 f.sc sizD)) (fstC ok2 (fSize f (fstC ok1 f.sc sizD)).rc ratD)).wc widD)) so sk) ∧ Below (w2c.alloc (.cells #[.int .i64 1, .int .i64 2, .int .i64 4, .int .i64 5, .int .i64 6, .int .i64 0] 3)).heap.size (w2c.alloc (.cells #[.int .i64 1, .int .i64 2, .int .i64 4, .int .i64 5, .int .i64 6, .int .i64 0] 3)) w' := z_rightWidth (fRate (fSize f (fstC ok1 f.sc sizD)) (fstC ok2 (fSize f (fstC ok1 f.sc sizD)).rc ratD)) so sk a b c d i e s HR.out widD (by decide) ok3 HO3.out (some ⟨w2c.heap.size, 0, none⟩) 6 _ (HL.out.below HW3a.out.low) (HF3.out _ HW3a.out.low) (ints_new w2c widD (by decide) (by decide))
 obtain ⟨z0, z1, z2, z3, z4, z5, z6, z7⟩ := fm_cells HW2.out.fb
 obtain ⟨i0, i1, i2, i3, i4, i5, i6, i7, i8⟩ := inf_cells HW2.out.ib
 go_wp2_with fail
 refine K3.mono ?_
 rintro en w3 ⟨rfl, hb3⟩
 have HW3b : Hid (WR w (fRate (fSize f (fstC ok1 f.sc sizD)) (fstC ok2 (fSize f (fstC ok1 f.sc sizD)).rc ratD)) so sk a b c d i e s w3) := HW3a.out.next hb3
 clear K3 hb3 HW3a HW2 z0 z1 z2 z3 z4 z5 z6 z7 i0 i1 i2 i3 i4 i5 i6 i7 i8
 obtain ⟨z0, z1, z2, z3, z4, z5, z6, z7⟩ := fm_cells HW3b.out.fb
 obtain ⟨u0, u1, u2, u3, u4, u5, u6, u7⟩ := zf_cells HW3b.out.rb
 have fz0 := row_frozen HW3b.out.rb 0
 have fz1 := row_frozen HW3b.out.rb 1
 have fz2 := row_frozen HW3b.out.rb 2
 have fz3 := row_frozen HW3b.out.rb 3
 have fz4 := row_frozen HW3b.out.rb 4
 have fz5 := row_frozen HW3b.out.rb 5
 have fz6 := row_frozen HW3b.out.rb 6
 have fz7 := row_frozen HW3b.out.rb 7
 go_wp2_with fail
 generalize hwf : World.setCell _ _ _ = wf
 have hrow : wf.heap[w.heap.size + 2]? = some (.cells (fmC (fWidth (fRate (fSize f (fstC ok1 f.sc sizD)) (fstC ok2 (fSize f (fstC ok1 f.sc sizD)).rc ratD)) (fstC ok3 (fRate (fSize f (fstC ok1 f.sc sizD)) (fstC ok2 (fSize f (fstC ok1 f.sc sizD)).rc ratD)).wc widD)) so sk) 41 (0, 0)) := by rw [← hwf]; exact set8f_a _ _ _ _ _ _ _ _ _ HW3b.out.rb
 have hbel : Below w.heap.size w wf := by rw [← hwf]; exact set8f_b _ _ _ _ _ _ _ _ _ w (by omega) HW3b.out.low
 refine bodyPost_ret (v := .agg (fmC (fWidth (fRate (fSize f (fstC ok1 f.sc sizD)) (fstC ok2 (fSize f (fstC ok1 f.sc sizD)).rc ratD)) (fstC ok3 (fRate (fSize f (fstC ok1 f.sc sizD)) (fstC ok2 (fSize f (fstC ok1 f.sc sizD)).rc ratD)).wc widD)) so sk)) ?_ rfl ⟨rfl, hbel⟩
 rw [results_one rfl]
 have hld := run_loadVar_row (P := Tryz.prog) (wf) (w.heap.size + 2) 41 41 (fmC (fWidth (fRate (fSize f (fstC ok1 f.sc sizD)) (fstC ok2 (fSize f (fstC ok1 f.sc sizD)).rc ratD)) (fstC ok3 (fRate (fSize f (fstC ok1 f.sc sizD)) (fstC ok2 (fSize f (fstC ok1 f.sc sizD)).rc ratD)).wc widD)) so sk) (0, 0) _ hrow Tryz.underlying41 rfl info_Frame12
 simp [asAddr, Result.andThen, hld]
def sbC (x : Cd) : List Value := (subC x.q x.ca x.cc x.pa x.pc x.ea x.ec).toList
def rowS (L : List Cd) : List Value := L.flatMap sbC
theorem rowS_app (L M : List Cd) : rowS (L ++ M) = rowS L ++ rowS M := by unfold rowS; rw [List.flatMap_append]
theorem rowS_one (e : Cd) : rowS [e] = sbC e := by simp [rowS]
theorem sbC_len (e : Cd) : (sbC e).length = 10 := rfl
theorem rowS_get (L : List Cd) (j i : Nat) (e : Cd) (hj : L[j]? = some e) (hi : i < 10) : (rowS L)[j * 10 + i]? = (sbC e)[i]? := by
 induction L generalizing j with
 | nil => cases hj
 | cons x t ih =>
  have hx : rowS (x :: t) = sbC x ++ rowS t := by simp [rowS]
  rw [hx]
  cases j with
  | zero =>
   rw [List.getElem?_cons_zero] at hj
   cases hj
   rw [Nat.zero_mul, Nat.zero_add, List.getElem?_append_left (by rw [sbC_len]; exact hi)]
  | succ j =>
   rw [List.getElem?_cons_succ] at hj
   rw [List.getElem?_append_right (by rw [sbC_len]; omega), sbC_len, show (j + 1) * 10 + i - 10 = j * 10 + i by omega]
   exact ih j hj
theorem own_set {N g : Nat} {e : TypeId} {z : Nat} {v : Value} {n : Nat} {xs : List Value} {w : World} (h : w.ownsRow N e z v n xs) (hg : g < N) (i : Nat) (u : Value) : (w.setCell ⟨g, i, none⟩ u).ownsRow N e z v n xs := by
 have hb : Below w.heap.size w w := Below.refl _ _
 refine h.kept (row := some g) ⟨rfl, rfl, rfl, by simp, fun k hk hne => Below.heap_setCell _ _ _ k (fun e => hne (by rw [e]))⟩ ?_
 cases e2 : v.ownBlock with
 | none => exact .inl rfl
 | some k => exact .inr (fun e3 => by have := (h.lt k e2).1; cases e3; omega)
structure JnX (w : World) (mo : Int) (v : Value) (n : Nat) (M : List Cd) (X : World) : Prop where
 res : X.heap[w.heap.size]? = some (.cells #[.int .i64 0, .slice none 0 0, .int .i64 0] 63 (0, 0))
 all : X.heap[w.heap.size + 1]? = some (.cells #[.int .i64 mo, v, .int .i64 (n : Int)] 63 (0, 0))
 own : X.ownsRow (w.heap.size + 2) 27 10 v M.length (rowS M)
 low : Below w.heap.size w X
section
variable {w X X' w1 : World} {mo : Int} {v : Value} {n : Nat} {M : List Cd}
theorem JnX.next (h : JnX w mo v n M X) (hb : Below X.heap.size X X') : JnX w mo v n M X' :=
 ⟨by rw [hb.block _ (lt_of_block h.res)]; exact h.res, by rw [hb.block _ (lt_of_block h.all)]; exact h.all, own_low h.own hb, h.low.trans (hb.mono h.low.size)⟩
theorem JnX.new (w : World) (mo : Int) : JnX w mo (.slice none 0 0) 0 [] ((w.alloc (.cells #[.int .i64 0, .slice none 0 0, .int .i64 0] 63)).alloc (.cells #[.int .i64 mo, .slice none 0 0, .int .i64 ((0 : Nat) : Int)] 63)) := by
 refine ⟨heap_two _ _ _, ?_, World.ownsRow_nil _ _ _ _, ((Below.refl _ _).alloc (Nat.le_refl _) _).alloc (by simp) _⟩
 have hh := heap_alloc_new (w.alloc (.cells #[.int .i64 0, .slice none 0 0, .int .i64 0] 63)) (.cells #[.int .i64 mo, .slice none 0 0, .int .i64 ((0 : Nat) : Int)] 63)
 rw [show (w.alloc (.cells #[.int .i64 0, .slice none 0 0, .int .i64 0] 63)).heap.size = w.heap.size + 1 from by simp] at hh
 exact hh
theorem JnX.shape (h : JnX w mo v n M X) : ∃ ao cap, v = .slice ao M.length cap := by
 obtain ⟨ao, cap, h1, _⟩ := owns_shape h.own
 exact ⟨ao, cap, h1⟩
theorem JnX.grown (h : JnX w mo v n M X) (hg : X.grownBy w1 v.ownBlock) : w1.heap[w.heap.size]? = some (.cells #[.int .i64 0, .slice none 0 0, .int .i64 0] 63 (0, 0)) ∧ w1.heap[w.heap.size + 1]? = some (.cells #[.int .i64 mo, v, .int .i64 (n : Int)] 63 (0, 0)) ∧ Below w.heap.size w w1 := by
 refine ⟨?_, ?_, h.low.trans ⟨hg.os, hg.tape, hg.output, hg.size, fun k hk => hg.block k (by have := h.low.size; omega) (fun e => by have := (h.own.lt k e.symm).1; omega)⟩⟩
 ·rw [hg.block _ (lt_of_block h.res) (fun e => by have := (h.own.lt _ e.symm).1; omega)]; exact h.res
 ·rw [hg.block _ (lt_of_block h.all) (fun e => by have := (h.own.lt _ e.symm).1; omega)]; exact h.all
theorem JnX.store {v' : Value} {x : Cd} {n' : Nat} {ni : Int} (hni : ni = (n' : Int)) (h1 : w1.heap[w.heap.size]? = some (.cells #[.int .i64 0, .slice none 0 0, .int .i64 0] 63 (0, 0)) ∧ w1.heap[w.heap.size + 1]? = some (.cells #[.int .i64 mo, v, .int .i64 (n : Int)] 63 (0, 0)) ∧ Below w.heap.size w w1) (ho : w1.ownsRow (w.heap.size + 2) 27 10 v' (M.length + 1) (rowS M ++ sbC x)) : JnX w mo v' n' (M ++ [x]) ((w1.setCell ⟨w.heap.size + 1, 1, none⟩ v').setCell ⟨w.heap.size + 1, 2, none⟩ (.int .i64 ni)) := by
 subst hni
 refine ⟨?_, ?_, ?_, (h1.2.2.setCell (by show w.heap.size ≤ w.heap.size + 1; omega) _).setCell (by show w.heap.size ≤ w.heap.size + 1; omega) _⟩
 ·rw [Below.heap_setCell _ _ _ _ (by show w.heap.size ≠ w.heap.size + 1; omega), Below.heap_setCell _ _ _ _ (by show w.heap.size ≠ w.heap.size + 1; omega)]; exact h1.1
 ·rw [block_setCell _ _ _ _ _ _ (block_setCell _ _ _ _ _ _ h1.2.1)]
  simp only [List.setIfInBounds_toArray, List.set_cons_zero, List.set_cons_succ]
 ·have e : rowS (M ++ [x]) = rowS M ++ sbC x := by rw [rowS_app, rowS_one]
  rw [e, List.length_append]
  exact own_set (own_set ho (by omega) _ _) (by omega) _ _
end
theorem sb_one (x : Cd) : ∀ u ∈ sbC x, u.oneCell' = true := fun u hu => by
 unfold sbC at hu
 simp at hu
 rcases hu with h | h | h | h | h | h | h | h | h | h <;> (rw [h]; rfl)
def JoP (mo : Int) (L : List Cd) (n : Nat) (w : World) (e : Ending) (w' : World) : Prop := ∃ oa oc, e = .returned (.agg #[.int .i64 mo, .slice oa L.length oc, .int .i64 (n : Int)]) ∧ w'.ownsRow (w.heap.size + 2) 27 10 (.slice oa L.length oc) L.length (rowS L) ∧ Below w.heap.size w w'
theorem z_joined (mo : Int) (L : List Cd) (hL : L.length ≤ 1000) (SN : Nat → Nat) (hS0 : SN 0 = 0) (hSU : ∀ i x, L[i]? = some x → SN (i + 1) = SN i + x.n) (hSB : ∀ i, SN i ≤ 1000000000000000) (so : Option Addr) (b off cap : Nat) (hso : 0 < L.length → so = some ⟨b, off, none⟩) (w : World) (hw : CdsAt w b off L) (hat : ∀ x ∈ L, CdAt w x) : Calls Tryz.prog 88 #[.int .i64 mo, .slice so L.length cap] w (JoP mo L (SN L.length) w) := by
 obtain ⟨iS, hSa, hSb, hSc, hSd⟩ := sub_info12
 have HW : Hid (∀ wx, Below w.heap.size w wx → CdsAt wx b off L) := fun wx hb => hw.below hb
 have HAT : Hid (∀ i x, L[i]? = some x → Hid (CdAt w x) ∧ True) := fun i x hx => ⟨hat x (by obtain ⟨h1, h2⟩ := List.getElem?_eq_some_iff.1 hx; rw [← h2]; exact List.getElem_mem h1), trivial⟩
 have HSU : Hid (∀ i x, L[i]? = some x → SN (i + 1) = SN i + x.n) := hSU
 have HSB : Hid (∀ i, SN i ≤ 1000000000000000) := hSB
 have HSO : Hid (0 < L.length → so = some ⟨b, off, none⟩) := hso
 have HA : Hid (JnX w mo (.slice none 0 0) (SN 0) (L.take 0) ((w.alloc (.cells #[.int .i64 0, .slice none 0 0, .int .i64 0] 63)).alloc (.cells #[.int .i64 mo, .slice none 0 0, .int .i64 ((0 : Nat) : Int)] 63))) := by rw [hS0]; exact JnX.new w mo
 clear hw hat hSU hSB hso hS0
 go_enter Tryz.func88, Tryz.ntmps88
 go_upto_region 2 with fail
 generalize hwa : World.alloc _ _ = wa at *
 clear hwa
 go_wp2_with fail
 go_loopw [7, 12] (fun s7 s12 wr => ∃ (i : Nat) (v : Value), i ≤ L.length ∧ s12 = .int .i64 (i : Int) ∧ JnX w mo v (SN i) (L.take i) wr) (fun _ s12 _ => L.length - (intOf s12).toNat)
 case atStart => exact ⟨0, _, Nat.zero_le _, rfl, HA.out⟩
 case round =>
  clear HA
  obtain ⟨i, v, hi, rfl, hjx⟩ := hrel
  obtain ⟨oa, oc, hv⟩ := hjx.shape
  subst hv
  have HJ : Hid (JnX w mo (.slice oa (L.take i).length oc) (SN i) (L.take i) wr) := hjx
  clear hjx
  by_cases hlt : i < L.length
  ·obtain ⟨x, hx⟩ : ∃ x, L[i]? = some x := ⟨_, List.getElem?_eq_getElem hlt⟩
   have HTK : Hid (L.take (i + 1) = L.take i ++ [x]) := by show _ = _; rw [List.take_add_one, hx]; rfl
   obtain ⟨d0, d1, d2⟩ := HW.out wr HJ.out.low i x hx
   obtain ⟨HX, hxb⟩ := HAT.out i x hx
   have HSN : Hid (SN (i + 1) = SN i + x.n) := HSU.out i x hx
   have hs1 := HSB.out i
   have hs2 := HSB.out (i + 1)
   rw [HSN.out] at hs2
   have hTl : (L.take i).length ≤ 1000 := by rw [List.length_take]; omega
   clear hx
   generalize hMM : L.take i = M at *
   clear hMM
   generalize SN i = N0 at *
   have HJa : Hid (JnX w mo (.slice oa M.length oc) N0 M (wr.alloc (.cells #[.int .i64 0, .slice (some ⟨x.g, 0, none⟩) 1 1, .int .i64 (x.n : Int)] 63))) := HJ.out.next ((Below.refl _ _).alloc (Nat.le_refl _) _)
   have HC : Hid ((wr.alloc (.cells #[.int .i64 0, .slice (some ⟨x.g, 0, none⟩) 1 1, .int .i64 (x.n : Int)] 63)).heap[wr.heap.size]? = some (.cells #[.int .i64 0, .slice (some ⟨x.g, 0, none⟩) 1 1, .int .i64 (x.n : Int)] 63 (0, 0))) := heap_alloc_new _ _
   have HOC0 : Hid (¬ some wr.heap.size = Value.ownBlock (.slice oa M.length oc)) := fun e => by have := (HJ.out.own.lt _ e.symm).2; omega
   have HNG : Hid (¬ wr.heap.size = w.heap.size + 1) := fun e => by have := lt_of_block HJ.out.all; omega
   have hso := HSO.out (by omega)
   subst hso
   clear HJ
   go_upto_region 5 with fail
   generalize hwc : World.alloc _ _ = wc at *
   generalize hgc : wr.heap.size = gc at *
   clear hwc hgc d0 d1 d2
   obtain ⟨y0, y1, y2⟩ := cod_cells HC.out
   obtain ⟨z0, z1, z2⟩ := cod_cells HJa.out.all
   have HOC : Hid (¬ some gc = Value.ownBlock (.slice oa M.length oc)) := HOC0.out
   have HBX : Hid (wc.heap[x.g]? = some (.cells (subC x.q x.ca x.cc x.pa x.pc x.ea x.ec) 27 (0, 0))) := (HX.out.below HJa.out.low).box
   go_wp2_with ((at_builtin; refine wpList_append_lies _ rfl (.tmp 17) (.tmp 19) 39 rfl (w.heap.size + 2) 27 iS (.agg (subC ⟨0, 0, 0, 0, 0, [], R00⟩ none 0 none 0 none 0)) 10 128 undSubs12 hSa hSb hSc hSd rfl (by decide) (.slice oa M.length oc) M.length (rowS M) rfl HJa.out.own ⟨x.g, 0, none⟩ 1 1 (sbC x) rfl rfl (World.news_of_block (cs := (subC x.q x.ca x.cc x.pa x.pc x.ea x.ec)) (t := 27) (fr := (0, 0)) HBX.out) (sb_one x) (by decide) (by unfold maxLen; omega) (by omega) (by have := lt_of_block HJa.out.all; omega) _ rfl ?_; intro gA cA wA ownA groA hatA hltA; have HG : Hid (wA.heap[w.heap.size]? = some (.cells #[.int .i64 0, .slice none 0 0, .int .i64 0] 63 (0, 0)) ∧ wA.heap[w.heap.size + 1]? = some (.cells #[.int .i64 mo, .slice oa M.length oc, .int .i64 (N0 : Int)] 63 (0, 0)) ∧ Below w.heap.size w wA) := HJa.out.grown groA; have HCA : Hid (wA.heap[gc]? = some (.cells #[.int .i64 0, .slice (some ⟨x.g, 0, none⟩) 1 1, .int .i64 (x.n : Int)] 63 (0, 0))) := (by show _ = _; rw [groA.block _ (lt_of_block HC.out) (fun e => HOC.out e)]; exact HC.out); have HJ2 : Hid (JnX w mo (.slice (some ⟨gA, 0, none⟩) (M.length + 1) cA) (N0 + x.n) (M ++ [x]) ((wA.setCell ⟨w.heap.size + 1, 1, none⟩ (.slice (some ⟨gA, 0, none⟩) (M.length + 1) cA)).setCell ⟨w.heap.size + 1, 2, none⟩ (.int .i64 ((N0 : Int) + (x.n : Int))))) := JnX.store (by omega) HG.out ownA; clear y0 y1 y2 z0 z1 z2 ownA groA hatA hltA HBX; obtain ⟨y0, y1, y2⟩ := cod_cells HCA.out; obtain ⟨z0, z1, z2⟩ := cod_cells HG.out.2.1; have fz1 := row_frozen HG.out.2.1 1; have fz2 := row_frozen HG.out.2.1 2; have hne : ¬ gc = w.heap.size + 1 := HNG.out; have hne2 : ¬ w.heap.size + 1 = gc := fun e => HNG.out e.symm))
   go_roundw
   case rel => exact ⟨i + 1, _, by omega, by go_num, by rw [HTK.out, HSN.out]; exact HJ2.out⟩
   case measure => simp [intOf]; omega
  ·have hil : i = L.length := by omega
   have HEE : Hid (L.take i = L) := by show _ = _; rw [hil, List.take_length]
   have HSE : Hid (SN i = SN L.length) := by show _ = _; rw [hil]
   clear hil
   rw [HEE.out, HSE.out] at HJ
   obtain ⟨z0, z1, z2⟩ := cod_cells HJ.out.all
   obtain ⟨u0, u1, u2⟩ := cod_cells HJ.out.res
   have fz0 := row_frozen HJ.out.res 0
   have fz1 := row_frozen HJ.out.res 1
   have fz2 := row_frozen HJ.out.res 2
   go_wp2_with fail
   generalize hwf : World.setCell _ _ _ = wf
   have hrow : wf.heap[w.heap.size]? = some (.cells #[.int .i64 mo, .slice oa L.length oc, .int .i64 (SN L.length : Int)] 63 (0, 0)) := by rw [← hwf]; exact s3c_a _ _ _ _ HJ.out.res
   have hbel : Below w.heap.size w wf := by rw [← hwf]; exact s3c_b _ _ _ _ w (Nat.le_refl _) HJ.out.low
   have hown : wf.ownsRow (w.heap.size + 2) 27 10 (.slice oa L.length oc) L.length (rowS L) := by rw [← hwf]; exact own_set (own_set (own_set HJ.out.own (by omega) _ _) (by omega) _ _) (by omega) _ _
   refine bodyPost_ret (v := .agg #[.int .i64 mo, .slice oa L.length oc, .int .i64 (SN L.length : Int)]) ?_ rfl ⟨oa, oc, rfl, hown, hbel⟩
   rw [results_one rfl]
   have hld := run_loadVar_row (P := Tryz.prog) (wf) (w.heap.size) 63 63 #[.int .i64 mo, .slice oa L.length oc, .int .i64 (SN L.length : Int)] (0, 0) _ hrow Tryz.underlying63 rfl info_coding
   simp [asAddr, Result.andThen, hld]
def CdOf (lv v : Int) (P : List (List Int)) (L : List Cd) : Prop := ∀ j x, L[j]? = some x → sbR lv v (P.getD j []) = some (x.q, x.n)
def SubsFr (n : Nat) (X : World) (so : Option Addr) (S : List Sb) : Prop := ∀ X' : World, (∀ k, n ≤ k → k < X.heap.size → X'.heap[k]? = X.heap[k]?) → SubsAt X' so S
theorem ints_fr {X X' : World} {n : Nat} {a : Option Addr} {l : List Int} (h : IntsAt X a l) (ho : 0 < l.length → ∀ b, blockOf a = some b → n ≤ b) (hk : ∀ k, n ≤ k → k < X.heap.size → X'.heap[k]? = X.heap[k]?) : IntsAt X' a l := by
 refine ⟨h.len, h.num, fun h0 => ?_⟩
 obtain ⟨b, off, e, hc⟩ := h.lies h0
 refine ⟨b, off, e, fun j hj => ?_⟩
 rw [World.cell?_of_block (w := X) (hk b (ho h0 b (by rw [e]; rfl)) (lt_cell (hc j hj)))]
 exact hc j hj
def ChP (lv v : Int) (P : List (List Int)) (w : World) (e : Ending) (w' : World) : Prop := ∃ (L : List Cd) (n : Nat) (oa : Option Addr) (oc : Nat), L.length = P.length ∧ CdOf lv v P L ∧ e = .returned (.agg #[.int .i64 0, .slice oa L.length oc, .int .i64 (n : Int)]) ∧ SubsFr w.heap.size w' oa (L.map (·.q)) ∧ (L.length ≤ oc ∧ (oa = none → oc = 0)) ∧ Below w.heap.size w w'
theorem rows_at {w : World} {ro : Option Addr} {P : List (List Int)} (h : RowsAt w ro P) (i : Nat) (hi : i < P.length) : ∃ b off a c, ro = some ⟨b, off, none⟩ ∧ w.cell? ⟨b, off + i, none⟩ = some (.slice a (P.getD i []).length c) ∧ ((P.getD i []).length ≤ c ∧ (a = none → c = 0)) ∧ IntsAt w a (P.getD i []) := by
 obtain ⟨b, off, e, hc⟩ := h.lies (by omega)
 obtain ⟨a, c, h1, h2, h3, h4⟩ := hc i hi
 exact ⟨b, off, a, c, e, h1, ⟨h2, h3⟩, h4⟩
theorem jo_subs {X : World} {L : List Cd} {oa : Option Addr} {oc n0 n : Nat} (ho : X.ownsRow n0 27 10 (.slice oa L.length oc) L.length (rowS L)) (hn : n ≤ n0) (hL : L.length ≤ 1000) (hat : ∀ x ∈ L, CdAt X x ∧ FrC n x) : SubsFr n X oa (L.map (·.q)) ∧ (L.length ≤ oc ∧ (oa = none → oc = 0)) := by
 rcases ho.2 with ⟨hv, _⟩ | ⟨g', cap', cur, hv, hge, hg, hle, _, _, ht⟩
 ·obtain ⟨e1, e2, e3⟩ : oa = none ∧ L.length = 0 ∧ oc = 0 := by simpa using hv
  refine ⟨fun X' hX => ⟨by rw [List.length_map]; omega, fun h0 => ?_⟩, by omega, fun _ => e3⟩
  rw [List.length_map] at h0
  omega
 ·obtain ⟨e1, e3⟩ : oa = some ⟨g', 0, none⟩ ∧ oc = cap' := by simpa using hv
  subst e1 e3
  refine ⟨fun X' hX => ⟨by rw [List.length_map]; omega, fun h0 => ⟨g', 0, rfl, fun c hc => ?_⟩⟩, hle, fun e => by cases e⟩
  rw [List.length_map] at hc
  obtain ⟨x, hx⟩ : ∃ x, L[c]? = some x := ⟨_, List.getElem?_eq_getElem hc⟩
  have hxm : x ∈ L := by
   obtain ⟨h1, h2⟩ := List.getElem?_eq_some_iff.1 hx
   rw [← h2]; exact List.getElem_mem h1
  have hq : (L.map (·.q)).getD c Sb0 = x.q := by rw [List.getD_eq_getElem?_getD, List.getElem?_map, hx]; rfl
  obtain ⟨h1, h2⟩ := hat x hxm
  have hg' : X'.heap[g']? = some (.cells cur 27 (0, 0)) := by rw [hX g' (by omega) (lt_of_block hg)]; exact hg
  have hcell : ∀ i, i < 10 → X'.cell? ⟨g', c * 10 + i, none⟩ = (sbC x)[i]? := fun i hi => by
   rw [cell_of_row _ _ _ _ _ _ hg', ← rowS_get L c i x hx hi, ← ht, List.getElem?_take_of_lt (by omega), Array.getElem?_toList]
  refine ⟨x.ca, x.cc, x.pa, x.pc, x.ea, x.ec, ?_, by rw [hq]; exact ⟨ints_fr h1.sb.C h2.c hX, ⟨ints_fr h1.sb.R.P h2.p hX, ints_fr h1.sb.R.E h2.e hX, h1.sb.R.m1, h1.sb.R.m2, h1.sb.R.o1, h1.sb.R.o2⟩, h1.sb.k, h1.sb.o, h1.sb.w, h1.sb.p, h1.sb.h⟩, by rw [hq]; exact h1.cap⟩
  rw [hq, Nat.zero_add]
  exact ⟨hcell 0 (by decide), hcell 1 (by decide), hcell 2 (by decide), hcell 3 (by decide), hcell 4 (by decide), hcell 5 (by decide), hcell 6 (by decide), hcell 7 (by decide), hcell 8 (by decide), hcell 9 (by decide)⟩
def smN (L : List Cd) (i : Nat) : Nat := ((L.take i).map (·.n)).sum
theorem smN_succ (L : List Cd) (i : Nat) (x : Cd) (h : L[i]? = some x) : smN L (i + 1) = smN L i + x.n := by
 unfold smN; rw [List.take_add_one, h]; simp
theorem sum_le (L : List Nat) (B : Nat) (h : ∀ n ∈ L, n ≤ B) : L.sum ≤ B * L.length := by
 induction L with
 | nil => simp
 | cons a t ih =>
  have h1 := h a (List.mem_cons_self ..)
  have h2 := ih (fun n hn => h n (List.mem_cons_of_mem _ hn))
  rw [List.sum_cons, List.length_cons, Nat.mul_add]; omega
theorem smN_le (L : List Cd) (B : Nat) (h : ∀ x ∈ L, x.n ≤ B) (i : Nat) : smN L i ≤ B * L.length := by
 unfold smN
 refine Nat.le_trans (sum_le _ B (fun n hn => ?_)) ?_
 ·obtain ⟨x, hx, rfl⟩ := List.mem_map.1 hn
  exact h x (List.mem_of_mem_take hx)
 ·rw [List.length_map, List.length_take]
  exact Nat.mul_le_mul_left B (Nat.min_le_right _ _)
theorem sb_small (lv v : Int) (l : List Int) (q : Sb) (n : Nat) (h : sbR lv v l = some (q, n)) (hv : 1 ≤ v ∧ v ≤ 33) (hn1 : 1 ≤ l.length) (hn2 : l.length ≤ 65535) (hfit : ∀ x ∈ l, sigE x v = 0) : n ≤ 100000000 := by
 have hvb := vb_bits v l hv hn1 hn2 hfit
 unfold sbR cnL at h
 rw [List.foldl_cons, List.foldl_cons] at h
 have hva : vaB (vbS (wasN l : Int)) l = true := by unfold vaB vbS; simp
 have hwi : wiS (vbS (wasN l : Int)) (shrL l (wasN l)) = vbS (wasN l : Int) := by unfold wiS; exact if_pos (Or.inr rfl)
 have hb : ∃ a, stS v l (shrL l (wasN l)) (stS v l (shrL l (wasN l)) none (cnS (wasN l : Int))) (vbS (wasN l : Int)) = some a ∧ a.2 ≤ (subB (vbS (wasN l : Int)) v l).length := by
  generalize stS v l (shrL l (wasN l)) none (cnS (wasN l : Int)) = acc
  cases acc with
  | none => unfold stS; rw [if_pos hva, hwi]; exact ⟨_, rfl, Nat.le_refl _⟩
  | some a =>
   unfold stS
   rw [if_pos hva, hwi]
   dsimp only
   split
   ·exact ⟨_, rfl, Nat.le_refl _⟩
   ·rename_i hh; exact ⟨_, rfl, by omega⟩
 obtain ⟨a, ha, hle⟩ := hb
 rw [ha] at h
 obtain ⟨a', h1, h2⟩ := fold_some v l (shrL l (wasN l)) (trL lv (wasN l : Int)) a
 rw [h1] at h
 cases h
 have h3 := shrL_ln l (wasN l)
 have h4 : (shrL l (wasN l)).length * (v.toNat - wasN l) ≤ 65535 * 33 := Nat.mul_le_mul (by omega) (by omega)
 have h5 := wasN_le l
 have h6 : n ≤ a.2 := h2
 omega
theorem z_channels_alone (P : List (List Int)) (ro : Option Addr) (rk : Nat) (v lv : Int) (hno : ¬ (P.length = 2 ∧ 0 < lv)) (hP : 1 ≤ P.length ∧ P.length ≤ 8) (hlv : 0 ≤ lv ∧ lv ≤ 2) (hv : 1 ≤ v ∧ v ≤ 33) (hpl : ∀ l ∈ P, (1 ≤ l.length ∧ l.length ≤ 65535) ∧ ∀ x ∈ l, sigE x v = 0) (w : World) (hT : Tz w) (hr : RowsAt w ro P) : Calls Tryz.prog 40 #[.slice ro P.length rk, .int .i64 v, .int .i64 lv] w (ChP lv v P w) := by
 obtain ⟨iC, hCa, hCb, hCc, hCd⟩ := cod_info
 have hgm : ∀ i, i < P.length → P.getD i [] ∈ P := fun i hi => by rw [List.getD_eq_getElem?_getD, List.getElem?_eq_getElem hi]; exact List.getElem_mem hi
 have HKC : Hid (∀ i, i < P.length → ∀ a c wx, Below w.heap.size w wx → IntsAt wx a (P.getD i []) → Calls Tryz.prog 28 #[.slice a (P.getD i []).length c, .int .i64 v, .int .i64 lv] wx fun e w' => ∃ x : Cd, e = .returned (.agg (cdV x)) ∧ sbR lv v (P.getD i []) = some (x.q, x.n) ∧ CdAt w' x ∧ FrC wx.heap.size x ∧ Below wx.heap.size wx w') := fun i hi a c wx hb hl => z_channel (P.getD i []) a c v lv hlv hv (hpl _ (hgm i hi)).1.1 (hpl _ (hgm i hi)).1.2 (hpl _ (hgm i hi)).2 wx (hT.below hb) hl
 have HSM : Hid (∀ i, i < P.length → ∀ q n, sbR lv v (P.getD i []) = some (q, n) → n ≤ 100000000) := fun i hi q n h => sb_small lv v _ q n h hv (hpl _ (hgm i hi)).1.1 (hpl _ (hgm i hi)).1.2 (hpl _ (hgm i hi)).2
 have HRO : Hid (RowsAt w ro P) := hr
 have HBA : Hid (Below w.heap.size w (w.alloc (.cells #[.int .i64 0, .slice none 0 0, .int .i64 0] 63))) := (Below.refl _ _).alloc (Nat.le_refl _) _
 have HRA : Hid ((w.alloc (.cells #[.int .i64 0, .slice none 0 0, .int .i64 0] 63)).heap[w.heap.size]? = some (.cells #[.int .i64 0, .slice none 0 0, .int .i64 0] 63 (0, 0))) := heap_alloc_new _ _
 have HAS : Hid (w.heap.size + 1 ≤ (w.alloc (.cells #[.int .i64 0, .slice none 0 0, .int .i64 0] 63)).heap.size) := by show _ ≤ _; simp
 have hP1 := hP.1
 have hP8 := hP.2
 clear hP hv hpl hT hr hgm
 by_cases h2 : P.length = 2
 ·have hb1 : ((P.length : Int) == 2) = true := by rw [beq_iff_eq]; omega
  have hb2 : decide (0 < lv) = false := decide_eq_false (fun h => hno ⟨h2, h⟩)
  have hlv0 : ¬ 0 < lv := fun h => hno ⟨h2, h⟩
  have H2 : Hid (P.length = 2) := h2
  clear h2 hno hlv
  go_enter Tryz.func40, Tryz.ntmps40
  go_upto_region 1 with fail
  generalize hwa : World.alloc _ _ = wa at *
  clear hwa
  go_wp2_with fail
  go_loopw [7, 28] (fun s7 s28 wr => ∃ (i : Nat) (vv : Value) (L : List Cd), i ≤ P.length ∧ s28 = .int .i64 (i : Int) ∧ s7 = vv ∧ L.length = i ∧ CdOf lv v P L ∧ CL wa vv L wr) (fun _ s28 _ => P.length - (intOf s28).toNat)
  case atStart => exact ⟨0, _, [], Nat.zero_le _, rfl, rfl, rfl, (fun j x hj => by cases hj), CL.nil wa wa (Below.refl _ _)⟩
  case round =>
   obtain ⟨i, vv, L, hi, rfl, rfl, hLi, hcd, hcl⟩ := hrel
   obtain ⟨oa, oc, hvv⟩ := hcl.shape
   subst hvv
   have HCL : Hid (CL wa (.slice oa L.length oc) L wr) := hcl
   have HCD : Hid (CdOf lv v P L) := hcd
   have HLI : Hid (L.length = i) := hLi
   have hL8 : L.length ≤ 10 := by omega
   clear hcl hcd hLi
   by_cases hlt : i < P.length
   ·have hbw : Below w.heap.size w wr := HBA.out.trans (HCL.out.below.mono HBA.out.size)
    obtain ⟨b, off, a, c, hro, hcell, hcap, hints⟩ := rows_at (HRO.out.below hbw) i hlt
    subst hro
    have KC := HKC.out i hlt a c wr hbw hints
    obtain ⟨l, hll⟩ : ∃ l, l = P.getD i [] := ⟨_, rfl⟩
    rw [← hll] at hcell KC
    have HLE : Hid (l = P.getD i []) := hll
    clear hbw hints hcap hll
    go_wp2_with fail
    refine KC.mono ?_
    rintro e w2 ⟨x, rfl, hx, hat, hfr, hb2⟩
    have HC2 : Hid (CL wa (.slice oa L.length oc) L w2) := HCL.out.low hb2
    have HX2 : Hid (COff (.slice oa L.length oc) w2 x) := hat.off hfr HCL.out.own_lt
    have HF2 : Hid (FrC wa.heap.size x) := hfr.mono HCL.out.below.size
    have HCD2 : Hid (CdOf lv v P (L ++ [x])) := fun j y hj => by
     by_cases hjl : j < L.length
     ·rw [List.getElem?_append_left hjl] at hj; exact HCD.out j y hj
     ·have hjl2 : j < (L ++ [x]).length := by obtain ⟨h1, _⟩ := List.getElem?_eq_some_iff.1 hj; exact h1
      rw [List.length_append] at hjl2
      have e2 : j = i := by have := HLI.out; have h1 : [x].length = 1 := rfl; omega
      rw [List.getElem?_append_right (by omega)] at hj
      have e3 : j - L.length = 0 := by have := HLI.out; omega
      rw [e3] at hj
      cases hj
      rw [e2, ← HLE.out]; exact hx
    clear hx hat hfr hb2 HCL KC hcell
    go_wp2_with (at_builtin; refine wpList_append_lies _ rfl (.tmp 32) (.tmp 37) 115 rfl wa.heap.size 63 iC (.agg #[.int .i64 0, .slice none 0 0, .int .i64 0]) 3 40 undCods hCa hCb hCc hCd rfl (by decide) (.slice oa L.length oc) L.length (rowD L) rfl (HC2.out.low ((Below.refl _ _).alloc (Nat.le_refl _) _)).own ⟨w2.heap.size, 0, none⟩ 1 1 (#[.int .i64 0, .slice (some ⟨x.g, 0, none⟩) 1 1, .int .i64 (x.n : Int)]).toList rfl rfl (World.news_of_block (cs := #[.int .i64 0, .slice (some ⟨x.g, 0, none⟩) 1 1, .int .i64 (x.n : Int)]) (t := 63) (fr := (0, 0)) (heap_alloc_new _ _)) (by intro u hu; simp at hu; rcases hu with h | h | h <;> (rw [h]; rfl)) (by decide) (by unfold maxLen; omega) (by omega) (HC2.out.low ((Below.refl _ _).alloc (Nat.le_refl _) _)).below.size _ rfl ?_; intro gA cA wA ownA groA hatA hltA)
    have HC3 : Hid (CL wa (.slice (some ⟨gA, 0, none⟩) (L.length + 1) cA) (L ++ [x]) wA) := (HC2.out.low ((Below.refl _ _).alloc (Nat.le_refl _) _)).push x (HX2.out.low ((Below.refl _ _).alloc (Nat.le_refl _) _)) HF2.out ownA groA hatA
    clear ownA groA hatA hltA HX2 HC2
    go_wp2_with fail
    go_roundw
    case rel => exact ⟨i + 1, _, L ++ [x], by omega, by go_num, rfl, by rw [List.length_append, HLI.out]; rfl, HCD2.out, HC3.out⟩
    case measure => simp [intOf]; omega
   ·have hil : i = P.length := by omega
    have HLP : Hid (L.length = P.length) := by show _ = _; rw [HLI.out, hil]
    have hL0 : 0 < L.length := by rw [HLP.out]; omega
    obtain ⟨b, cap', hv', hle, hcds⟩ := HCL.out.cds hL0
    cases hv'
    have KJ := z_joined 0 L (by omega) (smN L) rfl (smN_succ L) (fun k => by
     refine Nat.le_trans (smN_le L 100000000 (fun x hx => ?_) k) (by omega)
     obtain ⟨j, hj, e⟩ := List.mem_iff_getElem.1 hx
     have h1 := HCD.out j x (by rw [List.getElem?_eq_getElem hj, e])
     exact HSM.out j (by rw [← HLP.out]; exact hj) _ _ h1) (some ⟨b, 0, none⟩) b 0 oc (fun _ => rfl) wr hcds (fun x hx => (HCL.out.at_ x hx).at_)
    have HAT : Hid (∀ x ∈ L, CdAt wr x ∧ FrC (w.heap.size + 1) x) := fun x hx => ⟨(HCL.out.at_ x hx).at_, (HCL.out.fr x hx).mono HAS.out⟩
    have HR1 : Hid (wr.heap[w.heap.size]? = some (.cells #[.int .i64 0, .slice none 0 0, .int .i64 0] 63 (0, 0))) := by show _ = _; rw [HCL.out.below.block _ (lt_of_block HRA.out)]; exact HRA.out
    have HB1 : Hid (Below w.heap.size w wr) := HBA.out.trans (HCL.out.below.mono HBA.out.size)
    clear hil hL0 hle hcds HCL HLI
    generalize smN L L.length = n at *
    go_wp2_with fail
    refine KJ.mono ?_
    rintro e w5 ⟨oa, oc2, rfl, hown, hb5⟩
    have HOW : Hid (w5.ownsRow (wr.heap.size + 2) 27 10 (.slice oa L.length oc2) L.length (rowS L)) := hown
    have HR5 : Hid (w5.heap[w.heap.size]? = some (.cells #[.int .i64 0, .slice none 0 0, .int .i64 0] 63 (0, 0))) := by show _ = _; rw [hb5.block _ (lt_of_block HR1.out)]; exact HR1.out
    have HB5 : Hid (Below w.heap.size w w5) := HB1.out.trans (hb5.mono HB1.out.size)
    have HAT5 : Hid (∀ x ∈ L, CdAt w5 x ∧ FrC (w.heap.size + 1) x) := fun x hx => ⟨(HAT.out x hx).1.below hb5, (HAT.out x hx).2⟩
    have HWS : Hid (w.heap.size < wr.heap.size + 2) := by have := lt_of_block HR1.out; show _ < _; omega
    clear hown hb5 KJ HR1 HB1 HAT
    obtain ⟨u0, u1, u2⟩ := cod_cells HR5.out
    have fz0 := row_frozen HR5.out 0
    have fz1 := row_frozen HR5.out 1
    have fz2 := row_frozen HR5.out 2
    go_wp2_with fail
    generalize hwf : World.setCell _ _ _ = wf
    have hrow : wf.heap[w.heap.size]? = some (.cells #[.int .i64 0, .slice oa L.length oc2, .int .i64 (n : Int)] 63 (0, 0)) := by rw [← hwf]; exact s3c_a _ _ _ _ HR5.out
    have hbel : Below w.heap.size w wf := by rw [← hwf]; exact s3c_b _ _ _ _ w (Nat.le_refl _) HB5.out
    have hown : wf.ownsRow (wr.heap.size + 2) 27 10 (.slice oa L.length oc2) L.length (rowS L) := by rw [← hwf]; exact own_set (own_set (own_set HOW.out HWS.out _ _) HWS.out _ _) HWS.out _ _
    have hsub := jo_subs hown (n := w.heap.size) (Nat.le_of_lt HWS.out) (by omega) (fun x hx => ⟨(HAT5.out x hx).1.set (HAT5.out x hx).2 (fun k hk => by rw [← hwf]; exact s3c_d _ _ _ _ k (by omega) : ∀ k, w.heap.size < k → wf.heap[k]? = w5.heap[k]?), (HAT5.out x hx).2.mono (Nat.le_succ _)⟩)
    refine bodyPost_ret (v := .agg #[.int .i64 0, .slice oa L.length oc2, .int .i64 (n : Int)]) ?_ rfl ⟨L, n, oa, oc2, HLP.out, HCD.out, rfl, hsub.1, hsub.2, hbel⟩
    rw [results_one rfl]
    have hld := run_loadVar_row (P := Tryz.prog) (wf) (w.heap.size) 63 63 #[.int .i64 0, .slice oa L.length oc2, .int .i64 (n : Int)] (0, 0) _ hrow Tryz.underlying63 rfl info_coding
    simp [asAddr, Result.andThen, hld]
 ·have hb1 : ((P.length : Int) == 2) = false := by rw [beq_eq_false_iff_ne]; omega
  clear hno hlv
  go_enter Tryz.func40, Tryz.ntmps40
  go_upto_region 1 with fail
  generalize hwa : World.alloc _ _ = wa at *
  clear hwa
  go_wp2_with fail
  go_loopw [7, 28] (fun s7 s28 wr => ∃ (i : Nat) (vv : Value) (L : List Cd), i ≤ P.length ∧ s28 = .int .i64 (i : Int) ∧ s7 = vv ∧ L.length = i ∧ CdOf lv v P L ∧ CL wa vv L wr) (fun _ s28 _ => P.length - (intOf s28).toNat)
  case atStart => exact ⟨0, _, [], Nat.zero_le _, rfl, rfl, rfl, (fun j x hj => by cases hj), CL.nil wa wa (Below.refl _ _)⟩
  case round =>
   obtain ⟨i, vv, L, hi, rfl, rfl, hLi, hcd, hcl⟩ := hrel
   obtain ⟨oa, oc, hvv⟩ := hcl.shape
   subst hvv
   have HCL : Hid (CL wa (.slice oa L.length oc) L wr) := hcl
   have HCD : Hid (CdOf lv v P L) := hcd
   have HLI : Hid (L.length = i) := hLi
   have hL8 : L.length ≤ 10 := by omega
   clear hcl hcd hLi
   by_cases hlt : i < P.length
   ·have hbw : Below w.heap.size w wr := HBA.out.trans (HCL.out.below.mono HBA.out.size)
    obtain ⟨b, off, a, c, hro, hcell, hcap, hints⟩ := rows_at (HRO.out.below hbw) i hlt
    subst hro
    have KC := HKC.out i hlt a c wr hbw hints
    obtain ⟨l, hll⟩ : ∃ l, l = P.getD i [] := ⟨_, rfl⟩
    rw [← hll] at hcell KC
    have HLE : Hid (l = P.getD i []) := hll
    clear hbw hints hcap hll
    go_wp2_with fail
    refine KC.mono ?_
    rintro e w2 ⟨x, rfl, hx, hat, hfr, hb2⟩
    have HC2 : Hid (CL wa (.slice oa L.length oc) L w2) := HCL.out.low hb2
    have HX2 : Hid (COff (.slice oa L.length oc) w2 x) := hat.off hfr HCL.out.own_lt
    have HF2 : Hid (FrC wa.heap.size x) := hfr.mono HCL.out.below.size
    have HCD2 : Hid (CdOf lv v P (L ++ [x])) := fun j y hj => by
     by_cases hjl : j < L.length
     ·rw [List.getElem?_append_left hjl] at hj; exact HCD.out j y hj
     ·have hjl2 : j < (L ++ [x]).length := by obtain ⟨h1, _⟩ := List.getElem?_eq_some_iff.1 hj; exact h1
      rw [List.length_append] at hjl2
      have e2 : j = i := by have := HLI.out; have h1 : [x].length = 1 := rfl; omega
      rw [List.getElem?_append_right (by omega)] at hj
      have e3 : j - L.length = 0 := by have := HLI.out; omega
      rw [e3] at hj
      cases hj
      rw [e2, ← HLE.out]; exact hx
    clear hx hat hfr hb2 HCL KC hcell
    go_wp2_with (at_builtin; refine wpList_append_lies _ rfl (.tmp 32) (.tmp 37) 115 rfl wa.heap.size 63 iC (.agg #[.int .i64 0, .slice none 0 0, .int .i64 0]) 3 40 undCods hCa hCb hCc hCd rfl (by decide) (.slice oa L.length oc) L.length (rowD L) rfl (HC2.out.low ((Below.refl _ _).alloc (Nat.le_refl _) _)).own ⟨w2.heap.size, 0, none⟩ 1 1 (#[.int .i64 0, .slice (some ⟨x.g, 0, none⟩) 1 1, .int .i64 (x.n : Int)]).toList rfl rfl (World.news_of_block (cs := #[.int .i64 0, .slice (some ⟨x.g, 0, none⟩) 1 1, .int .i64 (x.n : Int)]) (t := 63) (fr := (0, 0)) (heap_alloc_new _ _)) (by intro u hu; simp at hu; rcases hu with h | h | h <;> (rw [h]; rfl)) (by decide) (by unfold maxLen; omega) (by omega) (HC2.out.low ((Below.refl _ _).alloc (Nat.le_refl _) _)).below.size _ rfl ?_; intro gA cA wA ownA groA hatA hltA)
    have HC3 : Hid (CL wa (.slice (some ⟨gA, 0, none⟩) (L.length + 1) cA) (L ++ [x]) wA) := (HC2.out.low ((Below.refl _ _).alloc (Nat.le_refl _) _)).push x (HX2.out.low ((Below.refl _ _).alloc (Nat.le_refl _) _)) HF2.out ownA groA hatA
    clear ownA groA hatA hltA HX2 HC2
    go_wp2_with fail
    go_roundw
    case rel => exact ⟨i + 1, _, L ++ [x], by omega, by go_num, rfl, by rw [List.length_append, HLI.out]; rfl, HCD2.out, HC3.out⟩
    case measure => simp [intOf]; omega
   ·have hil : i = P.length := by omega
    have HLP : Hid (L.length = P.length) := by show _ = _; rw [HLI.out, hil]
    have hL0 : 0 < L.length := by rw [HLP.out]; omega
    obtain ⟨b, cap', hv', hle, hcds⟩ := HCL.out.cds hL0
    cases hv'
    have KJ := z_joined 0 L (by omega) (smN L) rfl (smN_succ L) (fun k => by
     refine Nat.le_trans (smN_le L 100000000 (fun x hx => ?_) k) (by omega)
     obtain ⟨j, hj, e⟩ := List.mem_iff_getElem.1 hx
     have h1 := HCD.out j x (by rw [List.getElem?_eq_getElem hj, e])
     exact HSM.out j (by rw [← HLP.out]; exact hj) _ _ h1) (some ⟨b, 0, none⟩) b 0 oc (fun _ => rfl) wr hcds (fun x hx => (HCL.out.at_ x hx).at_)
    have HAT : Hid (∀ x ∈ L, CdAt wr x ∧ FrC (w.heap.size + 1) x) := fun x hx => ⟨(HCL.out.at_ x hx).at_, (HCL.out.fr x hx).mono HAS.out⟩
    have HR1 : Hid (wr.heap[w.heap.size]? = some (.cells #[.int .i64 0, .slice none 0 0, .int .i64 0] 63 (0, 0))) := by show _ = _; rw [HCL.out.below.block _ (lt_of_block HRA.out)]; exact HRA.out
    have HB1 : Hid (Below w.heap.size w wr) := HBA.out.trans (HCL.out.below.mono HBA.out.size)
    clear hil hL0 hle hcds HCL HLI
    generalize smN L L.length = n at *
    go_wp2_with fail
    refine KJ.mono ?_
    rintro e w5 ⟨oa, oc2, rfl, hown, hb5⟩
    have HOW : Hid (w5.ownsRow (wr.heap.size + 2) 27 10 (.slice oa L.length oc2) L.length (rowS L)) := hown
    have HR5 : Hid (w5.heap[w.heap.size]? = some (.cells #[.int .i64 0, .slice none 0 0, .int .i64 0] 63 (0, 0))) := by show _ = _; rw [hb5.block _ (lt_of_block HR1.out)]; exact HR1.out
    have HB5 : Hid (Below w.heap.size w w5) := HB1.out.trans (hb5.mono HB1.out.size)
    have HAT5 : Hid (∀ x ∈ L, CdAt w5 x ∧ FrC (w.heap.size + 1) x) := fun x hx => ⟨(HAT.out x hx).1.below hb5, (HAT.out x hx).2⟩
    have HWS : Hid (w.heap.size < wr.heap.size + 2) := by have := lt_of_block HR1.out; show _ < _; omega
    clear hown hb5 KJ HR1 HB1 HAT
    obtain ⟨u0, u1, u2⟩ := cod_cells HR5.out
    have fz0 := row_frozen HR5.out 0
    have fz1 := row_frozen HR5.out 1
    have fz2 := row_frozen HR5.out 2
    go_wp2_with fail
    generalize hwf : World.setCell _ _ _ = wf
    have hrow : wf.heap[w.heap.size]? = some (.cells #[.int .i64 0, .slice oa L.length oc2, .int .i64 (n : Int)] 63 (0, 0)) := by rw [← hwf]; exact s3c_a _ _ _ _ HR5.out
    have hbel : Below w.heap.size w wf := by rw [← hwf]; exact s3c_b _ _ _ _ w (Nat.le_refl _) HB5.out
    have hown : wf.ownsRow (wr.heap.size + 2) 27 10 (.slice oa L.length oc2) L.length (rowS L) := by rw [← hwf]; exact own_set (own_set (own_set HOW.out HWS.out _ _) HWS.out _ _) HWS.out _ _
    have hsub := jo_subs hown (n := w.heap.size) (Nat.le_of_lt HWS.out) (by omega) (fun x hx => ⟨(HAT5.out x hx).1.set (HAT5.out x hx).2 (fun k hk => by rw [← hwf]; exact s3c_d _ _ _ _ k (by omega) : ∀ k, w.heap.size < k → wf.heap[k]? = w5.heap[k]?), (HAT5.out x hx).2.mono (Nat.le_succ _)⟩)
    refine bodyPost_ret (v := .agg #[.int .i64 0, .slice oa L.length oc2, .int .i64 (n : Int)]) ?_ rfl ⟨L, n, oa, oc2, HLP.out, HCD.out, rfl, hsub.1, hsub.2, hbel⟩
    rw [results_one rfl]
    have hld := run_loadVar_row (P := Tryz.prog) (wf) (w.heap.size) 63 63 #[.int .i64 0, .slice oa L.length oc2, .int .i64 (n : Int)] (0, 0) _ hrow Tryz.underlying63 rfl info_coding
    simp [asAddr, Result.andThen, hld]
end Go.Proofs.YthgpleelpeacjaaGreatDoor
