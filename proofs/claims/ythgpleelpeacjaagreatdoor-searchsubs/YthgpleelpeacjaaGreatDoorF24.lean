/- Own text. -/
import Derived.Test.YthgpleelpeacjaaGreatDoorF23
set_option linter.unusedSimpArgs false
set_option linter.unusedVariables false
set_option maxRecDepth 20000
set_option maxHeartbeats 12800000
namespace Go.Proofs.YthgpleelpeacjaaGreatDoor
open Go.RowKit
theorem set8f_a {wx : World} (n : Nat) (v0 v1 v2 v3 v4 v5 v6 v7 : Value) {a0 a1 a2 a3 a4 a5 a6 a7 : Value} {t : TypeId} (h : wx.heap[n]? = some (.cells #[a0, a1, a2, a3, a4, a5, a6, a7] t (0, 0))) : ((((((((wx.setCell ⟨n, 0, none⟩ v0).setCell ⟨n, 1, none⟩ v1).setCell ⟨n, 2, none⟩ v2).setCell ⟨n, 3, none⟩ v3).setCell ⟨n, 4, none⟩ v4).setCell ⟨n, 5, none⟩ v5).setCell ⟨n, 6, none⟩ v6).setCell ⟨n, 7, none⟩ v7).heap[n]? = some (.cells #[v0, v1, v2, v3, v4, v5, v6, v7] t (0, 0)) := by
 rw [block_setCell _ _ _ _ _ _ (block_setCell _ _ _ _ _ _ (block_setCell _ _ _ _ _ _ (block_setCell _ _ _ _ _ _ (block_setCell _ _ _ _ _ _ (block_setCell _ _ _ _ _ _ (block_setCell _ _ _ _ _ _ (block_setCell _ _ _ _ _ _ h)))))))]
 simp only [List.setIfInBounds_toArray, List.set_cons_zero, List.set_cons_succ]
theorem set8f_b {wx : World} (n : Nat) (v0 v1 v2 v3 v4 v5 v6 v7 : Value) (w : World) (hn : w.heap.size ≤ n) (h : Below w.heap.size w wx) : Below w.heap.size w ((((((((wx.setCell ⟨n, 0, none⟩ v0).setCell ⟨n, 1, none⟩ v1).setCell ⟨n, 2, none⟩ v2).setCell ⟨n, 3, none⟩ v3).setCell ⟨n, 4, none⟩ v4).setCell ⟨n, 5, none⟩ v5).setCell ⟨n, 6, none⟩ v6).setCell ⟨n, 7, none⟩ v7) := (((((((h.setCell hn _).setCell hn _).setCell hn _).setCell hn _).setCell hn _).setCell hn _).setCell hn _).setCell hn _
theorem set8f_d {wx : World} (n : Nat) (v0 v1 v2 v3 v4 v5 v6 v7 : Value) (j : Nat) (h0 : j ≠ n) : ((((((((wx.setCell ⟨n, 0, none⟩ v0).setCell ⟨n, 1, none⟩ v1).setCell ⟨n, 2, none⟩ v2).setCell ⟨n, 3, none⟩ v3).setCell ⟨n, 4, none⟩ v4).setCell ⟨n, 5, none⟩ v5).setCell ⟨n, 6, none⟩ v6).setCell ⟨n, 7, none⟩ v7).heap[j]? = wx.heap[j]? := by
 rw [Below.heap_setCell _ _ _ j h0, Below.heap_setCell _ _ _ j h0, Below.heap_setCell _ _ _ j h0, Below.heap_setCell _ _ _ j h0, Below.heap_setCell _ _ _ j h0, Below.heap_setCell _ _ _ j h0, Below.heap_setCell _ _ _ j h0, Below.heap_setCell _ _ _ j h0]
theorem info_Frame12 : (Tryz.prog.info? 41).map (·.size) = some 8 := by kernel_rfl
theorem zf_cells {w : World} {g : Nat} {a0 a1 a2 a3 a4 a5 a6 a7 : Value} (h : w.heap[g]? = some (.cells #[a0, a1, a2, a3, a4, a5, a6, a7] 41 (0, 0))) : w.cell? ⟨g, 0, none⟩ = some a0 ∧ w.cell? ⟨g, 1, none⟩ = some a1 ∧ w.cell? ⟨g, 2, none⟩ = some a2 ∧ w.cell? ⟨g, 3, none⟩ = some a3 ∧ w.cell? ⟨g, 4, none⟩ = some a4 ∧ w.cell? ⟨g, 5, none⟩ = some a5 ∧ w.cell? ⟨g, 6, none⟩ = some a6 ∧ w.cell? ⟨g, 7, none⟩ = some a7 := by
 refine ⟨?_, ?_, ?_, ?_, ?_, ?_, ?_, ?_⟩ <;> (rw [cell_of_row _ _ _ _ _ _ h]; rfl)
theorem z_rightSize (f : Fm) (so : Option Addr) (sk : Nat) (a b c d : Int) (i : Inf) (e : Int) (s : ByteArray) (hr : I64 i.rate) (D : List Int) (hD : D.length ≤ 100) (ok : Int → Bool) (hok : ∀ x, ok x = true ↔ okC (fSize f x) i) (da : Option Addr) (dc : Nat) (w : World) (hL : Lay w) (hf : FmAt w f so sk) (hDa : IntsAt w da D) : Calls Tryz.prog 89 #[fmV f so sk, infV a b c d i e s, .func (.func 90) #[] #[], .slice da D.length dc] w fun en w' => en = .returned (fmV (fSize f (fstC ok f.sc D)) so sk) ∧ Below w.heap.size w w' := by
 have hDa0 := hDa
 have KCk : Hid (∀ x wx, I64 x → Below w.heap.size w wx → Calls Tryz.prog 19 #[fmV (fSize f x) so sk, infV a b c d i e s] wx fun en w' => en = .returned (.int .i64 (if ok x = true then 0 else 60)) ∧ Below wx.heap.size wx w') := fun x wx hx hb => f_check (fSize f x) so sk a b c d i e s hr _ (fun h => if_pos ((hok x).2 h)) (fun h => if_neg (fun h2 => h ((hok x).1 h2))) wx ⟨hf.S.below hb, hf.sk_, hf.num, hf.size, hx, hf.rc, hf.wc, hf.mo⟩ (hL.below hb)
 have HDA : Hid (IntsAt w da D) := hDa
 have HA : Hid (WR w (fSize f f.sc) so sk a b c d i e s (((w.alloc (.cells (fmC f so sk) 41)).alloc (.cells (infC a b c d i e s) 38)).alloc (.cells #[.bool false, .int .i64 0, .int .i64 0, .int .i64 0, .int .i64 0, .int .i64 0, .int .i64 0, .slice none 0 0] 41))) := WR.new w f so sk a b c d i e s
 clear hL hf hDa hDa0 hr hok
 go_enter Tryz.func89, Tryz.ntmps89
 go_wp2_with fail
 generalize hwa : World.alloc _ _ = wa at *
 clear hwa
 go_loopw [10, 13] (fun s10 s13 wr => ∃ (j : Nat) (x : Int), j ≤ D.length ∧ s13 = .int .i64 (j : Int) ∧ fstC ok f.sc D = fstC ok x (D.drop j) ∧ WR w (fSize f x) so sk a b c d i e s wr) (fun _ s13 _ => D.length - (intOf s13).toNat)
 case atStart => exact ⟨0, f.sc, Nat.zero_le _, rfl, rfl, HA.out⟩
 case round =>
  clear HA
  obtain ⟨j, x, hj, rfl, hfs, hwr⟩ := hrel
  have HFS : Hid (fstC ok f.sc D = fstC ok x (D.drop j)) := hfs
  have HW : Hid (WR w (fSize f x) so sk a b c d i e s wr) := hwr
  clear hfs hwr
  by_cases hlt : j < D.length
  ·obtain ⟨b1, o1, hda, q1⟩ := HDA.out.at j hlt
   subst hda
   have r1 := q1 wr HW.out.low
   have HX : Hid (I64 (D.getD j 0)) := HDA.out.rng j
   have HF2 : Hid (fstC ok f.sc D = if ok (D.getD j 0) = true then D.getD j 0 else fstC ok (D.getD j 0) (D.drop (j + 1))) := by
    show _ = _
    rw [HFS.out, List.drop_eq_getElem_cons hlt]
    have e : D[j] = D.getD j 0 := by rw [List.getD_eq_getElem?_getD, List.getElem?_eq_getElem hlt]; rfl
    rw [e]; rfl
   clear q1 HFS
   generalize D.getD j 0 = y at *
   have KP := z_putSize (fSize f x) so sk y w.heap.size wr HW.out.fb
   have HW2 : Hid (WR w (fSize f y) so sk a b c d i e s (wr.setCell ⟨w.heap.size, 3, none⟩ (.int .i64 y))) := HW.out.putSize y
   clear HW
   go_wp2_with fail
   refine KP.mono ?_
   rintro en w2 ⟨rfl, hw2⟩
   rw [← hw2] at HW2
   clear KP hw2 r1
   obtain ⟨z0, z1, z2, z3, z4, z5, z6, z7⟩ := fm_cells HW2.out.fb
   obtain ⟨i0, i1, i2, i3, i4, i5, i6, i7, i8⟩ := inf_cells HW2.out.ib
   have KK := KCk.out y w2 HX.out HW2.out.low
   by_cases ho : ok y = true
   ·rw [if_pos ho] at HF2 KK
    clear ho
    go_wp2_with fail
    refine KK.mono ?_
    rintro en w3 ⟨rfl, hb3⟩
    have HW3 : Hid (WR w (fSize f y) so sk a b c d i e s w3) := HW2.out.next hb3
    clear hb3 HW2 KK z0 z1 z2 z3 z4 z5 z6 z7 i0 i1 i2 i3 i4 i5 i6 i7 i8
    obtain ⟨z0, z1, z2, z3, z4, z5, z6, z7⟩ := fm_cells HW3.out.fb
    obtain ⟨u0, u1, u2, u3, u4, u5, u6, u7⟩ := zf_cells HW3.out.rb
    have fz0 := row_frozen HW3.out.rb 0
    have fz1 := row_frozen HW3.out.rb 1
    have fz2 := row_frozen HW3.out.rb 2
    have fz3 := row_frozen HW3.out.rb 3
    have fz4 := row_frozen HW3.out.rb 4
    have fz5 := row_frozen HW3.out.rb 5
    have fz6 := row_frozen HW3.out.rb 6
    have fz7 := row_frozen HW3.out.rb 7
    go_wp2_with fail
    generalize hwf : World.setCell _ _ _ = wf
    have hrow : wf.heap[w.heap.size + 2]? = some (.cells (fmC (fSize f y) so sk) 41 (0, 0)) := by rw [← hwf]; exact set8f_a _ _ _ _ _ _ _ _ _ HW3.out.rb
    have hbel : Below w.heap.size w wf := by rw [← hwf]; exact set8f_b _ _ _ _ _ _ _ _ _ w (by omega) HW3.out.low
    refine bodyPost_ret (v := .agg (fmC (fSize f y) so sk)) ?_ rfl ⟨by rw [HF2.out], hbel⟩
    rw [results_one rfl]
    have hld := run_loadVar_row (P := Tryz.prog) (wf) (w.heap.size + 2) 41 41 (fmC (fSize f y) so sk) (0, 0) _ hrow Tryz.underlying41 rfl info_Frame12
    simp [asAddr, Result.andThen, hld]
   ·rw [if_neg ho] at HF2 KK
    clear ho
    go_wp2_with fail
    refine KK.mono ?_
    rintro en w3 ⟨rfl, hb3⟩
    have HW3 : Hid (WR w (fSize f y) so sk a b c d i e s w3) := HW2.out.next hb3
    clear hb3 HW2 KK z0 z1 z2 z3 z4 z5 z6 z7 i0 i1 i2 i3 i4 i5 i6 i7 i8
    go_wp2_with fail
    go_roundw
    case rel => exact ⟨j + 1, y, by omega, by go_num, HF2.out, HW3.out⟩
    case measure => simp [intOf]; omega
  ·have hjl : D.drop j = [] := List.drop_eq_nil_of_le (by omega)
   rw [hjl] at HFS
   have HF3 : Hid (fstC ok f.sc D = x) := HFS.out
   clear HFS hjl
   obtain ⟨z0, z1, z2, z3, z4, z5, z6, z7⟩ := fm_cells HW.out.fb
   obtain ⟨u0, u1, u2, u3, u4, u5, u6, u7⟩ := zf_cells HW.out.rb
   have fz0 := row_frozen HW.out.rb 0
   have fz1 := row_frozen HW.out.rb 1
   have fz2 := row_frozen HW.out.rb 2
   have fz3 := row_frozen HW.out.rb 3
   have fz4 := row_frozen HW.out.rb 4
   have fz5 := row_frozen HW.out.rb 5
   have fz6 := row_frozen HW.out.rb 6
   have fz7 := row_frozen HW.out.rb 7
   go_wp2_with fail
   generalize hwf : World.setCell _ _ _ = wf
   have hrow : wf.heap[w.heap.size + 2]? = some (.cells (fmC (fSize f x) so sk) 41 (0, 0)) := by rw [← hwf]; exact set8f_a _ _ _ _ _ _ _ _ _ HW.out.rb
   have hbel : Below w.heap.size w wf := by rw [← hwf]; exact set8f_b _ _ _ _ _ _ _ _ _ w (by omega) HW.out.low
   refine bodyPost_ret (v := .agg (fmC (fSize f x) so sk)) ?_ rfl ⟨by rw [HF3.out], hbel⟩
   rw [results_one rfl]
   have hld := run_loadVar_row (P := Tryz.prog) (wf) (w.heap.size + 2) 41 41 (fmC (fSize f x) so sk) (0, 0) _ hrow Tryz.underlying41 rfl info_Frame12
   simp [asAddr, Result.andThen, hld]
theorem z_rightRate (f : Fm) (so : Option Addr) (sk : Nat) (a b c d : Int) (i : Inf) (e : Int) (s : ByteArray) (hr : I64 i.rate) (D : List Int) (hD : D.length ≤ 100) (ok : Int → Bool) (hok : ∀ x, ok x = true ↔ okC (fRate f x) i) (da : Option Addr) (dc : Nat) (w : World) (hL : Lay w) (hf : FmAt w f so sk) (hDa : IntsAt w da D) : Calls Tryz.prog 89 #[fmV f so sk, infV a b c d i e s, .func (.func 91) #[] #[], .slice da D.length dc] w fun en w' => en = .returned (fmV (fRate f (fstC ok f.rc D)) so sk) ∧ Below w.heap.size w w' := by
 have hDa0 := hDa
 have KCk : Hid (∀ x wx, I64 x → Below w.heap.size w wx → Calls Tryz.prog 19 #[fmV (fRate f x) so sk, infV a b c d i e s] wx fun en w' => en = .returned (.int .i64 (if ok x = true then 0 else 60)) ∧ Below wx.heap.size wx w') := fun x wx hx hb => f_check (fRate f x) so sk a b c d i e s hr _ (fun h => if_pos ((hok x).2 h)) (fun h => if_neg (fun h2 => h ((hok x).1 h2))) wx ⟨hf.S.below hb, hf.sk_, hf.num, hf.size, hf.sc, hx, hf.wc, hf.mo⟩ (hL.below hb)
 have HDA : Hid (IntsAt w da D) := hDa
 have HA : Hid (WR w (fRate f f.rc) so sk a b c d i e s (((w.alloc (.cells (fmC f so sk) 41)).alloc (.cells (infC a b c d i e s) 38)).alloc (.cells #[.bool false, .int .i64 0, .int .i64 0, .int .i64 0, .int .i64 0, .int .i64 0, .int .i64 0, .slice none 0 0] 41))) := WR.new w f so sk a b c d i e s
 clear hL hf hDa hDa0 hr hok
 go_enter Tryz.func89, Tryz.ntmps89
 go_wp2_with fail
 generalize hwa : World.alloc _ _ = wa at *
 clear hwa
 go_loopw [10, 13] (fun s10 s13 wr => ∃ (j : Nat) (x : Int), j ≤ D.length ∧ s13 = .int .i64 (j : Int) ∧ fstC ok f.rc D = fstC ok x (D.drop j) ∧ WR w (fRate f x) so sk a b c d i e s wr) (fun _ s13 _ => D.length - (intOf s13).toNat)
 case atStart => exact ⟨0, f.rc, Nat.zero_le _, rfl, rfl, HA.out⟩
 case round =>
  clear HA
  obtain ⟨j, x, hj, rfl, hfs, hwr⟩ := hrel
  have HFS : Hid (fstC ok f.rc D = fstC ok x (D.drop j)) := hfs
  have HW : Hid (WR w (fRate f x) so sk a b c d i e s wr) := hwr
  clear hfs hwr
  by_cases hlt : j < D.length
  ·obtain ⟨b1, o1, hda, q1⟩ := HDA.out.at j hlt
   subst hda
   have r1 := q1 wr HW.out.low
   have HX : Hid (I64 (D.getD j 0)) := HDA.out.rng j
   have HF2 : Hid (fstC ok f.rc D = if ok (D.getD j 0) = true then D.getD j 0 else fstC ok (D.getD j 0) (D.drop (j + 1))) := by
    show _ = _
    rw [HFS.out, List.drop_eq_getElem_cons hlt]
    have e : D[j] = D.getD j 0 := by rw [List.getD_eq_getElem?_getD, List.getElem?_eq_getElem hlt]; rfl
    rw [e]; rfl
   clear q1 HFS
   generalize D.getD j 0 = y at *
   have KP := z_putRate (fRate f x) so sk y w.heap.size wr HW.out.fb
   have HW2 : Hid (WR w (fRate f y) so sk a b c d i e s (wr.setCell ⟨w.heap.size, 4, none⟩ (.int .i64 y))) := HW.out.putRate y
   clear HW
   go_wp2_with fail
   refine KP.mono ?_
   rintro en w2 ⟨rfl, hw2⟩
   rw [← hw2] at HW2
   clear KP hw2 r1
   obtain ⟨z0, z1, z2, z3, z4, z5, z6, z7⟩ := fm_cells HW2.out.fb
   obtain ⟨i0, i1, i2, i3, i4, i5, i6, i7, i8⟩ := inf_cells HW2.out.ib
   have KK := KCk.out y w2 HX.out HW2.out.low
   by_cases ho : ok y = true
   ·rw [if_pos ho] at HF2 KK
    clear ho
    go_wp2_with fail
    refine KK.mono ?_
    rintro en w3 ⟨rfl, hb3⟩
    have HW3 : Hid (WR w (fRate f y) so sk a b c d i e s w3) := HW2.out.next hb3
    clear hb3 HW2 KK z0 z1 z2 z3 z4 z5 z6 z7 i0 i1 i2 i3 i4 i5 i6 i7 i8
    obtain ⟨z0, z1, z2, z3, z4, z5, z6, z7⟩ := fm_cells HW3.out.fb
    obtain ⟨u0, u1, u2, u3, u4, u5, u6, u7⟩ := zf_cells HW3.out.rb
    have fz0 := row_frozen HW3.out.rb 0
    have fz1 := row_frozen HW3.out.rb 1
    have fz2 := row_frozen HW3.out.rb 2
    have fz3 := row_frozen HW3.out.rb 3
    have fz4 := row_frozen HW3.out.rb 4
    have fz5 := row_frozen HW3.out.rb 5
    have fz6 := row_frozen HW3.out.rb 6
    have fz7 := row_frozen HW3.out.rb 7
    go_wp2_with fail
    generalize hwf : World.setCell _ _ _ = wf
    have hrow : wf.heap[w.heap.size + 2]? = some (.cells (fmC (fRate f y) so sk) 41 (0, 0)) := by rw [← hwf]; exact set8f_a _ _ _ _ _ _ _ _ _ HW3.out.rb
    have hbel : Below w.heap.size w wf := by rw [← hwf]; exact set8f_b _ _ _ _ _ _ _ _ _ w (by omega) HW3.out.low
    refine bodyPost_ret (v := .agg (fmC (fRate f y) so sk)) ?_ rfl ⟨by rw [HF2.out], hbel⟩
    rw [results_one rfl]
    have hld := run_loadVar_row (P := Tryz.prog) (wf) (w.heap.size + 2) 41 41 (fmC (fRate f y) so sk) (0, 0) _ hrow Tryz.underlying41 rfl info_Frame12
    simp [asAddr, Result.andThen, hld]
   ·rw [if_neg ho] at HF2 KK
    clear ho
    go_wp2_with fail
    refine KK.mono ?_
    rintro en w3 ⟨rfl, hb3⟩
    have HW3 : Hid (WR w (fRate f y) so sk a b c d i e s w3) := HW2.out.next hb3
    clear hb3 HW2 KK z0 z1 z2 z3 z4 z5 z6 z7 i0 i1 i2 i3 i4 i5 i6 i7 i8
    go_wp2_with fail
    go_roundw
    case rel => exact ⟨j + 1, y, by omega, by go_num, HF2.out, HW3.out⟩
    case measure => simp [intOf]; omega
  ·have hjl : D.drop j = [] := List.drop_eq_nil_of_le (by omega)
   rw [hjl] at HFS
   have HF3 : Hid (fstC ok f.rc D = x) := HFS.out
   clear HFS hjl
   obtain ⟨z0, z1, z2, z3, z4, z5, z6, z7⟩ := fm_cells HW.out.fb
   obtain ⟨u0, u1, u2, u3, u4, u5, u6, u7⟩ := zf_cells HW.out.rb
   have fz0 := row_frozen HW.out.rb 0
   have fz1 := row_frozen HW.out.rb 1
   have fz2 := row_frozen HW.out.rb 2
   have fz3 := row_frozen HW.out.rb 3
   have fz4 := row_frozen HW.out.rb 4
   have fz5 := row_frozen HW.out.rb 5
   have fz6 := row_frozen HW.out.rb 6
   have fz7 := row_frozen HW.out.rb 7
   go_wp2_with fail
   generalize hwf : World.setCell _ _ _ = wf
   have hrow : wf.heap[w.heap.size + 2]? = some (.cells (fmC (fRate f x) so sk) 41 (0, 0)) := by rw [← hwf]; exact set8f_a _ _ _ _ _ _ _ _ _ HW.out.rb
   have hbel : Below w.heap.size w wf := by rw [← hwf]; exact set8f_b _ _ _ _ _ _ _ _ _ w (by omega) HW.out.low
   refine bodyPost_ret (v := .agg (fmC (fRate f x) so sk)) ?_ rfl ⟨by rw [HF3.out], hbel⟩
   rw [results_one rfl]
   have hld := run_loadVar_row (P := Tryz.prog) (wf) (w.heap.size + 2) 41 41 (fmC (fRate f x) so sk) (0, 0) _ hrow Tryz.underlying41 rfl info_Frame12
   simp [asAddr, Result.andThen, hld]
theorem z_rightWidth (f : Fm) (so : Option Addr) (sk : Nat) (a b c d : Int) (i : Inf) (e : Int) (s : ByteArray) (hr : I64 i.rate) (D : List Int) (hD : D.length ≤ 100) (ok : Int → Bool) (hok : ∀ x, ok x = true ↔ okC (fWidth f x) i) (da : Option Addr) (dc : Nat) (w : World) (hL : Lay w) (hf : FmAt w f so sk) (hDa : IntsAt w da D) : Calls Tryz.prog 89 #[fmV f so sk, infV a b c d i e s, .func (.func 92) #[] #[], .slice da D.length dc] w fun en w' => en = .returned (fmV (fWidth f (fstC ok f.wc D)) so sk) ∧ Below w.heap.size w w' := by
 have hDa0 := hDa
 have KCk : Hid (∀ x wx, I64 x → Below w.heap.size w wx → Calls Tryz.prog 19 #[fmV (fWidth f x) so sk, infV a b c d i e s] wx fun en w' => en = .returned (.int .i64 (if ok x = true then 0 else 60)) ∧ Below wx.heap.size wx w') := fun x wx hx hb => f_check (fWidth f x) so sk a b c d i e s hr _ (fun h => if_pos ((hok x).2 h)) (fun h => if_neg (fun h2 => h ((hok x).1 h2))) wx ⟨hf.S.below hb, hf.sk_, hf.num, hf.size, hf.sc, hf.rc, hx, hf.mo⟩ (hL.below hb)
 have HDA : Hid (IntsAt w da D) := hDa
 have HA : Hid (WR w (fWidth f f.wc) so sk a b c d i e s (((w.alloc (.cells (fmC f so sk) 41)).alloc (.cells (infC a b c d i e s) 38)).alloc (.cells #[.bool false, .int .i64 0, .int .i64 0, .int .i64 0, .int .i64 0, .int .i64 0, .int .i64 0, .slice none 0 0] 41))) := WR.new w f so sk a b c d i e s
 clear hL hf hDa hDa0 hr hok
 go_enter Tryz.func89, Tryz.ntmps89
 go_wp2_with fail
 generalize hwa : World.alloc _ _ = wa at *
 clear hwa
 go_loopw [10, 13] (fun s10 s13 wr => ∃ (j : Nat) (x : Int), j ≤ D.length ∧ s13 = .int .i64 (j : Int) ∧ fstC ok f.wc D = fstC ok x (D.drop j) ∧ WR w (fWidth f x) so sk a b c d i e s wr) (fun _ s13 _ => D.length - (intOf s13).toNat)
 case atStart => exact ⟨0, f.wc, Nat.zero_le _, rfl, rfl, HA.out⟩
 case round =>
  clear HA
  obtain ⟨j, x, hj, rfl, hfs, hwr⟩ := hrel
  have HFS : Hid (fstC ok f.wc D = fstC ok x (D.drop j)) := hfs
  have HW : Hid (WR w (fWidth f x) so sk a b c d i e s wr) := hwr
  clear hfs hwr
  by_cases hlt : j < D.length
  ·obtain ⟨b1, o1, hda, q1⟩ := HDA.out.at j hlt
   subst hda
   have r1 := q1 wr HW.out.low
   have HX : Hid (I64 (D.getD j 0)) := HDA.out.rng j
   have HF2 : Hid (fstC ok f.wc D = if ok (D.getD j 0) = true then D.getD j 0 else fstC ok (D.getD j 0) (D.drop (j + 1))) := by
    show _ = _
    rw [HFS.out, List.drop_eq_getElem_cons hlt]
    have e : D[j] = D.getD j 0 := by rw [List.getD_eq_getElem?_getD, List.getElem?_eq_getElem hlt]; rfl
    rw [e]; rfl
   clear q1 HFS
   generalize D.getD j 0 = y at *
   have KP := z_putWidth (fWidth f x) so sk y w.heap.size wr HW.out.fb
   have HW2 : Hid (WR w (fWidth f y) so sk a b c d i e s (wr.setCell ⟨w.heap.size, 5, none⟩ (.int .i64 y))) := HW.out.putWidth y
   clear HW
   go_wp2_with fail
   refine KP.mono ?_
   rintro en w2 ⟨rfl, hw2⟩
   rw [← hw2] at HW2
   clear KP hw2 r1
   obtain ⟨z0, z1, z2, z3, z4, z5, z6, z7⟩ := fm_cells HW2.out.fb
   obtain ⟨i0, i1, i2, i3, i4, i5, i6, i7, i8⟩ := inf_cells HW2.out.ib
   have KK := KCk.out y w2 HX.out HW2.out.low
   by_cases ho : ok y = true
   ·rw [if_pos ho] at HF2 KK
    clear ho
    go_wp2_with fail
    refine KK.mono ?_
    rintro en w3 ⟨rfl, hb3⟩
    have HW3 : Hid (WR w (fWidth f y) so sk a b c d i e s w3) := HW2.out.next hb3
    clear hb3 HW2 KK z0 z1 z2 z3 z4 z5 z6 z7 i0 i1 i2 i3 i4 i5 i6 i7 i8
    obtain ⟨z0, z1, z2, z3, z4, z5, z6, z7⟩ := fm_cells HW3.out.fb
    obtain ⟨u0, u1, u2, u3, u4, u5, u6, u7⟩ := zf_cells HW3.out.rb
    have fz0 := row_frozen HW3.out.rb 0
    have fz1 := row_frozen HW3.out.rb 1
    have fz2 := row_frozen HW3.out.rb 2
    have fz3 := row_frozen HW3.out.rb 3
    have fz4 := row_frozen HW3.out.rb 4
    have fz5 := row_frozen HW3.out.rb 5
    have fz6 := row_frozen HW3.out.rb 6
    have fz7 := row_frozen HW3.out.rb 7
    go_wp2_with fail
    generalize hwf : World.setCell _ _ _ = wf
    have hrow : wf.heap[w.heap.size + 2]? = some (.cells (fmC (fWidth f y) so sk) 41 (0, 0)) := by rw [← hwf]; exact set8f_a _ _ _ _ _ _ _ _ _ HW3.out.rb
    have hbel : Below w.heap.size w wf := by rw [← hwf]; exact set8f_b _ _ _ _ _ _ _ _ _ w (by omega) HW3.out.low
    refine bodyPost_ret (v := .agg (fmC (fWidth f y) so sk)) ?_ rfl ⟨by rw [HF2.out], hbel⟩
    rw [results_one rfl]
    have hld := run_loadVar_row (P := Tryz.prog) (wf) (w.heap.size + 2) 41 41 (fmC (fWidth f y) so sk) (0, 0) _ hrow Tryz.underlying41 rfl info_Frame12
    simp [asAddr, Result.andThen, hld]
   ·rw [if_neg ho] at HF2 KK
    clear ho
    go_wp2_with fail
    refine KK.mono ?_
    rintro en w3 ⟨rfl, hb3⟩
    have HW3 : Hid (WR w (fWidth f y) so sk a b c d i e s w3) := HW2.out.next hb3
    clear hb3 HW2 KK z0 z1 z2 z3 z4 z5 z6 z7 i0 i1 i2 i3 i4 i5 i6 i7 i8
    go_wp2_with fail
    go_roundw
    case rel => exact ⟨j + 1, y, by omega, by go_num, HF2.out, HW3.out⟩
    case measure => simp [intOf]; omega
  ·have hjl : D.drop j = [] := List.drop_eq_nil_of_le (by omega)
   rw [hjl] at HFS
   have HF3 : Hid (fstC ok f.wc D = x) := HFS.out
   clear HFS hjl
   obtain ⟨z0, z1, z2, z3, z4, z5, z6, z7⟩ := fm_cells HW.out.fb
   obtain ⟨u0, u1, u2, u3, u4, u5, u6, u7⟩ := zf_cells HW.out.rb
   have fz0 := row_frozen HW.out.rb 0
   have fz1 := row_frozen HW.out.rb 1
   have fz2 := row_frozen HW.out.rb 2
   have fz3 := row_frozen HW.out.rb 3
   have fz4 := row_frozen HW.out.rb 4
   have fz5 := row_frozen HW.out.rb 5
   have fz6 := row_frozen HW.out.rb 6
   have fz7 := row_frozen HW.out.rb 7
   go_wp2_with fail
   generalize hwf : World.setCell _ _ _ = wf
   have hrow : wf.heap[w.heap.size + 2]? = some (.cells (fmC (fWidth f x) so sk) 41 (0, 0)) := by rw [← hwf]; exact set8f_a _ _ _ _ _ _ _ _ _ HW.out.rb
   have hbel : Below w.heap.size w wf := by rw [← hwf]; exact set8f_b _ _ _ _ _ _ _ _ _ w (by omega) HW.out.low
   refine bodyPost_ret (v := .agg (fmC (fWidth f x) so sk)) ?_ rfl ⟨by rw [HF3.out], hbel⟩
   rw [results_one rfl]
   have hld := run_loadVar_row (P := Tryz.prog) (wf) (w.heap.size + 2) 41 41 (fmC (fWidth f x) so sk) (0, 0) _ hrow Tryz.underlying41 rfl info_Frame12
   simp [asAddr, Result.andThen, hld]
abbrev sizD : List Int := [1, 2, 3, 4, 5, 8, 9, 10, 11, 12, 13, 14, 15, 6, 7]
abbrev ratD : List Int := [1, 2, 3, 4, 5, 6, 7, 8, 9, 10, 11, 12, 13, 14, 0]
abbrev widD : List Int := [1, 2, 4, 5, 6, 0]
theorem fstC_64 (ok : Int → Bool) (x : Int) (D : List Int) (hx : I64 x) (hD : ∀ y ∈ D, I64 y) : I64 (fstC ok x D) := by
 rcases fstC_mem ok x D with h | h
 ·rw [h]; exact hx
 ·exact hD _ h
theorem WR.all {w X : World} {f : Fm} {so : Option Addr} {sk : Nat} {a b c d : Int} {i : Inf} {e : Int} {s : ByteArray} (h : WR w f so sk a b c d i e s X) (f' : Fm) : WR w f' so sk a b c d i e s ((((((((X.setCell ⟨w.heap.size, 0, none⟩ (.bool f'.v)).setCell ⟨w.heap.size, 1, none⟩ (.int .i64 f'.num)).setCell ⟨w.heap.size, 2, none⟩ (.int .i64 f'.size)).setCell ⟨w.heap.size, 3, none⟩ (.int .i64 f'.sc)).setCell ⟨w.heap.size, 4, none⟩ (.int .i64 f'.rc)).setCell ⟨w.heap.size, 5, none⟩ (.int .i64 f'.wc)).setCell ⟨w.heap.size, 6, none⟩ (.int .i64 f'.mo)).setCell ⟨w.heap.size, 7, none⟩ (.slice so f'.S.length sk)) :=
 ⟨set8f_a _ _ _ _ _ _ _ _ _ h.fb, by rw [set8f_d _ _ _ _ _ _ _ _ _ _ (by omega)]; exact h.ib, by rw [set8f_d _ _ _ _ _ _ _ _ _ _ (by omega)]; exact h.rb, set8f_b _ _ _ _ _ _ _ _ _ w (Nat.le_refl _) h.low⟩
theorem z_withCodes (f : Fm) (so : Option Addr) (sk : Nat) (a b c d : Int) (i : Inf) (e : Int) (s : ByteArray) (hr : I64 i.rate) (ok1 ok2 ok3 : Int → Bool) (h1 : ∀ x, ok1 x = true ↔ okC (fSize f x) i) (h2 : ∀ x, ok2 x = true ↔ okC (fRate (fSize f (fstC ok1 f.sc sizD)) x) i) (h3 : ∀ x, ok3 x = true ↔ okC (fWidth (fRate (fSize f (fstC ok1 f.sc sizD)) (fstC ok2 (fSize f (fstC ok1 f.sc sizD)).rc ratD)) x) i) (w : World) (hL : Lay w) (hf : FmAt w f so sk) : Calls Tryz.prog 41 #[fmV f so sk, infV a b c d i e s] w fun en w' => en = .returned (fmV (fWidth (fRate (fSize f (fstC ok1 f.sc sizD)) (fstC ok2 (fSize f (fstC ok1 f.sc sizD)).rc ratD)) (fstC ok3 (fRate (fSize f (fstC ok1 f.sc sizD)) (fstC ok2 (fSize f (fstC ok1 f.sc sizD)).rc ratD)).wc widD)) so sk) ∧ Below w.heap.size w w' := by
 have HR : Hid (I64 i.rate) := hr
 have HL : Hid (Lay w) := hL
 have HO1 : Hid (∀ x, ok1 x = true ↔ okC (fSize f x) i) := h1
 have HO2 : Hid (∀ x, ok2 x = true ↔ okC (fRate (fSize f (fstC ok1 f.sc sizD)) x) i) := h2
 have HO3 : Hid (∀ x, ok3 x = true ↔ okC (fWidth (fRate (fSize f (fstC ok1 f.sc sizD)) (fstC ok2 (fSize f (fstC ok1 f.sc sizD)).rc ratD)) x) i) := h3
 have HF1 : Hid (∀ wx, Below w.heap.size w wx → FmAt wx f so sk) := fun wx hb => ⟨hf.S.below hb, hf.sk_, hf.num, hf.size, hf.sc, hf.rc, hf.wc, hf.mo⟩
 have hc1 : I64 (fstC ok1 f.sc sizD) := fstC_64 ok1 f.sc sizD hf.sc (by decide)
 have hc2 : I64 (fstC ok2 (fSize f (fstC ok1 f.sc sizD)).rc ratD) := fstC_64 ok2 f.rc ratD hf.rc (by decide)
 have HF2 : Hid (∀ wx, Below w.heap.size w wx → FmAt wx (fSize f (fstC ok1 f.sc sizD)) so sk) := fun wx hb => ⟨hf.S.below hb, hf.sk_, hf.num, hf.size, hc1, hf.rc, hf.wc, hf.mo⟩
 have HF3 : Hid (∀ wx, Below w.heap.size w wx → FmAt wx (fRate (fSize f (fstC ok1 f.sc sizD)) (fstC ok2 (fSize f (fstC ok1 f.sc sizD)).rc ratD)) so sk) := fun wx hb => ⟨hf.S.below hb, hf.sk_, hf.num, hf.size, hc1, hc2, hf.wc, hf.mo⟩
 have HW0 : Hid (WR w f so sk a b c d i e s (((w.alloc (.cells (fmC f so sk) 41)).alloc (.cells (infC a b c d i e s) 38)).alloc (.cells #[.bool false, .int .i64 0, .int .i64 0, .int .i64 0, .int .i64 0, .int .i64 0, .int .i64 0, .slice none 0 0] 41))) := WR.new w f so sk a b c d i e s
 clear hr hL h1 h2 h3 hf hc1 hc2
 go_enter Tryz.func41, Tryz.ntmps41
 go_upto_region 1 with fail
 generalize hwa : World.alloc _ _ = wa at *
 clear hwa
 have HW1a : Hid (WR w f so sk a b c d i e s (wa.alloc (.cells #[.int .i64 1, .int .i64 2, .int .i64 3, .int .i64 4, .int .i64 5, .int .i64 8, .int .i64 9, .int .i64 10, .int .i64 11, .int .i64 12, .int .i64 13, .int .i64 14, .int .i64 15, .int .i64 6, .int .i64 7] 3))) := HW0.out.next ((Below.refl _ _).alloc (Nat.le_refl _) _)
 have K1 : Calls Tryz.prog 89 #[fmV f so sk, infV a b c d i e s, .func (.func 90) #[] #[], .slice (some ⟨wa.heap.size, 0, none⟩) 15 15] (wa.alloc (.cells #[.int .i64 1, .int .i64 2, .int .i64 3, .int .i64 4, .int .i64 5, .int .i64 8, .int .i64 9, .int .i64 10, .int .i64 11, .int .i64 12, .int .i64 13, .int .i64 14, .int .i64 15, .int .i64 6, .int .i64 7] 3)) fun en w' => en = .returned (fmV (fSize f (fstC ok1 f.sc sizD)) so sk) ∧ Below (wa.alloc (.cells #[.int .i64 1, .int .i64 2, .int .i64 3, .int .i64 4, .int .i64 5, .int .i64 8, .int .i64 9, .int .i64 10, .int .i64 11, .int .i64 12, .int .i64 13, .int .i64 14, .int .i64 15, .int .i64 6, .int .i64 7] 3)).heap.size (wa.alloc (.cells #[.int .i64 1, .int .i64 2, .int .i64 3, .int .i64 4, .int .i64 5, .int .i64 8, .int .i64 9, .int .i64 10, .int .i64 11, .int .i64 12, .int .i64 13, .int .i64 14, .int .i64 15, .int .i64 6, .int .i64 7] 3)) w' := z_rightSize f so sk a b c d i e s HR.out sizD (by decide) ok1 HO1.out (some ⟨wa.heap.size, 0, none⟩) 15 _ (HL.out.below HW1a.out.low) (HF1.out _ HW1a.out.low) (ints_new wa sizD (by decide) (by decide))
 obtain ⟨z0, z1, z2, z3, z4, z5, z6, z7⟩ := fm_cells HW0.out.fb
 obtain ⟨i0, i1, i2, i3, i4, i5, i6, i7, i8⟩ := inf_cells HW0.out.ib
 go_wp2_with fail
 refine K1.mono ?_
 rintro en w1 ⟨rfl, hb1⟩
 have HW1b : Hid (WR w f so sk a b c d i e s w1) := HW1a.out.next hb1
 clear K1 hb1 HW1a HW0 z0 z1 z2 z3 z4 z5 z6 z7 i0 i1 i2 i3 i4 i5 i6 i7 i8
 obtain ⟨z0, z1, z2, z3, z4, z5, z6, z7⟩ := fm_cells HW1b.out.fb
 have fz0 := row_frozen HW1b.out.fb 0
 have fz1 := row_frozen HW1b.out.fb 1
 have fz2 := row_frozen HW1b.out.fb 2
 have fz3 := row_frozen HW1b.out.fb 3
 have fz4 := row_frozen HW1b.out.fb 4
 have fz5 := row_frozen HW1b.out.fb 5
 have fz6 := row_frozen HW1b.out.fb 6
 have fz7 := row_frozen HW1b.out.fb 7
 have HW1 : Hid (WR w (fSize f (fstC ok1 f.sc sizD)) so sk a b c d i e s ((((((((w1.setCell ⟨w.heap.size, 0, none⟩ (.bool (fSize f (fstC ok1 f.sc sizD)).v)).setCell ⟨w.heap.size, 1, none⟩ (.int .i64 (fSize f (fstC ok1 f.sc sizD)).num)).setCell ⟨w.heap.size, 2, none⟩ (.int .i64 (fSize f (fstC ok1 f.sc sizD)).size)).setCell ⟨w.heap.size, 3, none⟩ (.int .i64 (fSize f (fstC ok1 f.sc sizD)).sc)).setCell ⟨w.heap.size, 4, none⟩ (.int .i64 (fSize f (fstC ok1 f.sc sizD)).rc)).setCell ⟨w.heap.size, 5, none⟩ (.int .i64 (fSize f (fstC ok1 f.sc sizD)).wc)).setCell ⟨w.heap.size, 6, none⟩ (.int .i64 (fSize f (fstC ok1 f.sc sizD)).mo)).setCell ⟨w.heap.size, 7, none⟩ (.slice so (fSize f (fstC ok1 f.sc sizD)).S.length sk))) := HW1b.out.all (fSize f (fstC ok1 f.sc sizD))
 go_upto_region 2 with fail
 generalize hws : World.setCell _ _ _ = w1c at *
 clear hws HW1b z0 z1 z2 z3 z4 z5 z6 z7 fz0 fz1 fz2 fz3 fz4 fz5 fz6 fz7
 have HW2a : Hid (WR w (fSize f (fstC ok1 f.sc sizD)) so sk a b c d i e s (w1c.alloc (.cells #[.int .i64 1, .int .i64 2, .int .i64 3, .int .i64 4, .int .i64 5, .int .i64 6, .int .i64 7, .int .i64 8, .int .i64 9, .int .i64 10, .int .i64 11, .int .i64 12, .int .i64 13, .int .i64 14, .int .i64 0] 3))) := HW1.out.next ((Below.refl _ _).alloc (Nat.le_refl _) _)
 have K2 : Calls Tryz.prog 89 #[fmV (fSize f (fstC ok1 f.sc sizD)) so sk, infV a b c d i e s, .func (.func 91) #[] #[], .slice (some ⟨w1c.heap.size, 0, none⟩) 15 15] (w1c.alloc (.cells #[.int .i64 1, .int .i64 2, .int .i64 3, .int .i64 4, .int .i64 5, .int .i64 6, .int .i64 7, .int .i64 8, .int .i64 9, .int .i64 10, .int .i64 11, .int .i64 12, .int .i64 13, .int .i64 14, .int .i64 0] 3)) fun en w' => en = .returned (fmV (fRate (fSize f (fstC ok1 f.sc sizD)) (fstC ok2 (fSize f (fstC ok1 f.sc sizD)).rc ratD)) so sk) ∧ Below (w1c.alloc (.cells #[.int .i64 1, .int .i64 2, .int .i64 3, .int .i64 4, .int .i64 5, .int .i64 6, .int .i64 7, .int .i64 8, .int .i64 9, .int .i64 10, .int .i64 11, .int .i64 12, .int .i64 13, .int .i64 14, .int .i64 0] 3)).heap.size (w1c.alloc (.cells #[.int .i64 1, .int .i64 2, .int .i64 3, .int .i64 4, .int .i64 5, .int .i64 6, .int .i64 7, .int .i64 8, .int .i64 9, .int .i64 10, .int .i64 11, .int .i64 12, .int .i64 13, .int .i64 14, .int .i64 0] 3)) w' := z_rightRate (fSize f (fstC ok1 f.sc sizD)) so sk a b c d i e s HR.out ratD (by decide) ok2 HO2.out (some ⟨w1c.heap.size, 0, none⟩) 15 _ (HL.out.below HW2a.out.low) (HF2.out _ HW2a.out.low) (ints_new w1c ratD (by decide) (by decide))
 obtain ⟨z0, z1, z2, z3, z4, z5, z6, z7⟩ := fm_cells HW1.out.fb
 obtain ⟨i0, i1, i2, i3, i4, i5, i6, i7, i8⟩ := inf_cells HW1.out.ib
 go_wp2_with fail
 refine K2.mono ?_
 rintro en w2 ⟨rfl, hb2⟩
 have HW2b : Hid (WR w (fSize f (fstC ok1 f.sc sizD)) so sk a b c d i e s w2) := HW2a.out.next hb2
 clear K2 hb2 HW2a HW1 z0 z1 z2 z3 z4 z5 z6 z7 i0 i1 i2 i3 i4 i5 i6 i7 i8
 obtain ⟨z0, z1, z2, z3, z4, z5, z6, z7⟩ := fm_cells HW2b.out.fb
 have fz0 := row_frozen HW2b.out.fb 0
 have fz1 := row_frozen HW2b.out.fb 1
 have fz2 := row_frozen HW2b.out.fb 2
 have fz3 := row_frozen HW2b.out.fb 3
 have fz4 := row_frozen HW2b.out.fb 4
 have fz5 := row_frozen HW2b.out.fb 5
 have fz6 := row_frozen HW2b.out.fb 6
 have fz7 := row_frozen HW2b.out.fb 7
 have HW2 : Hid (WR w (fRate (fSize f (fstC ok1 f.sc sizD)) (fstC ok2 (fSize f (fstC ok1 f.sc sizD)).rc ratD)) so sk a b c d i e s ((((((((w2.setCell ⟨w.heap.size, 0, none⟩ (.bool (fRate (fSize f (fstC ok1 f.sc sizD)) (fstC ok2 (fSize f (fstC ok1 f.sc sizD)).rc ratD)).v)).setCell ⟨w.heap.size, 1, none⟩ (.int .i64 (fRate (fSize f (fstC ok1 f.sc sizD)) (fstC ok2 (fSize f (fstC ok1 f.sc sizD)).rc ratD)).num)).setCell ⟨w.heap.size, 2, none⟩ (.int .i64 (fRate (fSize f (fstC ok1 f.sc sizD)) (fstC ok2 (fSize f (fstC ok1 f.sc sizD)).rc ratD)).size)).setCell ⟨w.heap.size, 3, none⟩ (.int .i64 (fRate (fSize f (fstC ok1 f.sc sizD)) (fstC ok2 (fSize f (fstC ok1 f.sc sizD)).rc ratD)).sc)).setCell ⟨w.heap.size, 4, none⟩ (.int .i64 (fRate (fSize f (fstC ok1 f.sc sizD)) (fstC ok2 (fSize f (fstC ok1 f.sc sizD)).rc ratD)).rc)).setCell ⟨w.heap.size, 5, none⟩ (.int .i64 (fRate (fSize f (fstC ok1 f.sc sizD)) (fstC ok2 (fSize f (fstC ok1 f.sc sizD)).rc ratD)).wc)).setCell ⟨w.heap.size, 6, none⟩ (.int .i64 (fRate (fSize f (fstC ok1 f.sc sizD)) (fstC ok2 (fSize f (fstC ok1 f.sc sizD)).rc ratD)).mo)).setCell ⟨w.heap.size, 7, none⟩ (.slice so (fRate (fSize f (fstC ok1 f.sc sizD)) (fstC ok2 (fSize f (fstC ok1 f.sc sizD)).rc ratD)).S.length sk))) := HW2b.out.all (fRate (fSize f (fstC ok1 f.sc sizD)) (fstC ok2 (fSize f (fstC ok1 f.sc sizD)).rc ratD))
 go_upto_region 3 with fail
 generalize hws : World.setCell _ _ _ = w2c at *
 clear hws HW2b z0 z1 z2 z3 z4 z5 z6 z7 fz0 fz1 fz2 fz3 fz4 fz5 fz6 fz7
 have HW3a : Hid (WR w (fRate (fSize f (fstC ok1 f.sc sizD)) (fstC ok2 (fSize f (fstC ok1 f.sc sizD)).rc ratD)) so sk a b c d i e s (w2c.alloc (.cells #[.int .i64 1, .int .i64 2, .int .i64 4, .int .i64 5, .int .i64 6, .int .i64 0] 3))) := HW2.out.next ((Below.refl _ _).alloc (Nat.le_refl _) _)
 have K3 : Calls Tryz.prog 89 #[fmV (fRate (fSize f (fstC ok1 f.sc sizD)) (fstC ok2 (fSize f (fstC ok1 f.sc sizD)).rc ratD)) so sk, infV a b c d i e s, .func (.func 92) #[] #[], .slice (some ⟨w2c.heap.size, 0, none⟩) 6 6] (w2c.alloc (.cells #[.int .i64 1, .int .i64 2, .int .i64 4, .int .i64 5, .int .i64 6, .int .i64 0] 3)) fun en w' => en = .returned (fmV (fWidth (fRate (fSize f (fstC ok1 f.sc sizD)) (fstC ok2 (fSize f (fstC ok1 f.sc sizD)).rc ratD)) (fstC ok3 (fRate (fSize f (fstC ok1 f.sc sizD)) (fstC ok2 (fSize f (fstC ok1 f.sc sizD)).rc ratD)).wc widD)) so sk) ∧ Below (w2c.alloc (.cells #[.int .i64 1, .int .i64 2, .int .i64 4, .int .i64 5, .int .i64 6, .int .i64 0] 3)).heap.size (w2c.alloc (.cells #[.int .i64 1, .int .i64 2, .int .i64 4, .int .i64 5, .int .i64 6, .int .i64 0] 3)) w' := z_rightWidth (fRate (fSize f (fstC ok1 f.sc sizD)) (fstC ok2 (fSize f (fstC ok1 f.sc sizD)).rc ratD)) so sk a b c d i e s HR.out widD (by decide) ok3 HO3.out (some ⟨w2c.heap.size, 0, none⟩) 6 _ (HL.out.below HW3a.out.low) (HF3.out _ HW3a.out.low) (ints_new w2c widD (by decide) (by decide))
 obtain ⟨z0, z1, z2, z3, z4, z5, z6, z7⟩ := fm_cells HW2.out.fb
 obtain ⟨i0, i1, i2, i3, i4, i5, i6, i7, i8⟩ := inf_cells HW2.out.ib
 go_wp2_with fail
 refine K3.mono ?_
 rintro en w3 ⟨rfl, hb3⟩
 have HW3b : Hid (WR w (fRate (fSize f (fstC ok1 f.sc sizD)) (fstC ok2 (fSize f (fstC ok1 f.sc sizD)).rc ratD)) so sk a b c d i e s w3) := HW3a.out.next hb3
 clear K3 hb3 HW3a HW2 z0 z1 z2 z3 z4 z5 z6 z7 i0 i1 i2 i3 i4 i5 i6 i7 i8
 obtain ⟨z0, z1, z2, z3, z4, z5, z6, z7⟩ := fm_cells HW3b.out.fb
 obtain ⟨u0, u1, u2, u3, u4, u5, u6, u7⟩ := zf_cells HW3b.out.rb
 have fz0 := row_frozen HW3b.out.rb 0
 have fz1 := row_frozen HW3b.out.rb 1
 have fz2 := row_frozen HW3b.out.rb 2
 have fz3 := row_frozen HW3b.out.rb 3
 have fz4 := row_frozen HW3b.out.rb 4
 have fz5 := row_frozen HW3b.out.rb 5
 have fz6 := row_frozen HW3b.out.rb 6
 have fz7 := row_frozen HW3b.out.rb 7
 go_wp2_with fail
 generalize hwf : World.setCell _ _ _ = wf
 have hrow : wf.heap[w.heap.size + 2]? = some (.cells (fmC (fWidth (fRate (fSize f (fstC ok1 f.sc sizD)) (fstC ok2 (fSize f (fstC ok1 f.sc sizD)).rc ratD)) (fstC ok3 (fRate (fSize f (fstC ok1 f.sc sizD)) (fstC ok2 (fSize f (fstC ok1 f.sc sizD)).rc ratD)).wc widD)) so sk) 41 (0, 0)) := by rw [← hwf]; exact set8f_a _ _ _ _ _ _ _ _ _ HW3b.out.rb
 have hbel : Below w.heap.size w wf := by rw [← hwf]; exact set8f_b _ _ _ _ _ _ _ _ _ w (by omega) HW3b.out.low
 refine bodyPost_ret (v := .agg (fmC (fWidth (fRate (fSize f (fstC ok1 f.sc sizD)) (fstC ok2 (fSize f (fstC ok1 f.sc sizD)).rc ratD)) (fstC ok3 (fRate (fSize f (fstC ok1 f.sc sizD)) (fstC ok2 (fSize f (fstC ok1 f.sc sizD)).rc ratD)).wc widD)) so sk)) ?_ rfl ⟨rfl, hbel⟩
 rw [results_one rfl]
 have hld := run_loadVar_row (P := Tryz.prog) (wf) (w.heap.size + 2) 41 41 (fmC (fWidth (fRate (fSize f (fstC ok1 f.sc sizD)) (fstC ok2 (fSize f (fstC ok1 f.sc sizD)).rc ratD)) (fstC ok3 (fRate (fSize f (fstC ok1 f.sc sizD)) (fstC ok2 (fSize f (fstC ok1 f.sc sizD)).rc ratD)).wc widD)) so sk) (0, 0) _ hrow Tryz.underlying41 rfl info_Frame12
 simp [asAddr, Result.andThen, hld]
end Go.Proofs.YthgpleelpeacjaaGreatDoor
