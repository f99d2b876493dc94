/- Own text. -/
import Derived.Test.YthgpleelpeacjaaGreatDoorF15
import Derived.Test.YthgpleelpeacjaaGreatDoorF13
set_option linter.unusedSimpArgs false
set_option linter.unusedVariables false
set_option maxRecDepth 20000
set_option maxHeartbeats 12800000
namespace Go.Proofs.YthgpleelpeacjaaGreatDoor
open Go.RowKit
theorem i64_mask (n : Int) (k : Nat) (hk : k ≤ 62) : bits BinOp.and IntKind.i64 n ((2 ^ k - 1 : Nat) : Int) = n % ((2 ^ k : Nat) : Int) := by
 show IntKind.i64.wrap ((BitVec.ofInt 64 n &&& BitVec.ofInt 64 ((2 ^ k - 1 : Nat) : Int)).toNat : Int) = _
 have h1 : (2 : Nat) ^ k ≤ 2 ^ 62 := Nat.pow_le_pow_right (by decide) hk
 have h0 : 0 < (2 : Nat) ^ k := Nat.two_pow_pos k
 have e62 : (2 : Nat) ^ 62 = 4611686018427387904 := by decide
 have e2 : (BitVec.ofInt 64 ((2 ^ k - 1 : Nat) : Int)).toNat = 2 ^ k - 1 := by
  rw [BitVec.toNat_ofInt]
  have e64 : (2 : Nat) ^ 64 = 18446744073709551616 := by decide
  have : (((2 ^ k - 1 : Nat) : Int) % ((2 ^ 64 : Nat) : Int)) = ((2 ^ k - 1 : Nat) : Int) := Int.emod_eq_of_lt (by omega) (by omega)
  rw [this]; rfl
 rw [BitVec.toNat_and, BitVec.toNat_ofInt, e2, Nat.and_two_pow_sub_one_eq_mod]
 have hd : ((2 ^ k : Nat) : Int) ∣ ((2 ^ 64 : Nat) : Int) := Int.natCast_dvd_natCast.2 (Nat.pow_dvd_pow 2 (by omega))
 have e3 : (((n % ((2 ^ 64 : Nat) : Int)).toNat % 2 ^ k : Nat) : Int) = n % ((2 ^ k : Nat) : Int) := by
  rw [Int.natCast_emod, Int.toNat_of_nonneg (Int.emod_nonneg _ (by decide)), Int.emod_emod_of_dvd _ hd]
 rw [e3]
 have h2 := Int.emod_nonneg n (show ((2 ^ k : Nat) : Int) ≠ 0 by omega)
 have h3 := Int.emod_lt_of_pos n (show (0 : Int) < ((2 ^ k : Nat) : Int) by omega)
 rw [IntKind.wrap_i64]
 omega
theorem dvB_at (l : List Int) (k : Nat) : dvB l k = true ↔ ∀ j, j < l.length → l.getD j 0 % ((2 ^ k : Nat) : Int) = 0 := by
 rw [dvB_iff]
 have e : ((2 ^ k : Nat) : Int) = (2 : Int) ^ k := by simp
 rw [e]
 constructor
 ·intro h j hj
  refine h _ ?_
  rw [List.getD_eq_getElem?_getD, List.getElem?_eq_getElem hj]; exact List.getElem_mem hj
 ·intro h n hn
  obtain ⟨j, hj, rfl⟩ := List.getElem_of_mem hn
  have := h j hj
  rw [List.getD_eq_getElem?_getD, List.getElem?_eq_getElem hj] at this
  exact this
theorem xdiv_spec (l : List Int) (k : Nat) (hk : k ≤ 31) (la : Option Addr) (lc : Nat) (w : World) (hl : IntsAt w la l) : Calls Tryz.prog 77 #[.slice la l.length lc, .int .i64 (k : Int)] w fun e w' => e = .returned (.bool (dvB l k)) ∧ w' = w := by
 have h1 := hl.len
 have HL : Hid (IntsAt w la l) := hl
 have HDT : Hid (dvB l k = true ↔ ∀ j, j < l.length → l.getD j 0 % ((2 ^ k : Nat) : Int) = 0) := dvB_at l k
 have HM : Hid (∀ n : Int, bits BinOp.and IntKind.i64 n ((2 ^ k - 1 : Nat) : Int) = n % ((2 ^ k : Nat) : Int)) := fun n => i64_mask n k (by omega)
 have hp1 : 1 ≤ 2 ^ k := Nat.one_le_two_pow
 have hp2 : 2 ^ k ≤ 2147483648 := Nat.le_trans (Nat.pow_le_pow_right (by decide) hk) (by decide)
 have hpw : (2 : Int) ^ k = ((2 ^ k : Nat) : Int) := by simp
 generalize hN : 2 ^ k = N at *
 have hpm : (N : Int) - 1 = ((N - 1 : Nat) : Int) := by omega
 clear hl hN
 go_enter Tryz.func77, Tryz.ntmps77
 go_wp2_with fail
 go_loopw [5] (fun t wr => ∃ i : Nat, i ≤ l.length ∧ t = .int .i64 (i : Int) ∧ (∀ j, j < i → l.getD j 0 % (N : Int) = 0) ∧ wr = w) (fun t _ => l.length - (intOf t).toNat)
 case atStart => exact ⟨0, Nat.zero_le _, rfl, fun j hj => absurd hj (Nat.not_lt_zero _), rfl⟩
 case round =>
  obtain ⟨i, hi, rfl, hall, rfl⟩ := hrel
  have HA : Hid (∀ j, j < i → l.getD j 0 % (N : Int) = 0) := hall
  clear hall
  by_cases hlt : i < l.length
  ·obtain ⟨b1, o1, rfl, q1⟩ := HL.out.at i hlt
   have r1 := q1 wr (Below.refl _ _)
   have hb := HM.out (l.getD i 0)
   clear q1
   have HX : Hid (l.getD i 0 = l.getD i 0) := rfl
   obtain ⟨x, hx⟩ : ∃ x, x = l.getD i 0 := ⟨_, rfl⟩
   have HXE : Hid (x = l.getD i 0) := hx
   rw [← hx] at r1 hb
   clear hx HX
   generalize hrr : x % (N : Int) = rr at *
   have HRR : Hid (x % (N : Int) = rr) := hrr
   clear hrr
   by_cases h0 : rr = 0
   ·have hbn : (rr != 0) = false := by rw [bne_eq_false_iff_eq]; exact h0
    have HA2 : Hid (∀ j, j < i + 1 → l.getD j 0 % (N : Int) = 0) := fun j hj => by
     by_cases e : j = i
     ·rw [e, ← HXE.out, HRR.out, h0]
     ·exact HA.out j (by omega)
    go_wp2_with fail
    go_roundw
    case rel => exact ⟨i + 1, by omega, by go_num, HA2.out, by trivial⟩
    case measure => simp [intOf]; omega
   ·have hbn : (rr != 0) = true := by rw [bne_iff_ne]; exact h0
    have HF : Hid (dvB l k = false) := by
     show _ = _
     cases h : dvB l k with
     | false => rfl
     | true =>
      have := HDT.out.1 h i hlt
      rw [← HXE.out, HRR.out] at this
      exact absurd this h0
    go_wp2_with fail
    go_ret
    exact ⟨by rw [HF.out]; rfl, rfl⟩
  ·have HF : Hid (dvB l k = true) := HDT.out.2 (fun j hj => HA.out j (by omega))
   go_wp2_with fail
   go_ret
   exact ⟨by rw [HF.out]; rfl, rfl⟩
theorem set10_a {wx : World} (n : Nat) (v0 v1 v2 v3 v4 v5 v6 v7 v8 v9 : Value) {a0 a1 a2 a3 a4 a5 a6 a7 a8 a9 : Value} {t : TypeId} (h : wx.heap[n]? = some (.cells #[a0, a1, a2, a3, a4, a5, a6, a7, a8, a9] t (0, 0))) : ((((((((((wx.setCell ⟨n, 0, none⟩ v0).setCell ⟨n, 1, none⟩ v1).setCell ⟨n, 2, none⟩ v2).setCell ⟨n, 3, none⟩ v3).setCell ⟨n, 4, none⟩ v4).setCell ⟨n, 5, none⟩ v5).setCell ⟨n, 6, none⟩ v6).setCell ⟨n, 7, none⟩ v7).setCell ⟨n, 8, none⟩ v8).setCell ⟨n, 9, none⟩ v9).heap[n]? = some (.cells #[v0, v1, v2, v3, v4, v5, v6, v7, v8, v9] t (0, 0)) := by
 rw [block_setCell _ _ _ _ _ _ (block_setCell _ _ _ _ _ _ (block_setCell _ _ _ _ _ _ (block_setCell _ _ _ _ _ _ (block_setCell _ _ _ _ _ _ (block_setCell _ _ _ _ _ _ (block_setCell _ _ _ _ _ _ (block_setCell _ _ _ _ _ _ (block_setCell _ _ _ _ _ _ (block_setCell _ _ _ _ _ _ h)))))))))]
 simp only [List.setIfInBounds_toArray, List.set_cons_zero, List.set_cons_succ]
theorem set10_c {wx : World} (n : Nat) (v0 v1 v2 v3 v4 v5 v6 v7 v8 v9 : Value) (w : World) (S : Nat → Prop) (hn : S n ∨ w.heap.size ≤ n) (h : Stays S w wx) : Stays S w ((((((((((wx.setCell ⟨n, 0, none⟩ v0).setCell ⟨n, 1, none⟩ v1).setCell ⟨n, 2, none⟩ v2).setCell ⟨n, 3, none⟩ v3).setCell ⟨n, 4, none⟩ v4).setCell ⟨n, 5, none⟩ v5).setCell ⟨n, 6, none⟩ v6).setCell ⟨n, 7, none⟩ v7).setCell ⟨n, 8, none⟩ v8).setCell ⟨n, 9, none⟩ v9) :=
 (((((((((h.setCell _ _ hn).setCell _ _ hn).setCell _ _ hn).setCell _ _ hn).setCell _ _ hn).setCell _ _ hn).setCell _ _ hn).setCell _ _ hn).setCell _ _ hn).setCell _ _ hn
theorem set10_b {wx : World} (n : Nat) (v0 v1 v2 v3 v4 v5 v6 v7 v8 v9 : Value) (w : World) (hn : w.heap.size ≤ n) (h : Below w.heap.size w wx) : Below w.heap.size w ((((((((((wx.setCell ⟨n, 0, none⟩ v0).setCell ⟨n, 1, none⟩ v1).setCell ⟨n, 2, none⟩ v2).setCell ⟨n, 3, none⟩ v3).setCell ⟨n, 4, none⟩ v4).setCell ⟨n, 5, none⟩ v5).setCell ⟨n, 6, none⟩ v6).setCell ⟨n, 7, none⟩ v7).setCell ⟨n, 8, none⟩ v8).setCell ⟨n, 9, none⟩ v9) :=
 (((((((((h.setCell hn _).setCell hn _).setCell hn _).setCell hn _).setCell hn _).setCell hn _).setCell hn _).setCell hn _).setCell hn _).setCell hn _
theorem set10_d {wx : World} (n : Nat) (v0 v1 v2 v3 v4 v5 v6 v7 v8 v9 : Value) (j : Nat) (h0 : j ≠ n) : ((((((((((wx.setCell ⟨n, 0, none⟩ v0).setCell ⟨n, 1, none⟩ v1).setCell ⟨n, 2, none⟩ v2).setCell ⟨n, 3, none⟩ v3).setCell ⟨n, 4, none⟩ v4).setCell ⟨n, 5, none⟩ v5).setCell ⟨n, 6, none⟩ v6).setCell ⟨n, 7, none⟩ v7).setCell ⟨n, 8, none⟩ v8).setCell ⟨n, 9, none⟩ v9).heap[j]? = wx.heap[j]? := by
 rw [Below.heap_setCell _ _ _ j h0, Below.heap_setCell _ _ _ j h0, Below.heap_setCell _ _ _ j h0, Below.heap_setCell _ _ _ j h0, Below.heap_setCell _ _ _ j h0, Below.heap_setCell _ _ _ j h0, Below.heap_setCell _ _ _ j h0, Below.heap_setCell _ _ _ j h0, Below.heap_setCell _ _ _ j h0, Below.heap_setCell _ _ _ j h0]
theorem row_frozen {w : World} {g : Nat} {cs : Array Value} {t : TypeId} (h : w.heap[g]? = some (.cells cs t (0, 0))) (i : Nat) : w.frozen? ⟨g, i, none⟩ = false := by simp [World.frozen?, h]
theorem info_Sub : (Tryz.prog.info? 27).map (·.size) = some 10 := by kernel_rfl
def wst (s : ByteArray) (a : Nat) : Option (Int × Nat) :=
 if getE s a 1 = 0 then (if getV s a 1 = 1 then (if unaE s (getA s a 1) = 0 then some (unaV s (getA s a 1) + 1, unaA s (getA s a 1)) else none) else some (0, getA s a 1)) else none
theorem info_coding : (Tryz.prog.info? 63).map (·.size) = some 3 := by kernel_rfl
theorem z_lpc (C : List Int) (ca : Option Addr) (cc : Nat) (w : World) : Calls Tryz.prog 189 #[.slice ca C.length cc] w fun e w' => e = .returned (.agg (subC (lpS 0 C) ca cc none 0 none 0)) ∧ Below w.heap.size w w' := by
 go_enter Tryz.func189, Tryz.ntmps189
 go_wp2_with fail
 refine bodyPost_ret (v := .agg #[.int .i64 3, .int .i64 (C.length : Int), .int .i64 0, .int .i64 7, .int .i64 5, .slice ca C.length cc, .int .i64 0, .int .i64 0, .slice none 0 0, .slice none 0 0]) ?_ rfl ⟨rfl, (Below.refl _ _).alloc (Nat.le_refl _) _⟩
 rw [results_one rfl]
 have hld := run_loadVar_row (P := Tryz.prog) (w.alloc (.cells #[.int .i64 3, .int .i64 (C.length : Int), .int .i64 0, .int .i64 7, .int .i64 5, .slice ca C.length cc, .int .i64 0, .int .i64 0, .slice none 0 0, .slice none 0 0] 27)) (w.heap.size) 27 27 #[.int .i64 3, .int .i64 (C.length : Int), .int .i64 0, .int .i64 7, .int .i64 5, .slice ca C.length cc, .int .i64 0, .int .i64 0, .slice none 0 0, .slice none 0 0] (0, 0) _ (heap_alloc_new _ _) Tryz.underlying27 rfl info_Sub
 simp [asAddr, Result.andThen, hld]
theorem z_coefsBits (q : Sb) (ca : Option Addr) (cc : Nat) (pa : Option Addr) (pc : Nat) (ea : Option Addr) (ec : Nat) (r : Int) (hr : r = if q.k = 2 then 0 else 9 + q.o * q.p) (hr2 : I64 r) (hop : I64 (q.o * q.p)) (w : World) : Calls Tryz.prog 145 #[subV q ca cc pa pc ea ec] w fun e w' => e = .returned (.int .i64 r) ∧ Below w.heap.size w w' := by
 have HB : Hid (Below w.heap.size w (w.alloc (.cells (subC q ca cc pa pc ea ec) 27))) := (Below.refl _ _).alloc (Nat.le_refl _) _
 obtain ⟨x0, x1, x2, x3, x4, x5, x6, x7, x8, x9⟩ := sub_cells (heap_alloc_new w (.cells (subC q ca cc pa pc ea ec) 27))
 by_cases k2 : q.k = 2
 ·have hb : (q.k == 2) = true := by rw [beq_iff_eq]; exact k2
  rw [if_pos k2] at hr
  clear k2 hr2 hop
  subst hr
  go_enter Tryz.func145, Tryz.ntmps145
  go_upto_region 1 with fail
  generalize hwa : World.alloc _ _ = wa at *
  clear hwa
  go_wp2_with fail
  go_ret
  exact ⟨rfl, HB.out⟩
 ·have hb : (q.k == 2) = false := by rw [beq_eq_false_iff_ne]; exact k2
  rw [if_neg k2] at hr
  clear k2
  have HR : Hid (wrap64 (9 + wrap64 (q.o * q.p)) = r) := by show _ = _; rw [wid _ hop, ← hr]; exact wid _ hr2
  clear hr hr2 hop
  go_enter Tryz.func145, Tryz.ntmps145
  go_upto_region 1 with fail
  generalize hwa : World.alloc _ _ = wa at *
  clear hwa
  go_wp2_with fail
  go_ret
  exact ⟨by rw [← HR.out]; rfl, HB.out⟩
theorem z_codingOf (q : Sb) (ca : Option Addr) (cc : Nat) (pa : Option Addr) (pc : Nat) (ea : Option Addr) (ec : Nat) (n : Int) (hr2 : I64 (8 + q.w + n)) (hw : I64 (8 + q.w)) (w : World) : Calls Tryz.prog 141 #[subV q ca cc pa pc ea ec, .int .i64 n] w fun e w' => ∃ g, e = .returned (.agg #[.int .i64 0, .slice (some ⟨g, 0, none⟩) 1 1, .int .i64 (8 + q.w + n)]) ∧ w'.heap[g]? = some (.cells (subC q ca cc pa pc ea ec) 27 (0, 0)) ∧ w.heap.size ≤ g ∧ Below w.heap.size w w' := by
 obtain ⟨x0, x1, x2, x3, x4, x5, x6, x7, x8, x9⟩ := sub_cells (heap_alloc_new w (.cells (subC q ca cc pa pc ea ec) 27))
 have h2 : (((w.alloc (.cells (subC q ca cc pa pc ea ec) 27)).alloc (.cells #[.int .i64 0, .slice (some ⟨w.heap.size + 1 + 1, 0, none⟩) 1 1, .int .i64 (8 + q.w + n)] 63)).alloc (.cells #[.int .i64 q.k, .int .i64 q.o, .int .i64 q.w, .int .i64 q.p, .int .i64 q.h, .slice ca q.C.length cc, .int .i64 q.R.m, .int .i64 q.R.o, .slice pa q.R.P.length pc, .slice ea q.R.E.length ec] 27)).heap[w.heap.size + 1]? = some (.cells #[.int .i64 0, .slice (some ⟨w.heap.size + 1 + 1, 0, none⟩) 1 1, .int .i64 (8 + q.w + n)] 63 (0, 0)) := by
  have hh := heap_two (w.alloc (.cells (subC q ca cc pa pc ea ec) 27)) (.cells #[.int .i64 0, .slice (some ⟨w.heap.size + 1 + 1, 0, none⟩) 1 1, .int .i64 (8 + q.w + n)] 63) (.cells #[.int .i64 q.k, .int .i64 q.o, .int .i64 q.w, .int .i64 q.p, .int .i64 q.h, .slice ca q.C.length cc, .int .i64 q.R.m, .int .i64 q.R.o, .slice pa q.R.P.length pc, .slice ea q.R.E.length ec] 27)
  rw [show (w.alloc (.cells (subC q ca cc pa pc ea ec) 27)).heap.size = w.heap.size + 1 from by simp] at hh
  exact hh
 have h3 : (((w.alloc (.cells (subC q ca cc pa pc ea ec) 27)).alloc (.cells #[.int .i64 0, .slice (some ⟨w.heap.size + 1 + 1, 0, none⟩) 1 1, .int .i64 (8 + q.w + n)] 63)).alloc (.cells #[.int .i64 q.k, .int .i64 q.o, .int .i64 q.w, .int .i64 q.p, .int .i64 q.h, .slice ca q.C.length cc, .int .i64 q.R.m, .int .i64 q.R.o, .slice pa q.R.P.length pc, .slice ea q.R.E.length ec] 27)).heap[w.heap.size + 1 + 1]? = some (.cells #[.int .i64 q.k, .int .i64 q.o, .int .i64 q.w, .int .i64 q.p, .int .i64 q.h, .slice ca q.C.length cc, .int .i64 q.R.m, .int .i64 q.R.o, .slice pa q.R.P.length pc, .slice ea q.R.E.length ec] 27 (0, 0)) := by
  have hh := heap_alloc_new ((w.alloc (.cells (subC q ca cc pa pc ea ec) 27)).alloc (.cells #[.int .i64 0, .slice (some ⟨w.heap.size + 1 + 1, 0, none⟩) 1 1, .int .i64 (8 + q.w + n)] 63)) (.cells #[.int .i64 q.k, .int .i64 q.o, .int .i64 q.w, .int .i64 q.p, .int .i64 q.h, .slice ca q.C.length cc, .int .i64 q.R.m, .int .i64 q.R.o, .slice pa q.R.P.length pc, .slice ea q.R.E.length ec] 27)
  rw [show ((w.alloc (.cells (subC q ca cc pa pc ea ec) 27)).alloc (.cells #[.int .i64 0, .slice (some ⟨w.heap.size + 1 + 1, 0, none⟩) 1 1, .int .i64 (8 + q.w + n)] 63)).heap.size = w.heap.size + 1 + 1 from by simp] at hh
  exact hh
 have HH : Hid ((((w.alloc (.cells (subC q ca cc pa pc ea ec) 27)).alloc (.cells #[.int .i64 0, .slice (some ⟨w.heap.size + 1 + 1, 0, none⟩) 1 1, .int .i64 (8 + q.w + n)] 63)).alloc (.cells #[.int .i64 q.k, .int .i64 q.o, .int .i64 q.w, .int .i64 q.p, .int .i64 q.h, .slice ca q.C.length cc, .int .i64 q.R.m, .int .i64 q.R.o, .slice pa q.R.P.length pc, .slice ea q.R.E.length ec] 27)).heap[w.heap.size + 1]? = some (.cells #[.int .i64 0, .slice (some ⟨w.heap.size + 1 + 1, 0, none⟩) 1 1, .int .i64 (8 + q.w + n)] 63 (0, 0)) ∧ (((w.alloc (.cells (subC q ca cc pa pc ea ec) 27)).alloc (.cells #[.int .i64 0, .slice (some ⟨w.heap.size + 1 + 1, 0, none⟩) 1 1, .int .i64 (8 + q.w + n)] 63)).alloc (.cells #[.int .i64 q.k, .int .i64 q.o, .int .i64 q.w, .int .i64 q.p, .int .i64 q.h, .slice ca q.C.length cc, .int .i64 q.R.m, .int .i64 q.R.o, .slice pa q.R.P.length pc, .slice ea q.R.E.length ec] 27)).heap[w.heap.size + 1 + 1]? = some (.cells #[.int .i64 q.k, .int .i64 q.o, .int .i64 q.w, .int .i64 q.p, .int .i64 q.h, .slice ca q.C.length cc, .int .i64 q.R.m, .int .i64 q.R.o, .slice pa q.R.P.length pc, .slice ea q.R.E.length ec] 27 (0, 0)) ∧ Below w.heap.size w (((w.alloc (.cells (subC q ca cc pa pc ea ec) 27)).alloc (.cells #[.int .i64 0, .slice (some ⟨w.heap.size + 1 + 1, 0, none⟩) 1 1, .int .i64 (8 + q.w + n)] 63)).alloc (.cells #[.int .i64 q.k, .int .i64 q.o, .int .i64 q.w, .int .i64 q.p, .int .i64 q.h, .slice ca q.C.length cc, .int .i64 q.R.m, .int .i64 q.R.o, .slice pa q.R.P.length pc, .slice ea q.R.E.length ec] 27))) := ⟨h2, h3, ((((Below.refl _ _).alloc (Nat.le_refl _) _).alloc (by simp) _).alloc (by simp; omega) _)⟩
 clear h2 h3
 go_enter Tryz.func141, Tryz.ntmps141
 go_wp2_with fail
 clear x0 x1 x2 x3 x4 x5 x6 x7 x8 x9
 generalize hwf : World.alloc _ _ = wf at *
 clear hwf
 refine bodyPost_ret (v := .agg #[.int .i64 0, .slice (some ⟨w.heap.size + 1 + 1, 0, none⟩) 1 1, .int .i64 (8 + q.w + n)]) ?_ rfl ⟨w.heap.size + 1 + 1, rfl, HH.out.2.1, by omega, HH.out.2.2⟩
 rw [results_one rfl]
 have hld := run_loadVar_row (P := Tryz.prog) (wf) (w.heap.size + 1) 63 63 #[.int .i64 0, .slice (some ⟨w.heap.size + 1 + 1, 0, none⟩) 1 1, .int .i64 (8 + q.w + n)] (0, 0) _ HH.out.1 Tryz.underlying63 rfl info_coding
 simp [asAddr, Result.andThen, hld]
def lfR (q : Sb) (m : List Int) : Option (List Int) := if q.k = 2 then fixR q.o m else lpcR q.C q.h m
theorem z_leftOver (q : Sb) (ca : Option Addr) (cc : Nat) (pa : Option Addr) (pc : Nat) (ea : Option Addr) (ec : Nat) (m : List Int) (la : Option Addr) (lc : Nat) (hlc : m.length ≤ lc) (w : World) (hC : IntsAt w ca q.C) (hm : IntsAt w la m) : Calls Tryz.prog 143 #[subV q ca cc pa pc ea ec, .slice la m.length lc] w (RetM (lfR q m) w) := by
 have HB : Hid (Below w.heap.size w (w.alloc (.cells (subC q ca cc pa pc ea ec) 27))) := (Below.refl _ _).alloc (Nat.le_refl _) _
 obtain ⟨x0, x1, x2, x3, x4, x5, x6, x7, x8, x9⟩ := sub_cells (heap_alloc_new w (.cells (subC q ca cc pa pc ea ec) 27))
 have HF : Hid (∀ wx, Below w.heap.size w wx → Calls Tryz.prog 177 #[.int .i64 q.o, .slice la m.length lc] wx (RetM (fixR q.o m) wx)) := fun wx hb => qfixed_spec q.o m la lc hlc wx (hm.below hb)
 have HP : Hid (∀ wx, Below w.heap.size w wx → Calls Tryz.prog 178 #[.slice ca q.C.length cc, .int .i64 q.h, .slice la m.length lc] wx (RetM (lpcR q.C q.h m) wx)) := fun wx hb => qlpc_spec q.C m q.h ca la cc lc hlc wx (hC.below hb) (hm.below hb)
 clear hC hm
 unfold lfR
 by_cases k2 : q.k = 2
 ·rw [if_pos k2]
  have hb : (q.k == 2) = true := by rw [beq_iff_eq]; exact k2
  clear k2
  have k := HF.out
  clear HF HP
  cases hR : fixR q.o m with
  | none =>
   rw [hR] at k
   clear hR
   go_enter Tryz.func143, Tryz.ntmps143
   go_upto_region 1 with fail
   generalize hwa : World.alloc _ _ = wa at *
   clear hwa
   go_wp2_with fail
   refine (k wa HB.out).mono ?_
   rintro e w2 ⟨rfl, hb2⟩
   have HB2 : Hid (Below w.heap.size w w2) := HB.out.trans (hb2.mono HB.out.size)
   clear hb2
   go_wp2_with fail
   go_ret2
   exact retM_none rfl rfl HB2.out
  | some M =>
   rw [hR] at k
   clear hR
   go_enter Tryz.func143, Tryz.ntmps143
   go_upto_region 1 with fail
   generalize hwa : World.alloc _ _ = wa at *
   clear hwa
   go_wp2_with fail
   refine (k wa HB.out).mono ?_
   rintro e w2 ⟨la2, lc2, rfl, hm2⟩
   have HM2 : Hid (Made w la2 lc2 M w2) := hm2.up HB.out
   clear hm2
   go_wp2_with fail
   go_ret2
   exact retM_some rfl rfl HM2.out
 ·rw [if_neg k2]
  have hb : (q.k == 2) = false := by rw [beq_eq_false_iff_ne]; exact k2
  clear k2
  have k := HP.out
  clear HF HP
  cases hR : lpcR q.C q.h m with
  | none =>
   rw [hR] at k
   clear hR
   go_enter Tryz.func143, Tryz.ntmps143
   go_upto_region 1 with fail
   generalize hwa : World.alloc _ _ = wa at *
   clear hwa
   go_wp2_with fail
   refine (k wa HB.out).mono ?_
   rintro e w2 ⟨rfl, hb2⟩
   have HB2 : Hid (Below w.heap.size w w2) := HB.out.trans (hb2.mono HB.out.size)
   clear hb2
   go_wp2_with fail
   go_ret2
   exact retM_none rfl rfl HB2.out
  | some M =>
   rw [hR] at k
   clear hR
   go_enter Tryz.func143, Tryz.ntmps143
   go_upto_region 1 with fail
   generalize hwa : World.alloc _ _ = wa at *
   clear hwa
   go_wp2_with fail
   refine (k wa HB.out).mono ?_
   rintro e w2 ⟨la2, lc2, rfl, hm2⟩
   have HM2 : Hid (Made w la2 lc2 M w2) := hm2.up HB.out
   clear hm2
   go_wp2_with fail
   go_ret2
   exact retM_some rfl rfl HM2.out
theorem sub_info12 : ∃ i, Tryz.prog.info? 27 = some i ∧ i.zero = some (.agg (subC ⟨0, 0, 0, 0, 0, [], R00⟩ none 0 none 0 none 0)) ∧ i.size = 10 ∧ i.bytes = 128 := by
 have h : (Tryz.prog.info? 27).map (fun i => (i.zero, i.size, i.bytes)) = some (some (.agg (subC ⟨0, 0, 0, 0, 0, [], R00⟩ none 0 none 0 none 0)), 10, 128) := by kernel_rfl
 cases hq : Tryz.prog.info? 27 with
 | none => rw [hq] at h; cases h
 | some i =>
  rw [hq] at h
  simp only [Option.map_some, Option.some.injEq, Prod.mk.injEq] at h
  exact ⟨i, rfl, h.1, h.2.1, h.2.2⟩
theorem undSubs12 : Tryz.prog.underlying 39 = some (.slice 27) := by kernel_rfl
structure El where
 q : Sb
 ca : Option Addr
 cc : Nat
def elC (e : El) : List Value := (subC e.q e.ca e.cc none 0 none 0).toList
def rowC (L : List El) : List Value := L.flatMap elC
theorem rowC_app (L M : List El) : rowC (L ++ M) = rowC L ++ rowC M := by unfold rowC; rw [List.flatMap_append]
theorem rowC_one (e : El) : rowC [e] = elC e := by simp [rowC]
theorem elC_len (e : El) : (elC e).length = 10 := rfl
theorem rowC_len (L : List El) : (rowC L).length = L.length * 10 := by
 induction L with
 | nil => rfl
 | cons e t ih =>
  have : rowC (e :: t) = elC e ++ rowC t := by simp [rowC]
  rw [this, List.length_append, ih, elC_len, List.length_cons]; omega
theorem rowC_one' (L : List El) : ∀ u ∈ rowC L, u.oneCell' = true := fun u hu => by
 unfold rowC at hu
 obtain ⟨e, _, h⟩ := List.mem_flatMap.1 hu
 unfold elC at h
 simp at h
 rcases h with h | h | h | h | h | h | h | h | h | h <;> (rw [h]; rfl)
theorem rowC_get (L : List El) (j i : Nat) (e : El) (hj : L[j]? = some e) (hi : i < 10) : (rowC L)[j * 10 + i]? = (elC e)[i]? := by
 induction L generalizing j with
 | nil => cases hj
 | cons x t ih =>
  have hx : rowC (x :: t) = elC x ++ rowC t := by simp [rowC]
  rw [hx]
  cases j with
  | zero =>
   rw [List.getElem?_cons_zero] at hj
   cases hj
   rw [Nat.zero_mul, Nat.zero_add, List.getElem?_append_left (by rw [elC_len]; exact hi)]
  | succ j =>
   rw [List.getElem?_cons_succ] at hj
   rw [List.getElem?_append_right (by rw [elC_len]; omega), elC_len, show (j + 1) * 10 + i - 10 = j * 10 + i by omega]
   exact ih j hj
structure TS (w : World) (v : Value) (L : List El) (X : World) : Prop where
 own : X.ownsRow w.heap.size 27 10 v L.length (rowC L)
 ints : ∀ e ∈ L, IntsAt X e.ca e.q.C
 apart : ∀ e ∈ L, 0 < e.q.C.length → ∀ b, blockOf e.ca = some b → w.heap.size ≤ b ∧ v.ownBlock ≠ some b
 below : Below w.heap.size w X
theorem TS.nil (w : World) : TS w (.slice none 0 0) [] w := ⟨World.ownsRow_nil _ _ _ _, fun e he => absurd he (by simp), fun e he => absurd he (by simp), Below.refl _ _⟩
theorem TS.low {w X X' : World} {v : Value} {L : List El} (h : TS w v L X) (hb : Below X.heap.size X X') : TS w v L X' := ⟨own_low h.own hb, fun e he => (h.ints e he).below hb, h.apart, h.below.trans (hb.mono h.below.size)⟩
theorem TS.shape {w X : World} {v : Value} {L : List El} (h : TS w v L X) : ∃ ao cap, v = .slice ao L.length cap := by
 obtain ⟨ao, cap, h1, _⟩ := owns_shape h.own
 exact ⟨ao, cap, h1⟩
theorem TS.push {w X w1 : World} {v : Value} {L M : List El} (h : TS w v L X) {g cap : Nat} (ho : w1.ownsRow w.heap.size 27 10 (.slice (some ⟨g, 0, none⟩) (L.length + M.length) cap) (L.length + M.length) (rowC L ++ rowC M)) (hg : X.grownBy w1 v.ownBlock) (hat : v.ownBlock = some g ∨ g = X.heap.size) (hM : ∀ e ∈ M, IntsAt X e.ca e.q.C ∧ (0 < e.q.C.length → ∀ b, blockOf e.ca = some b → w.heap.size ≤ b ∧ v.ownBlock ≠ some b)) : TS w (.slice (some ⟨g, 0, none⟩) (L.length + M.length) cap) (L ++ M) w1 := by
 have both : ∀ e ∈ L ++ M, IntsAt X e.ca e.q.C ∧ (0 < e.q.C.length → ∀ b, blockOf e.ca = some b → w.heap.size ≤ b ∧ v.ownBlock ≠ some b) := fun e he => by
  rcases List.mem_append.1 he with h1 | h1
  ·exact ⟨h.ints e h1, h.apart e h1⟩
  ·exact hM e h1
 refine ⟨by rw [List.length_append, rowC_app]; exact ho, fun e he => ?_, fun e he h0 b hb => ?_, h.below.trans ⟨hg.os, hg.tape, hg.output, hg.size, fun k hk => ?_⟩⟩
 ·obtain ⟨h1, h2⟩ := both e he
  refine ⟨h1.len, h1.num, fun h0 => ?_⟩
  obtain ⟨b, off, ea, hc⟩ := h1.lies h0
  refine ⟨b, off, ea, fun j hj => ?_⟩
  have h3 := hc j hj
  rw [World.cell?_of_block (w := X) (hg.block b (lt_cell h3) (fun e2 => (h2 h0 b (by rw [ea]; rfl)).2 e2.symm))]
  exact h3
 ·obtain ⟨h1, h2⟩ := both e he
  refine ⟨(h2 h0 b hb).1, fun e2 => ?_⟩
  have e3 : g = b := by simpa [Value.ownBlock] using e2
  rcases hat with h4 | h4
  ·exact (h2 h0 b hb).2 (by rw [h4, e3])
  ·obtain ⟨b', off, ea, hc⟩ := h1.lies h0
   have h7 : b' < X.heap.size := lt_cell (hc 0 h0)
   rw [ea] at hb
   have e5 : b' = b := by simpa [blockOf] using hb
   omega
 ·exact hg.block k (by have := h.below.size; omega) (fun e => by have := (h.own.lt k e.symm).1; omega)
theorem cod_info : ∃ i, Tryz.prog.info? 63 = some i ∧ i.zero = some (.agg #[.int .i64 0, .slice none 0 0, .int .i64 0]) ∧ i.size = 3 ∧ i.bytes = 40 := by
 have h : (Tryz.prog.info? 63).map (fun i => (i.zero, i.size, i.bytes)) = some (some (.agg #[.int .i64 0, .slice none 0 0, .int .i64 0]), 3, 40) := by kernel_rfl
 cases hq : Tryz.prog.info? 63 with
 | none => rw [hq] at h; cases h
 | some i =>
  rw [hq] at h
  simp only [Option.map_some, Option.some.injEq, Prod.mk.injEq] at h
  exact ⟨i, rfl, h.1, h.2.1, h.2.2⟩
theorem undCods : Tryz.prog.underlying 115 = some (.slice 63) := by kernel_rfl
def Off (v : Value) (X : World) (k : Nat) : Prop := k < X.heap.size ∧ v.ownBlock ≠ some k
section
variable {v v' : Value} {X X' w1 : World} {k g n c : Nat}
theorem Off.low (h : Off v X k) (hb : Below X.heap.size X X') : Off v X' k := ⟨Nat.lt_of_lt_of_le h.1 hb.size, h.2⟩
theorem Off.push (h : Off v X k) (hg : X.grownBy w1 v.ownBlock) (hat : v.ownBlock = some g ∨ g = X.heap.size) : Off (.slice (some ⟨g, 0, none⟩) n c) w1 k ∧ w1.heap[k]? = X.heap[k]? := by
 refine ⟨⟨Nat.lt_of_lt_of_le h.1 hg.size, fun e => ?_⟩, hg.block k h.1 (fun e => h.2 e.symm)⟩
 have e3 : g = k := by simpa [Value.ownBlock] using e
 rcases hat with h1 | h1
 ·exact h.2 (by rw [h1, e3])
 ·have := h.1; omega
end
structure IOff (v : Value) (X : World) (a : Option Addr) (l : List Int) : Prop where
 i : IntsAt X a l
 o : 0 < l.length → ∀ b, blockOf a = some b → Off v X b
section
variable {v : Value} {X X' w1 : World} {a : Option Addr} {l : List Int} {g n c : Nat}
theorem IOff.low (h : IOff v X a l) (hb : Below X.heap.size X X') : IOff v X' a l := ⟨h.i.below hb, fun h0 b e => (h.o h0 b e).low hb⟩
theorem IOff.push (h : IOff v X a l) (hg : X.grownBy w1 v.ownBlock) (hat : v.ownBlock = some g ∨ g = X.heap.size) : IOff (.slice (some ⟨g, 0, none⟩) n c) w1 a l := by
 refine ⟨⟨h.i.len, h.i.num, fun h0 => ?_⟩, fun h0 b e => ((h.o h0 b e).push hg hat).1⟩
 obtain ⟨b, off, e, hc⟩ := h.i.lies h0
 refine ⟨b, off, e, fun j hj => ?_⟩
 rw [World.cell?_of_block (w := X) ((h.o h0 b (by rw [e]; rfl)).push (n := n) (c := c) hg hat).2]
 exact hc j hj
theorem IOff.nil (v : Value) (X : World) : IOff v X none [] := ⟨IntsAt.nil _, fun h0 => absurd h0 (Nat.lt_irrefl 0)⟩
theorem IntsAt.off (h : IntsAt X a l) (hv : ∀ k, v.ownBlock = some k → k < n) (hn : 0 < l.length → ∀ b, blockOf a = some b → n ≤ b) : IOff v X a l := by
 refine ⟨h, fun h0 b e => ⟨?_, fun e2 => ?_⟩⟩
 ·obtain ⟨b', off, e', hc⟩ := h.lies h0
  rw [e'] at e
  have : b' = b := by simpa [blockOf] using e
  rw [← this]; exact lt_cell (hc 0 h0)
 ·have := hn h0 b e
  have := hv b e2
  omega
end
structure Cd where
 q : Sb
 n : Nat
 g : Nat
 ca : Option Addr
 cc : Nat
 pa : Option Addr
 pc : Nat
 ea : Option Addr
 ec : Nat
abbrev cdV (e : Cd) : Array Value := #[.int .i64 0, .slice (some ⟨e.g, 0, none⟩) 1 1, .int .i64 (e.n : Int)]
def cdC (e : Cd) : List Value := (cdV e).toList
def rowD (L : List Cd) : List Value := L.flatMap cdC
theorem rowD_app (L M : List Cd) : rowD (L ++ M) = rowD L ++ rowD M := by unfold rowD; rw [List.flatMap_append]
theorem rowD_one (e : Cd) : rowD [e] = cdC e := by simp [rowD]
theorem cdC_len (e : Cd) : (cdC e).length = 3 := rfl
theorem rowD_get (L : List Cd) (j i : Nat) (e : Cd) (hj : L[j]? = some e) (hi : i < 3) : (rowD L)[j * 3 + i]? = (cdC e)[i]? := by
 induction L generalizing j with
 | nil => cases hj
 | cons x t ih =>
  have hx : rowD (x :: t) = cdC x ++ rowD t := by simp [rowD]
  rw [hx]
  cases j with
  | zero =>
   rw [List.getElem?_cons_zero] at hj
   cases hj
   rw [Nat.zero_mul, Nat.zero_add, List.getElem?_append_left (by rw [cdC_len]; exact hi)]
  | succ j =>
   rw [List.getElem?_cons_succ] at hj
   rw [List.getElem?_append_right (by rw [cdC_len]; omega), cdC_len, show (j + 1) * 3 + i - 3 = j * 3 + i by omega]
   exact ih j hj
structure CdAt (X : World) (e : Cd) : Prop where
 box : X.heap[e.g]? = some (.cells (subC e.q e.ca e.cc e.pa e.pc e.ea e.ec) 27 (0, 0))
 sb : SbAt X e.q e.ca e.pa e.ea
 cap : e.q.C.length ≤ e.cc ∧ (e.ca = none → e.cc = 0)
theorem CdAt.below {X X' : World} {e : Cd} (h : CdAt X e) (hb : Below X.heap.size X X') : CdAt X' e := ⟨by rw [hb.block _ (lt_of_block h.box)]; exact h.box, h.sb.below hb, h.cap⟩
structure COff (v : Value) (X : World) (e : Cd) : Prop where
 at_ : CdAt X e
 g : Off v X e.g
 c : IOff v X e.ca e.q.C
 p : IOff v X e.pa e.q.R.P
 e : IOff v X e.ea e.q.R.E
section
variable {v : Value} {X X' w1 : World} {x : Cd} {g n c : Nat}
theorem COff.low (h : COff v X x) (hb : Below X.heap.size X X') : COff v X' x := ⟨h.at_.below hb, h.g.low hb, h.c.low hb, h.p.low hb, h.e.low hb⟩
theorem COff.push (h : COff v X x) (hg : X.grownBy w1 v.ownBlock) (hat : v.ownBlock = some g ∨ g = X.heap.size) : COff (.slice (some ⟨g, 0, none⟩) n c) w1 x := by
 have h1 := h.c.push (n := n) (c := c) hg hat
 have h2 := h.p.push (n := n) (c := c) hg hat
 have h3 := h.e.push (n := n) (c := c) hg hat
 have h4 := h.g.push (n := n) (c := c) hg hat
 refine ⟨⟨by rw [h4.2]; exact h.at_.box, ⟨h1.i, ⟨h2.i, h3.i, h.at_.sb.R.m1, h.at_.sb.R.m2, h.at_.sb.R.o1, h.at_.sb.R.o2⟩, h.at_.sb.k, h.at_.sb.o, h.at_.sb.w, h.at_.sb.p, h.at_.sb.h⟩, h.at_.cap⟩, h4.1, h1, h2, h3⟩
end
structure FrC (n : Nat) (e : Cd) : Prop where
 g : n ≤ e.g
 c : 0 < e.q.C.length → ∀ b, blockOf e.ca = some b → n ≤ b
 p : 0 < e.q.R.P.length → ∀ b, blockOf e.pa = some b → n ≤ b
 e : 0 < e.q.R.E.length → ∀ b, blockOf e.ea = some b → n ≤ b
theorem FrC.mono {n m : Nat} {e : Cd} (h : FrC n e) (hm : m ≤ n) : FrC m e := ⟨Nat.le_trans hm h.g, fun h0 b hb => Nat.le_trans hm (h.c h0 b hb), fun h0 b hb => Nat.le_trans hm (h.p h0 b hb), fun h0 b hb => Nat.le_trans hm (h.e h0 b hb)⟩
theorem CdAt.off {v : Value} {X : World} {e : Cd} {n : Nat} (h : CdAt X e) (hf : FrC n e) (hv : ∀ k, v.ownBlock = some k → k < n) : COff v X e :=
 ⟨h, ⟨lt_of_block h.box, fun e2 => by have h1 := hv _ e2; have h2 := hf.g; omega⟩, h.sb.C.off hv hf.c, h.sb.R.P.off hv hf.p, h.sb.R.E.off hv hf.e⟩
structure CL (w : World) (v : Value) (L : List Cd) (X : World) : Prop where
 own : X.ownsRow w.heap.size 63 3 v L.length (rowD L)
 at_ : ∀ e ∈ L, COff v X e
 fr : ∀ e ∈ L, FrC w.heap.size e
 below : Below w.heap.size w X
section
variable {w X X' w1 : World} {v : Value} {L : List Cd}
theorem CL.nil (w X : World) (h : Below w.heap.size w X) : CL w (.slice none 0 0) [] X := ⟨World.ownsRow_nil _ _ _ _, fun e he => absurd he (by simp), fun e he => absurd he (by simp), h⟩
theorem CL.low (h : CL w v L X) (hb : Below X.heap.size X X') : CL w v L X' := ⟨own_low h.own hb, fun e he => (h.at_ e he).low hb, h.fr, h.below.trans (hb.mono h.below.size)⟩
theorem CL.shape (h : CL w v L X) : ∃ ao cap, v = .slice ao L.length cap := by
 obtain ⟨ao, cap, h1, _⟩ := owns_shape h.own
 exact ⟨ao, cap, h1⟩
theorem CL.own_lt (h : CL w v L X) : ∀ k, v.ownBlock = some k → k < X.heap.size := fun k e => (h.own.lt k e).2
theorem CL.push (h : CL w v L X) (x : Cd) (hx : COff v X x) (hf : FrC w.heap.size x) {g cap : Nat} (ho : w1.ownsRow w.heap.size 63 3 (.slice (some ⟨g, 0, none⟩) (L.length + 1) cap) (L.length + 1) (rowD L ++ cdC x)) (hg : X.grownBy w1 v.ownBlock) (hat : v.ownBlock = some g ∨ g = X.heap.size) : CL w (.slice (some ⟨g, 0, none⟩) (L.length + 1) cap) (L ++ [x]) w1 := by
 refine ⟨by rw [List.length_append, rowD_app, rowD_one]; exact ho, fun e he => ?_, fun e he => ?_, h.below.trans ⟨hg.os, hg.tape, hg.output, hg.size, fun k hk => ?_⟩⟩
 ·rcases List.mem_append.1 he with h1 | h1
  ·exact (h.at_ e h1).push hg hat
  ·rw [List.mem_singleton] at h1; subst h1; exact hx.push hg hat
 ·rcases List.mem_append.1 he with h1 | h1
  ·exact h.fr e h1
  ·rw [List.mem_singleton] at h1; subst h1; exact hf
 ·exact hg.block k (by have := h.below.size; omega) (fun e => by have := (h.own.lt k e.symm).1; omega)
end
def CdsAt (w : World) (b off : Nat) (L : List Cd) : Prop := ∀ j e, L[j]? = some e → w.cell? ⟨b, off + j * 3, none⟩ = some (.int .i64 0) ∧ w.cell? ⟨b, off + j * 3 + 1, none⟩ = some (.slice (some ⟨e.g, 0, none⟩) 1 1) ∧ w.cell? ⟨b, off + j * 3 + 2, none⟩ = some (.int .i64 (e.n : Int))
theorem CdsAt.below {w w' : World} {b off : Nat} {L : List Cd} (h : CdsAt w b off L) (hb : Below w.heap.size w w') : CdsAt w' b off L := fun j e hj => by
 obtain ⟨h0, h1, h2⟩ := h j e hj
 have hk := hb.block b (lt_cell h0)
 exact ⟨by rw [World.cell?_of_block (w := w) hk]; exact h0, by rw [World.cell?_of_block (w := w) hk]; exact h1, by rw [World.cell?_of_block (w := w) hk]; exact h2⟩
theorem cds_row {w : World} {b : Nat} {cs : Array Value} {t : TypeId} {L : List Cd} (h : w.heap[b]? = some (.cells cs t (0, 0))) (hc : ∀ i, i < L.length * 3 → cs[i]? = (rowD L)[i]?) : CdsAt w b 0 L := fun j e hj => by
 have hjl : j < L.length := by
  rcases Nat.lt_or_ge j L.length with h1 | h1
  ·exact h1
  ·rw [List.getElem?_eq_none h1] at hj; cases hj
 refine ⟨?_, ?_, ?_⟩
 ·have h1 := rowD_get L j 0 e hj (by decide)
  rw [cell_of_row _ _ _ _ _ _ h, Nat.zero_add, hc _ (by omega)]; exact h1
 ·have h1 := rowD_get L j 1 e hj (by decide)
  rw [cell_of_row _ _ _ _ _ _ h, Nat.zero_add, hc _ (by omega)]; exact h1
 ·have h1 := rowD_get L j 2 e hj (by decide)
  rw [cell_of_row _ _ _ _ _ _ h, Nat.zero_add, hc _ (by omega)]; exact h1
theorem CL.cds {w X : World} {v : Value} {L : List Cd} (h : CL w v L X) (h0 : 0 < L.length) : ∃ b cap, v = .slice (some ⟨b, 0, none⟩) L.length cap ∧ L.length ≤ cap ∧ CdsAt X b 0 L := by
 rcases h.own.2 with ⟨hv, hn⟩ | ⟨g', cap', cur, hv, _, hg, hle, _, _, ht⟩
 ·obtain ⟨ao, cap, hs⟩ := h.shape
  rw [hv] at hs
  have : (0 : Nat) = L.length := by injection hs
  omega
 ·refine ⟨g', cap', hv, hle, cds_row hg (fun i hi => ?_)⟩
  rw [← ht, List.getElem?_take_of_lt hi, Array.getElem?_toList]
def shoD (a : Cd) (L : List Cd) : Cd := L.foldl (fun a x => if x.n < a.n then x else a) a
abbrev cdP (e : Cd) : Sb × Nat := (e.q, e.n)
theorem shoD_P (L : List Cd) (a : Cd) : cdP (shoD a L) = shoT (cdP a) (L.map cdP) := by
 induction L generalizing a with
 | nil => rfl
 | cons x t ih =>
  have e1 : shoD a (x :: t) = shoD (if x.n < a.n then x else a) t := rfl
  have e2 : shoT (cdP a) ((x :: t).map cdP) = shoT (if (cdP x).2 < (cdP a).2 then cdP x else cdP a) (t.map cdP) := rfl
  rw [e1, e2, ih]
  congr 1
  by_cases hh : x.n < a.n
  ·rw [if_pos hh, if_pos hh]
  ·rw [if_neg hh, if_neg hh]
theorem shoD_mem (L : List Cd) (a : Cd) : shoD a L = a ∨ shoD a L ∈ L := by
 induction L generalizing a with
 | nil => exact Or.inl rfl
 | cons x t ih =>
  have e1 : shoD a (x :: t) = shoD (if x.n < a.n then x else a) t := rfl
  rw [e1]
  rcases ih (if x.n < a.n then x else a) with h | h
  ·by_cases hh : x.n < a.n
   ·rw [if_pos hh] at h ⊢; rw [h]; exact Or.inr (List.mem_cons_self ..)
   ·rw [if_neg hh] at h ⊢; exact Or.inl h
  ·exact Or.inr (List.mem_cons_of_mem _ h)
theorem shoD_take (L : List Cd) (a : Cd) (i : Nat) (e : Cd) (h : L[i]? = some e) : shoD a (L.take (i + 1)) = if e.n < (shoD a (L.take i)).n then e else shoD a (L.take i) := by
 rw [List.take_add_one, h]
 unfold shoD
 rw [List.foldl_append]
 rfl
theorem s3c_a {wx : World} (n : Nat) (v0 v1 v2 : Value) {a0 a1 a2 : Value} {t : TypeId} (h : wx.heap[n]? = some (.cells #[a0, a1, a2] t (0, 0))) : (((wx.setCell ⟨n, 0, none⟩ v0).setCell ⟨n, 1, none⟩ v1).setCell ⟨n, 2, none⟩ v2).heap[n]? = some (.cells #[v0, v1, v2] t (0, 0)) := by
 rw [block_setCell _ _ _ _ _ _ (block_setCell _ _ _ _ _ _ (block_setCell _ _ _ _ _ _ h))]
 simp only [List.setIfInBounds_toArray, List.set_cons_zero, List.set_cons_succ]
theorem s3c_b {wx : World} (n : Nat) (v0 v1 v2 : Value) (w : World) (hn : w.heap.size ≤ n) (h : Below w.heap.size w wx) : Below w.heap.size w (((wx.setCell ⟨n, 0, none⟩ v0).setCell ⟨n, 1, none⟩ v1).setCell ⟨n, 2, none⟩ v2) := ((h.setCell hn _).setCell hn _).setCell hn _
theorem s3c_d {wx : World} (n : Nat) (v0 v1 v2 : Value) (j : Nat) (h0 : j ≠ n) : (((wx.setCell ⟨n, 0, none⟩ v0).setCell ⟨n, 1, none⟩ v1).setCell ⟨n, 2, none⟩ v2).heap[j]? = wx.heap[j]? := by
 rw [Below.heap_setCell _ _ _ j h0, Below.heap_setCell _ _ _ j h0, Below.heap_setCell _ _ _ j h0]
theorem cod_cells {w : World} {g : Nat} {a0 a1 a2 : Value} (h : w.heap[g]? = some (.cells #[a0, a1, a2] 63 (0, 0))) : w.cell? ⟨g, 0, none⟩ = some a0 ∧ w.cell? ⟨g, 1, none⟩ = some a1 ∧ w.cell? ⟨g, 2, none⟩ = some a2 := by
 refine ⟨?_, ?_, ?_⟩ <;> (rw [cell_of_row _ _ _ _ _ _ h]; rfl)
structure SB3 (w : World) (e : Cd) (X : World) : Prop where
 res : X.heap[w.heap.size]? = some (.cells #[.int .i64 0, .slice none 0 0, .int .i64 0] 63 (0, 0))
 best : X.heap[w.heap.size + 1]? = some (.cells (cdV e) 63 (0, 0))
 below : Below w.heap.size w X
theorem SB3.low {w X X' : World} {e : Cd} (h : SB3 w e X) (hb : Below X.heap.size X X') : SB3 w e X' :=
 ⟨by rw [hb.block _ (lt_of_block h.res)]; exact h.res, by rw [hb.block _ (lt_of_block h.best)]; exact h.best, h.below.trans (hb.mono h.below.size)⟩
theorem SB3.new (w : World) (e : Cd) : SB3 w e ((w.alloc (.cells #[.int .i64 0, .slice none 0 0, .int .i64 0] 63)).alloc (.cells (cdV e) 63)) := by
 refine ⟨heap_two _ _ _, ?_, ((Below.refl _ _).alloc (Nat.le_refl _) _).alloc (by simp) _⟩
 have hh := heap_alloc_new (w.alloc (.cells #[.int .i64 0, .slice none 0 0, .int .i64 0] 63)) (.cells (cdV e) 63)
 rw [show (w.alloc (.cells #[.int .i64 0, .slice none 0 0, .int .i64 0] 63)).heap.size = w.heap.size + 1 from by simp] at hh
 exact hh
theorem SB3.put {w X : World} {e : Cd} (h : SB3 w e X) (e' : Cd) : SB3 w e' (((X.setCell ⟨w.heap.size + 1, 0, none⟩ (.int .i64 0)).setCell ⟨w.heap.size + 1, 1, none⟩ (.slice (some ⟨e'.g, 0, none⟩) 1 1)).setCell ⟨w.heap.size + 1, 2, none⟩ (.int .i64 (e'.n : Int))) :=
 ⟨by rw [s3c_d _ _ _ _ _ (by omega)]; exact h.res, s3c_a _ _ _ _ h.best, s3c_b _ _ _ _ w (by omega) h.below⟩
theorem z_shortest (L : List Cd) (e0 : Cd) (h0 : L[0]? = some e0) (hL : L.length ≤ 1000) (b off cap : Nat) (w : World) (hw : CdsAt w b off L) : Calls Tryz.prog 75 #[.slice (some ⟨b, off, none⟩) L.length cap] w fun e w' => e = .returned (.agg (cdV (shoD e0 L))) ∧ Below w.heap.size w w' := by
 have hL0 : 0 < L.length := by
  rcases Nat.lt_or_ge 0 L.length with h1 | h1
  ·exact h1
  ·rw [List.getElem?_eq_none h1] at h0; cases h0
 have HW : Hid (∀ wx, Below w.heap.size w wx → CdsAt wx b off L) := fun wx hb => hw.below hb
 obtain ⟨c0, c1, c2⟩ := HW.out _ (show Below w.heap.size w (w.alloc (.cells #[.int .i64 0, .slice none 0 0, .int .i64 0] 63)) from (Below.refl _ _).alloc (Nat.le_refl _) _) 0 e0 h0
 rw [Nat.zero_mul, Nat.add_zero] at c0 c1 c2
 have HA : Hid (SB3 w e0 ((w.alloc (.cells #[.int .i64 0, .slice none 0 0, .int .i64 0] 63)).alloc (.cells (cdV e0) 63))) := SB3.new w e0
 clear hw h0
 go_enter Tryz.func75, Tryz.ntmps75
 go_upto_region 2 with fail
 generalize hwa : World.alloc _ _ = wa at *
 clear hwa
 go_wp2_with fail
 go_loopw [5, 11] (fun s5 s11 wr => ∃ i : Nat, i ≤ L.length ∧ s11 = .int .i64 (i : Int) ∧ SB3 w (shoD e0 (L.take i)) wr) (fun _ s11 _ => L.length - (intOf s11).toNat)
 case atStart => exact ⟨0, Nat.zero_le _, rfl, HA.out⟩
 case round =>
  clear HA c0 c1 c2
  obtain ⟨i, hi, rfl, hsb⟩ := hrel
  have HSB : Hid (SB3 w (shoD e0 (L.take i)) wr) := hsb
  clear hsb
  by_cases hlt : i < L.length
  ·obtain ⟨e, he⟩ : ∃ e, L[i]? = some e := ⟨_, List.getElem?_eq_getElem hlt⟩
   have HN : Hid (shoD e0 (L.take (i + 1)) = if e.n < (shoD e0 (L.take i)).n then e else shoD e0 (L.take i)) := shoD_take L e0 i e he
   obtain ⟨d0, d1, d2⟩ := HW.out wr HSB.out.below i e he
   clear he
   generalize shoD e0 (L.take i) = E at *
   have HX : Hid (SB3 w E (wr.alloc (.cells (cdV e) 63))) := HSB.out.low ((Below.refl _ _).alloc (Nat.le_refl _) _)
   have HC : Hid ((wr.alloc (.cells (cdV e) 63)).heap[wr.heap.size]? = some (.cells (cdV e) 63 (0, 0))) := heap_alloc_new _ _
   clear HSB
   go_upto_region 5 with fail
   generalize hwc : World.alloc _ _ = wc at *
   generalize hgc : wr.heap.size = gc at *
   clear hwc hgc d0 d1 d2
   obtain ⟨y0, y1, y2⟩ := cod_cells HC.out
   obtain ⟨z0, z1, z2⟩ := cod_cells HX.out.best
   have fz : ∀ j, wc.frozen? ⟨w.heap.size + 1, j, none⟩ = false := fun j => row_frozen HX.out.best j
   have fz0 := fz 0
   have fz1 := fz 1
   have fz2 := fz 2
   clear fz
   by_cases hn : e.n < E.n
   ·have hb : e.n < E.n := hn
    have HP : Hid (SB3 w (shoD e0 (L.take (i + 1))) (((wc.setCell ⟨w.heap.size + 1, 0, none⟩ (.int .i64 0)).setCell ⟨w.heap.size + 1, 1, none⟩ (.slice (some ⟨e.g, 0, none⟩) 1 1)).setCell ⟨w.heap.size + 1, 2, none⟩ (.int .i64 (e.n : Int)))) := by
     rw [HN.out, if_pos hn]; exact HX.out.put e
    clear hn HN HX
    go_wp2_with fail
    go_roundw
    case rel => exact ⟨i + 1, by omega, by go_num, HP.out⟩
    case measure => simp [intOf]; omega
   ·have hb : ¬ e.n < E.n := hn
    have HP : Hid (SB3 w (shoD e0 (L.take (i + 1))) wc) := by rw [HN.out, if_neg hn]; exact HX.out
    clear hn HN HX
    go_wp2_with fail
    go_roundw
    case rel => exact ⟨i + 1, by omega, by go_num, HP.out⟩
    case measure => simp [intOf]; omega
  ·have hil : i = L.length := by omega
   subst hil
   rw [List.take_length] at HSB
   obtain ⟨E, hE⟩ : ∃ E, E = shoD e0 L := ⟨_, rfl⟩
   rw [← hE] at HSB
   have HE : Hid (shoD e0 L = E) := hE.symm
   clear hE
   obtain ⟨z0, z1, z2⟩ := cod_cells HSB.out.best
   obtain ⟨u0, u1, u2⟩ := cod_cells HSB.out.res
   have fz0 := row_frozen HSB.out.res 0
   have fz1 := row_frozen HSB.out.res 1
   have fz2 := row_frozen HSB.out.res 2
   go_wp2_with fail
   generalize hwf : World.setCell _ _ _ = wf
   have hrow : wf.heap[w.heap.size]? = some (.cells (cdV E) 63 (0, 0)) := by rw [← hwf]; exact s3c_a _ _ _ _ HSB.out.res
   have hbel : Below w.heap.size w wf := by rw [← hwf]; exact s3c_b _ _ _ _ w (Nat.le_refl _) HSB.out.below
   refine bodyPost_ret (v := .agg (cdV E)) ?_ rfl ⟨by rw [HE.out], hbel⟩
   rw [results_one rfl]
   have hld := run_loadVar_row (P := Tryz.prog) (wf) (w.heap.size) 63 63 (cdV E) (0, 0) _ hrow Tryz.underlying63 rfl info_coding
   simp [asAddr, Result.andThen, hld]
end Go.Proofs.YthgpleelpeacjaaGreatDoor
