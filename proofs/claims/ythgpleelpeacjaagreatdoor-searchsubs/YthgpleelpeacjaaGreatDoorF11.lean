/- Own text. -/
import Derived.Test.YthgpleelpeacjaaGreatDoorF10
set_option linter.unusedSimpArgs false
set_option linter.unusedVariables false
set_option maxRecDepth 20000
set_option maxHeartbeats 12800000
namespace Go.Proofs.YthgpleelpeacjaaGreatDoor
open Go.RowKit
structure CS (w : World) (g M k gp ge : Nat) (pw : Int) (F : Nat → Nat → Nat) (P E : List Int) (wx : World) : Prop where
 px : PxB wx g M F
 bk : wx.heap[k]? = some (.cells #[.int .i64 0, .int .i64 pw, .slice (some ⟨gp, 0, none⟩) M M, .slice (some ⟨ge, 0, none⟩) M M] 25 (0, 0))
 bp : IntsBlk wx gp P
 be : IntsBlk wx ge E
 lp : P.length = M
 le : E.length = M
 rb : wx.heap[w.heap.size]? = some (.cells #[.int .i64 0, .int .i64 0, .slice none 0 0, .slice none 0 0] 25 (0, 0))
 below : Below w.heap.size w wx
structure CD (n0 g k gp ge : Nat) : Prop where
 hg : g < n0
 hk : n0 < k
 hp : n0 < gp
 he : n0 < ge
 kp : k ≠ gp
 ke : k ≠ ge
 pe : gp ≠ ge
section
variable {w wx w' : World} {g M k gp ge : Nat} {pw : Int} {F : Nat → Nat → Nat} {P E : List Int}
theorem CS.low (h : CS w g M k gp ge pw F P E wx) (hb : Below wx.heap.size wx w') : CS w g M k gp ge pw F P E w' :=
 ⟨h.px.below hb, by rw [hb.block _ (lt_of_block h.bk)]; exact h.bk, h.bp.below hb, h.be.below hb, h.lp, h.le, by rw [hb.block _ (lt_of_block h.rb)]; exact h.rb, h.below.trans (hb.mono h.below.size)⟩
theorem CS.setP (h : CS w g M k gp ge pw F P E wx) (d : CD w.heap.size g k gp ge) (i : Nat) (v : Int) : CS w g M k gp ge pw F (P.set i v) E (wx.setCell ⟨gp, i, none⟩ (.int .i64 v)) :=
 ⟨h.px.other _ _ (fun e => by have := d.hg; have := d.hp; have e' : gp = g := e; omega), by rw [Below.heap_setCell _ _ _ k (fun e => d.kp e)]; exact h.bk, h.bp.set i v, h.be.other _ _ d.pe, by rw [List.length_set]; exact h.lp, h.le, by rw [Below.heap_setCell _ _ _ _ (fun e => by have := d.hp; have e' : w.heap.size = gp := e; omega)]; exact h.rb, h.below.setCell (Nat.le_of_lt d.hp) _⟩
theorem CS.setE (h : CS w g M k gp ge pw F P E wx) (d : CD w.heap.size g k gp ge) (i : Nat) (v : Int) : CS w g M k gp ge pw F P (E.set i v) (wx.setCell ⟨ge, i, none⟩ (.int .i64 v)) :=
 ⟨h.px.other _ _ (fun e => by have := d.hg; have := d.he; have e' : ge = g := e; omega), by rw [Below.heap_setCell _ _ _ k (fun e => d.ke e)]; exact h.bk, h.bp.other _ _ (fun e => d.pe e.symm), h.be.set i v, h.lp, by rw [List.length_set]; exact h.le, by rw [Below.heap_setCell _ _ _ _ (fun e => by have := d.he; have e' : w.heap.size = ge := e; omega)]; exact h.rb, h.below.setCell (Nat.le_of_lt d.he) _⟩
theorem CS.cells (h : CS w g M k gp ge pw F P E wx) : wx.cell? ⟨k, 0, none⟩ = some (.int .i64 0) ∧ wx.cell? ⟨k, 1, none⟩ = some (.int .i64 pw) ∧ wx.cell? ⟨k, 2, none⟩ = some (.slice (some ⟨gp, 0, none⟩) M M) ∧ wx.cell? ⟨k, 3, none⟩ = some (.slice (some ⟨ge, 0, none⟩) M M) := by
 refine ⟨?_, ?_, ?_, ?_⟩ <;> (rw [cell_of_row _ _ _ _ _ _ h.bk]; rfl)
end
def chP (F : Nat → Nat → Nat) (n : Nat) : List Int := (List.range n).map fun i => (bestK (F i) 14 : Int)
def chE (n : Nat) : List Int := List.replicate n (-1)
def chS (F : Nat → Nat → Nat) : Nat → Nat
 | 0 => 6
 | n + 1 => chS F n + (4 + F n (bestK (F n) 14))
theorem chP_len (F : Nat → Nat → Nat) (n : Nat) : (chP F n).length = n := by simp [chP]
theorem chP_succ (F : Nat → Nat → Nat) (n : Nat) : chP F (n + 1) = chP F n ++ [(bestK (F n) 14 : Int)] := by unfold chP; rw [List.range_succ, List.map_append]; rfl
theorem chE_succ (n : Nat) : chE (n + 1) = chE n ++ [-1] := by unfold chE; rw [List.replicate_succ']
theorem chE_len (n : Nat) : (chE n).length = n := by simp [chE]
theorem chS_le (F : Nat → Nat → Nat) (hF : ∀ i, F i 14 ≤ 1100000000000) (n : Nat) : chS F n ≤ 6 + 1100000000004 * n := by
 induction n with
 | zero => exact Nat.le_refl _
 | succ n ih => unfold chS; have := hF n; have := bestK_at (F n) 14; omega
theorem cheapest_spec (g M cap : Nat) (pw : Int) (F : Nat → Nat → Nat) (hF : ∀ i k, F i k ≤ 1000000000000000) (h14 : ∀ i, F i 14 ≤ 1100000000000) (hM : M ≤ 16) (w : World) (h : PxB w g M F) :
  Calls Tryz.prog 193 #[.slice (some ⟨g, 0, none⟩) M cap, .int .i64 pw] w fun en w' => ∃ gp ge, en = .returned (.tuple #[riceV ⟨0, pw, chP F M, chE M⟩ (some ⟨gp, 0, none⟩) M (some ⟨ge, 0, none⟩) M, .int .i64 (chS F M : Int)]) ∧ IntsBlk w' gp (chP F M) ∧ IntsBlk w' ge (chE M) ∧ w.heap.size ≤ gp ∧ w.heap.size ≤ ge ∧ Below w.heap.size w w' := by
 have hmk := run_make_row' (P := Tryz.prog) 22 3 (.int .i64 0) 8 Tryz.underlying22 info3' rfl .i64 .i64 M (by omega) (by omega)
 have hgl := h.lt
 have HB1 : Hid (Below w.heap.size w (w.alloc (.cells #[.int .i64 0, .int .i64 0, .slice none 0 0, .slice none 0 0] 25))) := (Below.refl _ _).alloc (Nat.le_refl _) _
 have HX1 : Hid ((w.alloc (.cells #[.int .i64 0, .int .i64 0, .slice none 0 0, .slice none 0 0] 25)).heap[w.heap.size]? = some (.cells #[.int .i64 0, .int .i64 0, .slice none 0 0, .slice none 0 0] 25 (0, 0))) := heap_alloc_new _ _
 have HP1 : Hid (PxB (w.alloc (.cells #[.int .i64 0, .int .i64 0, .slice none 0 0, .slice none 0 0] 25)) g M F) := h.below HB1.out
 clear h
 go_enter Tryz.func193, Tryz.ntmps193
 go_upto_region 1 with fail
 generalize hw1 : w.alloc _ = w1 at *
 have hz1 : w.heap.size < w1.heap.size := lt_of_block HX1.out
 clear hw1
 go_cut [6] from 11 to 18 (fun s6 wx => ∃ gp ge k : Nat, s6 = .pointer (some ⟨k, 0, none⟩) ∧ wx.heap[k]? = some (.cells #[.int .i64 0, .int .i64 pw, .slice (some ⟨gp, 0, none⟩) M M, .slice (some ⟨ge, 0, none⟩) M M] 25 (0, 0)) ∧ wx.heap[gp]? = some (.cells (madeCells #[.int .i64 0] M) 3 (0, 0)) ∧ wx.heap[ge]? = some (.cells (madeCells #[.int .i64 0] M) 3 (0, 0)) ∧ gp ≠ ge ∧ k ≠ gp ∧ k ≠ ge ∧ w1.heap.size ≤ gp ∧ w1.heap.size ≤ ge ∧ w1.heap.size ≤ k ∧ Below w1.heap.size w1 wx)
 case first =>
  go_region
  all_goals go_wp2_with fail
  all_goals go_meet
  all_goals first
   | exact ⟨w1.heap.size, w1.heap.size + 1, w1.heap.size + 2, rfl, (heap_three _ _ _ _).2.2, (heap_three _ _ _ _).1, (heap_three _ _ _ _).2.1, by omega, by omega, by omega, by omega, by omega, by omega, below_three _ _ _ _⟩
   | exact ⟨w1.heap.size, w1.heap.size + 2, w1.heap.size + 1, rfl, (heap_three _ _ _ _).2.1, (heap_three _ _ _ _).1, (heap_three _ _ _ _).2.2, by omega, by omega, by omega, by omega, by omega, by omega, below_three _ _ _ _⟩
   | exact ⟨w1.heap.size + 1, w1.heap.size, w1.heap.size + 2, rfl, (heap_three _ _ _ _).2.2, (heap_three _ _ _ _).2.1, (heap_three _ _ _ _).1, by omega, by omega, by omega, by omega, by omega, by omega, below_three _ _ _ _⟩
   | exact ⟨w1.heap.size + 2, w1.heap.size, w1.heap.size + 1, rfl, (heap_three _ _ _ _).2.1, (heap_three _ _ _ _).2.2, (heap_three _ _ _ _).1, by omega, by omega, by omega, by omega, by omega, by omega, below_three _ _ _ _⟩
   | exact ⟨w1.heap.size + 1, w1.heap.size + 2, w1.heap.size, rfl, (heap_three _ _ _ _).1, (heap_three _ _ _ _).2.1, (heap_three _ _ _ _).2.2, by omega, by omega, by omega, by omega, by omega, by omega, below_three _ _ _ _⟩
   | exact ⟨w1.heap.size + 2, w1.heap.size + 1, w1.heap.size, rfl, (heap_three _ _ _ _).1, (heap_three _ _ _ _).2.2, (heap_three _ _ _ _).2.1, by omega, by omega, by omega, by omega, by omega, by omega, below_three _ _ _ _⟩
 case rest =>
  clear hmk
  obtain ⟨gp, ge, k, rfl, hk, hgp, hge, h1, h2, h3, h4, h5, h6, hbc⟩ := hcut
  have HD : Hid (CD w.heap.size g k gp ge) := ⟨hgl, by omega, by omega, by omega, h2, h3, h1⟩
  have HC : Hid (CS w g M k gp ge pw F (List.replicate M 0) (List.replicate M 0) wc) := ⟨HP1.out.below hbc, hk, by unfold IntsBlk; rw [hgp, made_ints], by unfold IntsBlk; rw [hge, made_ints], List.length_replicate, List.length_replicate, by rw [hbc.block _ (lt_of_block HX1.out)]; exact HX1.out, HB1.out.trans (hbc.mono HB1.out.size)⟩
  clear hk hgp hge hbc HP1 HX1 HB1 h1 h2 h3 h4 h5 h6
  go_wp2_with fail
  go_loopw [7, 8, 9, 10, 21] (fun s7 s8 s9 s10 s21 wr => ∃ j : Nat, j ≤ M ∧ s21 = .int .i64 (j : Int) ∧ s7 = .int .i64 ((chS F j : Nat) : Int) ∧ CS w g M k gp ge pw F (chP F j ++ List.replicate (M - j) 0) (chE j ++ List.replicate (M - j) 0) wr) (fun _ _ _ _ s21 _ => M - (intOf s21).toNat)
  case atStart => exact ⟨0, Nat.zero_le _, rfl, rfl, HC.out⟩
  case round =>
   clear HC
   obtain ⟨j, hj, rfl, rfl, hcs⟩ := hrel
   have HC : Hid (CS w g M k gp ge pw F (chP F j ++ List.replicate (M - j) 0) (chE j ++ List.replicate (M - j) 0) wr) := hcs
   clear hcs
   by_cases hlt : j < M
   ·have hFj : ∀ q, F j q ≤ 1000000000000000 := fun q => hF j q
    have HRG : Hid (wr.rangeAt g (j * 15) (pxA fun q => (pv (F j q))).toList) := HC.out.px.range j hlt
    have KL : Hid (∀ wx, Calls Tryz.prog 225 #[.agg (pxA fun q => (pv (F j q)))] wx fun en w' => en = .returned (.int .i64 (bestK (F j) 14 : Int)) ∧ Below wx.heap.size wx w') := fun wx => least_spec (F j) hFj wx
    have hbk := bestK_le (F j) 14
    have hget := pxA_get (fun q => (pv (F j q))) (bestK (F j) 14) (by omega)
    have hAs : (pxA fun q => (pv (F j q))).size = 15 := pxA_size _
    have hAa : (pxA fun q => (pv (F j q))).all (·.oneCell') = true := pxA_all _
    have hvb : F j (bestK (F j) 14) ≤ 1100000000000 := Nat.le_trans (bestK_at (F j) 14) (h14 j)
    have hpv : pv (F j (bestK (F j) 14)) = (F j (bestK (F j) 14) : Int) := pv_lt (by omega)
    rw [hpv] at hget
    clear hpv
    have hsb := chS_le F h14 j
    have HSS : Hid (chS F (j + 1) = chS F j + (4 + F j (bestK (F j) 14))) := rfl
    have HEP : Hid ((chP F j ++ List.replicate (M - j) 0).set j (bestK (F j) 14 : Int) = chP F (j + 1) ++ List.replicate (M - (j + 1)) 0) := by
     show _ = _
     have := set_next (chP F j) (M - j) (bestK (F j) 14 : Int) (by omega)
     rw [chP_len] at this
     rw [this, chP_succ, show M - j - 1 = M - (j + 1) by omega]
    have HEE : Hid ((chE j ++ List.replicate (M - j) 0).set j (-1) = chE (j + 1) ++ List.replicate (M - (j + 1)) 0) := by
     show _ = _
     have := set_next (chE j) (M - j) (-1) (by omega)
     rw [chE_len] at this
     rw [this, chE_succ, show M - j - 1 = M - (j + 1) by omega]
    have HB9 : Hid (Below wr.heap.size wr ((wr.alloc (.cells #[.int .i64 0, .int .i64 0, .int .i64 0, .int .i64 0, .int .i64 0, .int .i64 0, .int .i64 0, .int .i64 0, .int .i64 0, .int .i64 0, .int .i64 0, .int .i64 0, .int .i64 0, .int .i64 0, .int .i64 0] 239)).setRow wr.heap.size (pxA fun q => (pv (F j q))))) := below_setRow ((Below.refl _ _).alloc (Nat.le_refl _) _) _ _ (Nat.le_refl _)
    have HR9 : Hid (((wr.alloc (.cells #[.int .i64 0, .int .i64 0, .int .i64 0, .int .i64 0, .int .i64 0, .int .i64 0, .int .i64 0, .int .i64 0, .int .i64 0, .int .i64 0, .int .i64 0, .int .i64 0, .int .i64 0, .int .i64 0, .int .i64 0] 239)).setRow wr.heap.size (pxA fun q => (pv (F j q)))).heap[wr.heap.size]? = some (.cells (pxA fun q => (pv (F j q))) 239 (0, 0))) := setRow_heap _ wr.heap.size #[.int .i64 0, .int .i64 0, .int .i64 0, .int .i64 0, .int .i64 0, .int .i64 0, .int .i64 0, .int .i64 0, .int .i64 0, .int .i64 0, .int .i64 0, .int .i64 0, .int .i64 0, .int .i64 0, .int .i64 0] _ 239 _ (heap_alloc_new _ _)
    have hZs : (#[.int .i64 0, .int .i64 0, .int .i64 0, .int .i64 0, .int .i64 0, .int .i64 0, .int .i64 0, .int .i64 0, .int .i64 0, .int .i64 0, .int .i64 0, .int .i64 0, .int .i64 0, .int .i64 0, .int .i64 0] : Array Value).size = 15 := rfl
    generalize hAA : (pxA fun q => (pv (F j q))) = A at *
    generalize hbb : bestK (F j) 14 = bk at *
    generalize hvv : F j bk = v at *
    clear hAA hbb hFj
    have HP0 := HC.out.lp
    have HE0 := HC.out.le
    clear HP0 HE0
    go_wp2_with (first
     | (refine wpList_load_mid rfl 239 _ rfl g (j * 15) rfl A.toList _ HRG.out Tryz.underlying239 rfl (by rw [Array.length_toList, hAs]; exact info_prices) ?_; rw [Array.toArray_toList])
     | (refine wpList_store_row rfl 239 _ _ rfl wr.heap.size A rfl rfl 239 #[.int .i64 0, .int .i64 0, .int .i64 0, .int .i64 0, .int .i64 0, .int .i64 0, .int .i64 0, .int .i64 0, .int .i64 0, .int .i64 0, .int .i64 0, .int .i64 0, .int .i64 0, .int .i64 0, .int .i64 0] (heap_alloc_new _ _) (by rw [hAs]; exact info_prices) (by rw [hAs]; rfl) hAa ?_)
     | (refine wpList_load_row rfl 239 _ rfl wr.heap.size rfl 239 A (0, 0) _ HR9.out Tryz.underlying239 rfl (by rw [hAs]; exact info_prices) ?_))
    generalize hw9 : World.setRow _ _ _ = w9 at *
    have HC9 : Hid (CS w g M k gp ge pw F (chP F j ++ List.replicate (M - j) 0) (chE j ++ List.replicate (M - j) 0) w9) := HC.out.low HB9.out
    have hn9 : wr.heap.size < w9.heap.size := lt_of_block HR9.out
    clear hw9 HB9 HRG
    refine (KL.out w9).mono ?_
    rintro e w5 ⟨rfl, hb5⟩
    have HC5 : Hid (CS w g M k gp ge pw F (chP F j ++ List.replicate (M - j) 0) (chE j ++ List.replicate (M - j) 0) w5) := HC9.out.low hb5
    have h95 : w5.heap[wr.heap.size]? = some (.cells A 239 (0, 0)) := by rw [hb5.block _ hn9]; exact HR9.out
    have H95 : Hid (w5.heap[wr.heap.size]? = some (.cells A 239 (0, 0))) := h95
    have c9 : w5.cell? ⟨wr.heap.size, bk, none⟩ = some (.int .i64 (v : Int)) := by rw [cell_of_row _ _ _ _ _ _ h95]; exact hget
    have hgt : ∀ x, x = gp ∨ x = ge → x ≠ wr.heap.size := fun x hx e => by
     have h1 := HC.out.bp.lt
     have h2 := HC.out.be.lt
     rcases hx with hx | hx <;> omega
    obtain ⟨y0, y1, y2, y3⟩ := HC5.out.cells
    have yp := HC5.out.bp.cell j (by rw [HC5.out.lp]; exact hlt)
    have ye := HC5.out.be.cell j (by rw [HC5.out.le]; exact hlt)
    have fp := HC5.out.bp.frozen j
    have fe := HC5.out.be.frozen j
    have hpe := HD.out.pe
    have hep : ge ≠ gp := fun e => hpe e.symm
    have hvn : ((v : Int) == -1) = false := by rw [beq_eq_false_iff_ne]; omega
    have hkp := HD.out.kp
    have hke := HD.out.ke
    have hpk : gp ≠ k := fun e => hkp e.symm
    have hek : ge ≠ k := fun e => hke e.symm
    clear h95 hb5 HC9
    go_wp2_with fail
    go_region
    go_wp2_with fail
    generalize hw6 : World.setCell _ _ _ = w6
    have HC6 : Hid (CS w g M k gp ge pw F (chP F (j + 1) ++ List.replicate (M - (j + 1)) 0) (chE (j + 1) ++ List.replicate (M - (j + 1)) 0) w6) := by
     rw [← hw6, ← HEP.out, ← HEE.out]
     exact (HC5.out.setP HD.out j _).setE HD.out j _
    have c6 : w6.cell? ⟨wr.heap.size, bk, none⟩ = some (.int .i64 (v : Int)) := by
     have hb6 : w6.heap[wr.heap.size]? = some (.cells A 239 (0, 0)) := by
      rw [← hw6, Below.heap_setCell _ _ _ _ (fun e => hgt ge (Or.inr rfl) e.symm), Below.heap_setCell _ _ _ _ (fun e => hgt gp (Or.inl rfl) e.symm)]
      exact H95.out
     rw [cell_of_row _ _ _ _ _ _ hb6]; exact hget
    have x0 := HC6.out.cells.1
    have KW : Hid (∀ wx, Calls Tryz.prog 222 #[.int .i64 0] wx fun e w' => e = .returned (.int .i64 4) ∧ w' = wx) := fun wx => pw_spec 0 (by omega) (by omega) wx
    have kw := KW.out
    clear hw6 y0 y1 y2 y3 yp ye fp fe c9 HC5 HEP HEE
    have HC7 : Hid (CS w g M k gp ge pw F (chP F (j + 1) ++ List.replicate (M - (j + 1)) 0) (chE (j + 1) ++ List.replicate (M - (j + 1)) 0) w6.drew) := HC6.out.low ⟨rfl, rfl, rfl, Nat.le_refl _, fun _ _ => rfl⟩
    have x0' : w6.drew.cell? ⟨k, 0, none⟩ = some (.int .i64 0) := HC7.out.cells.1
    have c6' : w6.drew.cell? ⟨wr.heap.size, bk, none⟩ = some (.int .i64 (v : Int)) := c6
    clear x0 c6 HC6
    generalize w6.drew = w7 at *
    go_quiet ((go_at_call 222; exact Calls.quiet_of_same (kw _)))
    go_wp2_with fail
    go_roundw
    case rel =>
     refine ⟨j + 1, by omega, by go_num, ?_, HC7.out.low (below_drewN _ _)⟩
     rw [HSS.out]
     go_num
    case measure => simp [intOf]; omega
   ·have hjM : j = M := by omega
    subst hjM
    have eP : chP F j ++ List.replicate (j - j) 0 = chP F j := by rw [Nat.sub_self, List.replicate_zero, List.append_nil]
    have eE : chE j ++ List.replicate (j - j) 0 = chE j := by rw [Nat.sub_self, List.replicate_zero, List.append_nil]
    rw [eP, eE] at HC
    obtain ⟨y0, y1, y2, y3⟩ := HC.out.cells
    have hxr := HC.out.rb
    have u0 : wr.cell? ⟨w.heap.size, 0, none⟩ = some (.int .i64 0) := by rw [cell_of_row _ _ _ _ _ _ hxr]; rfl
    have u1 : wr.cell? ⟨w.heap.size, 1, none⟩ = some (.int .i64 0) := by rw [cell_of_row _ _ _ _ _ _ hxr]; rfl
    have u2 : wr.cell? ⟨w.heap.size, 2, none⟩ = some (.slice none 0 0) := by rw [cell_of_row _ _ _ _ _ _ hxr]; rfl
    have u3 : wr.cell? ⟨w.heap.size, 3, none⟩ = some (.slice none 0 0) := by rw [cell_of_row _ _ _ _ _ _ hxr]; rfl
    have f0 : wr.frozen? ⟨w.heap.size, 0, none⟩ = false := by simp [World.frozen?, hxr]
    have f1 : wr.frozen? ⟨w.heap.size, 1, none⟩ = false := by simp [World.frozen?, hxr]
    have f2 : wr.frozen? ⟨w.heap.size, 2, none⟩ = false := by simp [World.frozen?, hxr]
    have f3 : wr.frozen? ⟨w.heap.size, 3, none⟩ = false := by simp [World.frozen?, hxr]
    have hkn : ¬ k = w.heap.size := by have := HD.out.hk; omega
    clear hxr eP eE
    go_wp2_with fail
    generalize hwf : World.setCell _ _ _ = wf
    have hrow : wf.heap[w.heap.size]? = some (.cells #[.int .i64 0, .int .i64 pw, .slice (some ⟨gp, 0, none⟩) j j, .slice (some ⟨ge, 0, none⟩) j j] 25 (0, 0)) := by rw [← hwf]; exact set4_a _ _ _ _ _ HC.out.rb
    have hO : ∀ i, i ≠ w.heap.size → wf.heap[i]? = wr.heap[i]? := fun i hi => by rw [← hwf]; exact set4_d _ _ _ _ _ i hi
    have hbel : Below w.heap.size w wf := by rw [← hwf]; exact (((HC.out.below.setCell (Nat.le_refl _) _).setCell (Nat.le_refl _) _).setCell (Nat.le_refl _) _).setCell (Nat.le_refl _) _
    have hD := HD.out
    refine bodyPost_ret (v := .tuple #[.agg #[.int .i64 0, .int .i64 pw, .slice (some ⟨gp, 0, none⟩) j j, .slice (some ⟨ge, 0, none⟩) j j], .int .i64 ((chS F j : Nat) : Int)]) ?_ rfl ⟨gp, ge, ?_, ?_, ?_, Nat.le_of_lt hD.hp, Nat.le_of_lt hD.he, hbel⟩
    ·rw [results_two rfl]
     have hld := run_loadVar_row (P := Tryz.prog) wf w.heap.size 25 25 #[.int .i64 0, .int .i64 pw, .slice (some ⟨gp, 0, none⟩) j j, .slice (some ⟨ge, 0, none⟩) j j] (0, 0) _ hrow Tryz.underlying25 rfl info_Rice
     simp [asAddr, Result.andThen, hld]
    ·show _ = Ending.returned (.tuple #[.agg #[.int .i64 0, .int .i64 pw, .slice (some ⟨gp, 0, none⟩) (chP F j).length j, .slice (some ⟨ge, 0, none⟩) (chE j).length j], .int .i64 ((chS F j : Nat) : Int)])
     rw [chP_len, chE_len]
    ·unfold IntsBlk; rw [hO gp (by have := hD.hp; omega)]; exact HC.out.bp
    ·unfold IntsBlk; rw [hO ge (by have := hD.he; omega)]; exact HC.out.be
end Go.Proofs.YthgpleelpeacjaaGreatDoor
