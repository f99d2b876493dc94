/- Own text. -/
import Derived.Shelf.Abstract
import Derived.Test.YtfpfabmbipmipaaGreatDoorD13
import Derived.Laws.CopyRow
import Derived.Laws.IdiomCopy
import Derived.Laws.OwnMore
set_option linter.unusedSimpArgs false
set_option linter.unusedVariables false
set_option maxRecDepth 20000
set_option maxHeartbeats 12800000
namespace Go.Proofs.YtfpfabmbipmipaaGreatDoor
open Go.RowKit
theorem qleft_spec (C l : List Int) (ca la : OA) (cc lc sh b : Nat) (hsh : sh <= 31) (hCl : C.length <= l.length) (hlc : l.length <= lc) (w : World) (hL : Lin b C ca cc sh w) (hl : IntsAt w la l) :
  Calls Tryz.prog 204 #[linV b, .int .i64 (C.length : Int), .slice la l.length lc] w fun e w' => ∃ ga gc, e = .returned (.slice ga (leftN C sh l (l.length - C.length)).length gc) /\ Made w ga gc (leftN C sh l (l.length - C.length)) w' := by
 have h1 := hl.len
 have HL := kQ hl
 have HLI := kQ hL
 have hmk := make_ints (l.length - C.length) (by omega)
 have hsb : (l.length : Int) - (C.length : Int) = ((l.length - C.length : Nat) : Int) := by omega
 have HLL : Hid ((leftN C sh l (l.length - C.length)).length = l.length - C.length) := leftN_len _ _ _ _
 have HRG : Hid (Rng (leftN C sh l (l.length - C.length))) := leftN_rng _ _ _ _
 have HAT : Hid (∀ i, i < l.length - C.length -> (leftN C sh l (l.length - C.length)).getD i 0 = wrap64 (l.getD (i + C.length) 0 - foreN C sh l (i + C.length))) := fun i hi => by
  rw [leftN_at C sh l _ i hi, Nat.add_comm]
 have HM : Hid (∀ L : List Int, L.length = l.length - C.length -> Fill w w.heap.size L 0 (w.alloc (.cells (madeCells #[.int .i64 0] (l.length - C.length)) 3))) := fun L hLl => by
  have := Fill.made w w (Below.refl _ _) L;rw [hLl] at this; exact this
 have KC : Hid (∀ i, i + C.length <= l.length -> ∀ b1 o1, la = some ⟨b1, o1, none⟩ -> ∀ pc wx, Lo w wx -> Calls Tryz.prog 227 (#[.slice (some ⟨b1, o1 + i, none⟩) C.length pc] ++ #[.pointer (some ⟨b, 0, none⟩), .pointer (some ⟨b + 1, 0, none⟩)]) wx fun e w' => e = .returned (.int .i64 (foreN C sh l (i + C.length))) /\ w' = wx) := fun i hi b1 o1 hla pc wx hbx => by
  have hpl : ((l.drop i).take C.length).length = C.length := by rw [List.length_take, List.length_drop]; omega
  have hpt := hl.part i C.length hi (some ⟨b1, o1 + i, none⟩) (fun b off e _ => by rw [hla] at e; cases e; rfl)
  have hh := qclos_spec C ((l.drop i).take C.length) ca (some ⟨b1, o1 + i, none⟩) cc pc sh b hsh (by rw [hpl]; exact Nat.le_refl _) wx (hL.below hbx) (hpt.below hbx)
  rw [hpl, foreN_part] at hh;exact hh
 clear hl hL
 generalize leftN C sh l (l.length - C.length) = L at *
 generalize hn : l.length - C.length = n at *
 generalize hq : C.length = q at *
 have HNQ : Hid (n + q = l.length) := by show _ = _; omega
 clear hn hq hCl
 go_enter Tryz.func204, Tryz.ntmps204
 go_wp2_with fail
 generalize hwa : w.alloc _ = wa at *
 have HA := kQ (HM.out L HLL.out)
 clear hwa HM hmk
 go_loopw [8, 16] (fun s8 s16 wr => ∃ i : Nat, i <= n /\ s16 = .int .i64 (i : Int) /\ Fill w w.heap.size L i wr) (fun _ s16 _ => n - (intOf s16).toNat)
 case atStart => exact ⟨0, Nat.zero_le _, rfl, HA.out⟩
 case round =>
  clear HA;obtain ⟨i, hi, rfl, hf⟩ := hrel;have HA := kQ hf;clear hf;by_cases hlt : i < n
  ·obtain ⟨b1, o1, rfl, q1⟩ := HL.out.at (i + q) (by have := HNQ.out; omega)
   have HQ1 : Hid (∀ wx, Lo w wx -> wx.cell? ⟨b1, o1 + (i + q), none⟩ = some (.int .i64 (l.getD (i + q) 0))) := fun wx hh => q1 wx hh;have HK : Hid (∀ pc wx, Lo w wx -> Calls Tryz.prog 227 (#[.slice (some ⟨b1, o1 + i, none⟩) q pc] ++ #[.pointer (some ⟨b, 0, none⟩), .pointer (some ⟨b + 1, 0, none⟩)]) wx fun e w' => e = .returned (.int .i64 (foreN C sh l (i + q))) /\ w' = wx) := fun pc wx hh => KC.out i (by have := HNQ.out; omega) b1 o1 rfl pc wx hh
   have hv0 := kQ ((HAT.out i hlt).symm);have HNX : Hid (Fill w w.heap.size L (i + 1) (wr.drew.setCell ⟨w.heap.size, i, none⟩ (.int .i64 (wrap64 (l.getD (i + q) 0 - foreN C sh l (i + q)))))) := by rw [hv0.out]; exact HA.out.drew.set (by rw [HLL.out]; exact hlt)
   have HD := kQ HA.out.drew;have hpl : i + q < l.length := by have := HNQ.out; omega
   obtain ⟨p, hp⟩ : ∃ p : Nat, p = i + q := ⟨_, rfl⟩;have hpi : (i : Int) + (q : Int) = (p : Int) := by omega
   have hpq : p - i = q := by omega
   rw [<- hp] at HQ1 HK HNX hpl q1;have hip : i <= p := by omega
   have hpl2 : (p : Int) < (l.length : Int) := by omega
   have hpc2 : (p : Int) <= (lc : Int) := by omega
   have hip2 : (i : Int) <= (p : Int) := by omega
   have hpi3 : (p : Int) - (i : Int) = (q : Int) := by omega
   have hwp : IntKind.i64.wrap (p : Int) = (p : Int) := by rw [IntKind.wrap_i64]; omega
   have hne : ¬ lc = i := by omega
   have HPE := kQ hp;clear hp;have HCL : Hid (∀ wx, Hid (Fill w w.heap.size L i wx) -> (∃ v : Int, wx.cell? ⟨w.heap.size, i, none⟩ = some (.int .i64 v)) /\ wx.frozen? ⟨w.heap.size, i, none⟩ = false) := fun wx hh => ⟨⟨_, hh.out.cell i (by rw [HLL.out]; exact hlt)⟩, hh.out.frozen _⟩
   clear q1 HA hv0;generalize l.getD p 0 = x at *;generalize foreN C sh l p = fo at *
   go_wp2_with fail
   refine wp_region_held_drew (S := fun wx => Lo w wx) (by kernel_rfl) HD.out.below (fun hS => ?_)
   refine vQ 0 (.slice (some ⟨w.heap.size, 0, none⟩) n n) hS ?_;simp only [SL];refine vQ 1 (.int .i64 (i : Int)) hS ?_;simp only [SL];refine vQ 2 (.slice (some ⟨b1, o1, none⟩) l.length lc) hS ?_;simp only [SL];refine vQ 3 (.int .i64 (i : Int)) hS ?_;simp only [SL];refine vQ 4 (.int .i64 (q : Int)) hS ?_;simp only [SL];refine vQ 5 (.int .i64 (p : Int)) hS ?_;simp only [SL];refine vQ 6 (.pointer (some ⟨b1, o1 + p, none⟩)) hS ?_;simp only [SL];refine uQ 7 (.int .i64 x) rfl hS (Or.inl ⟨by rfl, fun w hSw => by have r1 := HQ1.out w hSw; go_simp⟩) ?_
   simp only [SL];refine vQ 8 (linV b) hS ?_;simp only [SL];refine vQ 9 (.slice (some ⟨b1, o1, none⟩) l.length lc) hS ?_;simp only [SL];refine vQ 10 (.int .i64 (i : Int)) hS ?_;simp only [SL];refine vQ 11 (.int .i64 (i : Int)) hS ?_;simp only [SL];refine vQ 12 (.int .i64 (q : Int)) hS ?_;simp only [SL];refine vQ 13 (.int .i64 (p : Int)) hS ?_;simp only [SL];refine vQ 14 (.slice (some ⟨b1, o1 + i, none⟩) q (lc - i)) hS ?_;simp only [SL];refine wpAnyH_ready (rs := [15]) (by kernel_rfl) (by simp) ?_
   refine AllReadyH.cons rfl (fun K hK => ?_) AllReadyH.nil;go_simp;refine (HK.out _ _ hS).mono ?_;rintro e w5 ⟨rfl, hw5⟩;subst hw5;obtain ⟨⟨v5, y5⟩, z5⟩ := HCL.out _ HD;refine hK.out _ _ hS (fun hS5 => ?_);clear hK K
   try simp only [SL]
   refine uQ 16 (.int .i64 (wrap64 (x - fo))) rfl hS5 (Or.inl ⟨by rfl, fun w hSw => by go_simp; exact wrap_is _⟩) ?_
   simp only [SL];refine vQ 17 (.pointer (some ⟨w.heap.size, i, none⟩)) hS5 ?_;simp only [SL];refine wpAnyH_ready (rs := [18]) (by kernel_rfl) (by simp) ?_
   refine AllReadyH.cons rfl (fun K hK => ?_) AllReadyH.nil;go_simp;refine hK.out _ _ HNX.out.below (fun hS6 => ?_);clear hK K;refine wpAnyH_done (by kernel_rfl) ?_ _
   go_wp2_with fail
   go_roundw
   case rel => exact ⟨i + 1, by omega, by go_num, HNX.out⟩
   case measure => simp [intOf]; omega
  ·have hin : i = n := by omega
   subst hin;have HI : Hid (Made w (some ⟨w.heap.size, 0, none⟩) i L wr) := Made.of_fill (by rw [HLL.out]; exact HA.out) (by rw [HLL.out]; omega) (by rw [HLL.out]; omega) HRG.out
   clear HA
   go_wp2_with fail
   go_ret;exact ⟨_, _, by rw [HLL.out]; rfl, HI.out⟩
theorem qfixed_spec (o : Int) (l : List Int) (la : OA) (lc : Nat) (hlc : l.length <= lc) (w : World) (hl : IntsAt w la l) : Calls Tryz.prog 188 #[.int .i64 o, .slice la l.length lc] w (RetM (fixR o l) w) := by
 have h1 := hl.len
 by_cases h1 : o < 0
 rotate_left
 focus
  skip
  by_cases h2 : 4 < o;rotate_left
  focus
   skip
   by_cases h3 : (l.length : Int) < o;rotate_left
   ·skip
    obtain ⟨o', rfl⟩ : ∃ o' : Nat, o = (o' : Int) := ⟨o.toNat, by omega⟩
    have ho4 : o' <= 4 := by omega
    have hol : o' <= l.length := by omega
    have HWL : Hid ((wF o').length = o') := wF_len o' ho4
    have HR : Hid (fixR (o' : Int) l = some (leftN (wF o') 0 l (l.length - o'))) := by
     show _ = _;unfold fixR; rw [if_pos (by omega)]; rfl
    have kw := qcoefs_spec o' ho4 w;have HL := kQ hl;clear hl;go_enter Tryz.func188, Tryz.ntmps188
    go_wp2_with fail
    refine kw.mono ?_;rintro e w2 ⟨ca, cc, rfl, hc, hb2⟩;have km := qlinear_spec (wF o') ca cc 0 w2 hc;rw [HWL.out] at km ⊢;have HB2 := kQ hb2;clear kw hb2 hc
    go_wp2_with fail
    refine km.mono ?_;rintro e w3 ⟨b, rfl, hlin, hb3⟩;have HB3 := kQ (HB2.out.trans (hb3.mono HB2.out.size));have kl := qleft_spec (wF o') l ca la cc lc 0 b (by omega) (by rw [HWL.out]; exact hol) hlc w3 hlin (HL.out.below HB3.out)
    rw [HWL.out] at kl;clear km hb3 hlin HB2;generalize leftN (wF o') 0 l (l.length - o') = R at *
    go_wp2_with fail
    refine kl.mono ?_;rintro e w4 ⟨ao, ac, rfl, hi4⟩;have HI := kQ (hi4.up HB3.out);clear hi4 kl
    go_wp2_with fail
    go_ret2
    exact retM_some HR.out rfl HI.out
  rotate_left
 rotate_left 2
 all_goals
  have HR : Hid (fixR o l = none) := by show _ = _; unfold fixR; rw [if_neg (by omega)]
  go_enter Tryz.func188, Tryz.ntmps188
  go_wp2_with fail
  go_ret2
  exact retM_none HR.out rfl (Below.refl _ _)
theorem qlpc_spec (C l : List Int) (sh : Int) (ca la : OA) (cc lc : Nat) (hlc : l.length <= lc) (w : World) (hC : IntsAt w ca C) (hl : IntsAt w la l) : Calls Tryz.prog 189 #[.slice ca C.length cc, .int .i64 sh, .slice la l.length lc] w (RetM (lpcR C sh l) w) := by
 have km := qmay_spec C sh ca cc w hC
 have h1 := hC.len
 have h2 := hl.len
 have HC := kQ hC
 have HL := kQ hl
 clear hC hl
 cases hm : mayB C sh with
 | false =>
  have HR : Hid (lpcR C sh l = none) := by show _ = _; unfold lpcR; rw [hm, if_neg (fun h => by cases h.1)]
  rw [hm] at km;clear hm;go_enter Tryz.func189, Tryz.ntmps189
  go_wp2_with fail
  refine km.mono ?_;rintro e w2 ⟨rfl, rfl⟩
  go_wp2_with fail
  go_ret2
  exact retM_none HR.out rfl (Below.refl _ _)
 | true =>
  obtain ⟨m1, m2, m3, m4⟩ := (mayB_iff C sh).1 hm;obtain ⟨s', rfl⟩ : ∃ s' : Nat, sh = (s' : Int) := ⟨sh.toNat, by omega⟩
  have hs31 : s' <= 31 := by omega
  by_cases hk : C.length <= l.length
  ·have hk2 : (C.length : Int) <= (l.length : Int) := by omega
   have HR : Hid (lpcR C (s' : Int) l = some (leftN C s' l (l.length - C.length))) := by show _ = _; unfold lpcR; rw [hm, if_pos ⟨rfl, hk⟩]; rfl
   skip
   rw [hm] at km;clear hm;go_enter Tryz.func189, Tryz.ntmps189
   go_wp2_with fail
   refine km.mono ?_;rintro e w2 ⟨rfl, rfl⟩;have kn := qlinear_spec C ca cc s' w2 HC.out;clear km
   go_wp2_with fail
   refine kn.mono ?_;rintro e w3 ⟨b, rfl, hlin, hb3⟩;have HB3 := kQ hb3;have kl := qleft_spec C l ca la cc lc s' b hs31 hk hlc w3 hlin (HL.out.below HB3.out);generalize leftN C s' l (l.length - C.length) = R at *;clear kn hb3 hlin
   go_wp2_with fail
   refine kl.mono ?_;rintro e w4 ⟨ao, ac, rfl, hi4⟩;have HI := kQ (hi4.up HB3.out);clear hi4 kl
   go_wp2_with fail
   go_ret2
   exact retM_some HR.out rfl HI.out
  ·have HR : Hid (lpcR C (s' : Int) l = none) := by show _ = _; unfold lpcR; rw [if_neg (fun h => hk h.2)]
   have hk2 : (l.length : Int) < (C.length : Int) := by omega
   rw [hm] at km;clear hm;go_enter Tryz.func189, Tryz.ntmps189
   go_wp2_with fail
   refine km.mono ?_;rintro e w2 ⟨rfl, rfl⟩
   go_wp2_with fail
   go_ret2
   exact retM_none HR.out rfl (Below.refl _ _)
theorem tt_iff {P : Prop} (h : P) : (true = true ↔ P) := ⟨fun _ => h, fun _ => rfl⟩
theorem ff_iff {P : Prop} (h : ¬ P) : (false = true ↔ P) := Iff.intro (fun e => Bool.noConfusion e) (fun e => absurd e h)
theorem bb_no {bb : Bool} {P : Prop} (h : bb = true ↔ P) (hn : ¬ P) : bb = false := by
 cases bb with
 | false => rfl
 | true => exact absurd (h.1 rfl) hn
theorem bb_yes {bb : Bool} {P : Prop} (h : bb = true ↔ P) (hn : P) : bb = true := h.2 hn
structure SX (w : World) (q : Sb) (ca : OA) (cc : Nat) (pa : OA) (pc : Nat) (ea : OA) (ec : Nat) (wx : World) : Prop where
 box : wx.heap[w.heap.size]? = some (.cells (subC q ca cc pa pc ea ec) 67 (0, 0))
 below : Lo w wx
section
variable {w wx w' : World} {q : Sb} {ca : OA} {cc : Nat} {pa : OA} {pc : Nat} {ea : OA} {ec : Nat}
theorem SX.new (w : World) (q : Sb) (ca : OA) (cc : Nat) (pa : OA) (pc : Nat) (ea : OA) (ec : Nat) : SX w q ca cc pa pc ea ec (w.alloc (.cells (subC q ca cc pa pc ea ec) 67)) :=
 ⟨heap_alloc_new _ _, aQ⟩
theorem SX.next (h : SX w q ca cc pa pc ea ec wx) (hb : Lo wx w') : SX w q ca cc pa pc ea ec w' :=
 ⟨by rw [hb.block _ (lt_of_block h.box)]; exact h.box, h.below.trans (hb.mono h.below.size)⟩
end
theorem fit_sign (x : Int) (k : Nat) : (-2 ^ k <= x /\ x < 2 ^ k) ↔ (x / 2 ^ k = 0 ∨ x / 2 ^ k = -1) := by
 have hq : (0 : Int) < 2 ^ k := Int.pow_pos (by decide)
 have h1 := Int.emod_add_mul_ediv x (2 ^ k)
 have h2 := Int.emod_nonneg x (Int.ne_of_gt hq)
 have h3 := Int.emod_lt_of_pos x hq
 generalize (2 : Int) ^ k = m at *
 generalize x % m = r at *
 generalize hy : x / m = y at *
 constructor
 ·rintro ⟨a, b⟩
  rcases Int.lt_or_le y (-1) with c | c
  ·have := Int.mul_le_mul_of_nonneg_left (show y <= -2 by omega) (Int.le_of_lt hq)
   omega
  ·rcases Int.lt_or_le 0 y with d | d
   ·have := Int.mul_le_mul_of_nonneg_left (show 1 <= y by omega) (Int.le_of_lt hq)
    omega
   ·omega
 ·rintro (c | c)
  ·rw [c, Int.mul_zero] at h1; omega
  ·rw [c, Int.mul_neg, Int.mul_one] at h1; omega
theorem div_rng (x : Int) (k : Nat) (h : -9223372036854775808 <= x /\ x <= 9223372036854775807) : -9223372036854775808 <= x / 2 ^ k /\ x / 2 ^ k <= 9223372036854775807 := by
 have hq : (0 : Int) < 2 ^ k := Int.pow_pos (by decide)
 have h1 := Int.ediv_mul_le x (Int.ne_of_gt hq)
 have h2 := Int.lt_ediv_add_one_mul_self x hq
 have hq1 : (1 : Int) <= 2 ^ k := hq
 generalize (2 : Int) ^ k = m at *
 generalize x / m = y at *
 constructor
 ·rcases Int.lt_or_le y (-9223372036854775808) with c | c
  ·have := Int.mul_le_mul_of_nonneg_right (show y + 1 <= -9223372036854775808 by omega) (Int.le_of_lt hq)
   omega
  ·exact c
 ·rcases Int.lt_or_le 9223372036854775807 y with c | c
  ·have := Int.mul_le_mul_of_nonneg_right (show 9223372036854775808 <= y by omega) (Int.le_of_lt hq)
   omega
  ·exact c
theorem sigE_sign (x : Int) (k : Nat) (hk : k <= 63) : sigE x ((k : Int) + 1) = 0 ↔ (x / 2 ^ k = 0 ∨ x / 2 ^ k = -1) := by
 rw [sigE_iff, <- fit_sign, show ((k : Int) + 1).toNat - 1 = k by omega]
 constructor
 ·rintro ⟨_, _, a, b⟩; exact ⟨a, b⟩
 ·rintro ⟨a, b⟩; exact ⟨by omega, by omega, a, b⟩
theorem s_areOf (b v : Int) (bb : Bool) (hbb : bb = true ↔ (1 <= b /\ b <= 65535) /\ (1 <= v /\ v <= 33)) (w : World) : Calls Tryz.prog 133 #[.int .i64 b, .int .i64 v] w fun e w' => e = .returned (.bool bb) /\ w' = w := by
 by_cases g0 : b < 1
 focus
  rw [bb_no hbb (by omega)]
  clear hbb
 rotate_left
 focus
  skip
  by_cases g1 : 65535 < b
  focus
   rw [bb_no hbb (by omega)]
   clear hbb
  rotate_left
  focus
   skip
   by_cases g2 : v < 1
   focus
    rw [bb_no hbb (by omega)]
    clear hbb
   rotate_left
   focus
    skip
    by_cases g3 : 33 < v
    focus
     rw [bb_no hbb (by omega)]
     clear hbb;have hb : decide (v <= 33) = false := decide_eq_false (by omega)
    rotate_left
    focus
     skip
     rw [bb_yes hbb (by omega)]
     clear hbb;have hb : decide (v <= 33) = true := decide_eq_true (by omega)
    rotate_left
   rotate_left 2
  rotate_left 3
 rotate_left 4
 all_goals
  go_enter Tryz.func133, Tryz.ntmps133
  go_wp2_with fail
  go_ret;exact ⟨rfl, rfl⟩
theorem s_within (l : List Int) (la : OA) (lc : Nat) (k : Nat) (hk : k <= 63) (bb : Bool) (hbb : bb = true ↔ ∀ x ∈ l, sigE x ((k : Int) + 1) = 0) (w : World) (hl : IntsAt w la l) : Calls Tryz.prog 142 #[.slice la l.length lc, .int .i64 ((k : Int) + 1)] w fun e w' => e = .returned (.bool bb) /\ w' = w := by
 have HL := kQ hl
 have h1 := hl.len
 have HBB := kQ hbb
 clear hbb hl
 go_enter Tryz.func142, Tryz.ntmps142
 go_wp2_with fail
 go_loopw [6, 7, 10] (fun s6 s7 t wr => ∃ i : Nat, i <= l.length /\ t = .int .i64 (i : Int) /\ (∀ j, j < i -> sigE (l.getD j 0) ((k : Int) + 1) = 0) /\ wr = w) (fun _ _ t _ => l.length - (intOf t).toNat)
 case atStart => exact ⟨0, Nat.zero_le _, rfl, fun j hj => absurd hj (Nat.not_lt_zero _), rfl⟩
 case round =>
  obtain ⟨i, hi, rfl, hs, rfl⟩ := hrel;have HS := kQ hs;clear hs;by_cases hlt : i < l.length
  focus
   obtain ⟨b1, o1, rfl, q1⟩ := HL.out.at i hlt;have r1 := q1 wr (Below.refl _ _);have hsg := sigE_sign (l.getD i 0) k hk;have hrg := HL.out.rng i
   have HM : Hid (l.getD i 0 ∈ l) := by
    show _ ∈ _;rw [List.getD_eq_getElem?_getD, List.getElem?_eq_getElem hlt]; exact List.getElem_mem hlt
   have hdr : -9223372036854775808 <= l.getD i 0 / 2 ^ k /\ l.getD i 0 / 2 ^ k <= 9223372036854775807 := div_rng _ k hrg;have HSG := kQ hsg;have HE : Hid (∀ j, j = i -> l.getD j 0 = l.getD i 0) := fun j hj => by rw [hj]
   clear q1 hsg;generalize l.getD i 0 = x at *;by_cases c0 : x / 2 ^ k = 0
   focus
    have hb0 : (x / 2 ^ k != 0) = false := by rw [bne_eq_false_iff_eq]; exact c0
    have HX := kQ (HSG.out.2 (.inl c0));clear HSG c0 HM
   rotate_left
   focus
    by_cases c1 : x / 2 ^ k = -1
    focus
     have hb0 : (x / 2 ^ k != 0) = true := by rw [bne_iff_ne]; exact c0
     have hb1 : (x / 2 ^ k != -1) = false := by rw [bne_eq_false_iff_eq]; exact c1
     have HX := kQ (HSG.out.2 (.inr c1));clear HSG c0 c1 HM
    rotate_left
    ·have hb0 : (x / 2 ^ k != 0) = true := by rw [bne_iff_ne]; exact c0
     have hb1 : (x / 2 ^ k != -1) = true := by rw [bne_iff_ne]; exact c1
     have HF : Hid (bb = false) := bb_no HBB.out (fun h => by
      have := HSG.out.1 (h x HM.out)
      omega)
     clear HSG c0 c1 HM
     go_wp2_with fail
     go_ret;exact ⟨by rw [HF.out]; rfl, rfl⟩
   rotate_left
  rotate_left 2
  ·have HF : Hid (bb = true) := bb_yes HBB.out (fun x hx => by
    obtain ⟨j, hj, rfl⟩ := List.mem_iff_getElem.1 hx;have := HS.out j (by omega)
    rw [List.getD_eq_getElem?_getD, List.getElem?_eq_getElem hj] at this
    exact this)
   go_wp2_with fail
   go_ret;exact ⟨by rw [HF.out]; rfl, rfl⟩
  all_goals
   go_wp2_with fail
   go_roundw
   case rel =>
    refine ⟨i + 1, by omega, by go_num, fun j hj => ?_, trivial⟩
    by_cases e : j = i
    ·rw [HE.out j e]; exact HX.out
    ·exact HS.out j (by omega)
   case measure => simp [intOf]; omega
theorem s_noCoefs (q : Sb) (ca : OA) (cc : Nat) (pa : OA) (pc : Nat) (ea : OA) (ec : Nat) (bb : Bool) (hbb : bb = true ↔ bareOk q) (w : World) (hC : q.C.length <= 17592186044415) : Calls Tryz.prog 169 #[subV q ca cc pa pc ea ec] w fun e w' => e = .returned (.bool bb) /\ Lo w w' := by
 by_cases g0 : ¬ q.p = 0
 focus
  rw [bb_no hbb (fun h => g0 h.1)];clear hbb;have hb0 : (q.p == 0) = false := by rw [beq_eq_false_iff_ne]; exact g0
 rotate_left
 focus
  skip
  by_cases g1 : ¬ q.h = 0
  focus
   rw [bb_no hbb (fun h => g1 h.2.1)];clear hbb;have hb0 : (q.p == 0) = true := eQt (by omega)
   have hb1 : (q.h == 0) = false := by rw [beq_eq_false_iff_ne]; exact g1
  rotate_left
  focus
   skip
   by_cases g2 : ¬ q.C.length = 0
   focus
    rw [bb_no hbb (fun h => g2 (by rw [h.2.2]; rfl))]
    clear hbb;have hb0 : (q.p == 0) = true := eQt (by omega)
    have hb1 : (q.h == 0) = true := eQt (by omega)
    have hb2 : ((q.C.length : Int) == 0) = false := eQf (by omega)
   rotate_left
   focus
    skip
    rw [bb_yes hbb (⟨by omega, by omega, List.eq_nil_of_length_eq_zero (by omega)⟩)]
    clear hbb;have hb0 : (q.p == 0) = true := eQt (by omega)
    have hb1 : (q.h == 0) = true := eQt (by omega)
    have hb2 : ((q.C.length : Int) == 0) = true := eQt (by omega)
   rotate_left
  rotate_left 2
 rotate_left 3
 all_goals
  have HA : Hid (SX w q ca cc pa pc ea ec (w.alloc (.cells (subC q ca cc pa pc ea ec) 67))) := SX.new w q ca cc pa pc ea ec;go_enter Tryz.func169, Tryz.ntmps169
  go_upto_region 1 with fail
  generalize World.alloc _ _ = wa at *;obtain ⟨x0, x1, x2, x3, x4, x5, x6, x7, x8, x9⟩ := sub_cells HA.out.box
  go_wp2_with fail
  go_ret;exact ⟨rfl, HA.out.below⟩
theorem rice_cells {w : World} {g : Nat} {c : Rc} {pa : OA} {pc : Nat} {ea : OA} {ec : Nat} (h : w.heap[g]? = some (.cells (riceC c pa pc ea ec) 65 (0, 0))) :
  w.cell? ⟨g, 0, none⟩ = some (.int .i64 c.m) /\ w.cell? ⟨g, 1, none⟩ = some (.int .i64 c.o) /\ w.cell? ⟨g, 2, none⟩ = some (.slice pa c.P.length pc) /\ w.cell? ⟨g, 3, none⟩ = some (.slice ea c.E.length ec) := by
 refine ⟨?_, ?_, ?_, ?_⟩ <;> (rw [cell_of_row _ _ _ _ _ _ h]; rfl)
theorem rc_zero {c : Rc} (h0 : c.m = 0) (h1 : c.o = 0) (h2 : c.P.length = 0) (h3 : c.E.length = 0) : c = ⟨0, 0, [], []⟩ := by
 obtain ⟨m, o, P, E⟩ := c
 simp only at h0 h1 h2 h3
 rw [h0, h1, List.eq_nil_of_length_eq_zero h2, List.eq_nil_of_length_eq_zero h3]
theorem s_noRice (q : Sb) (ca : OA) (cc : Nat) (pa : OA) (pc : Nat) (ea : OA) (ec : Nat) (bb : Bool) (hbb : bb = true ↔ q.R = ⟨0, 0, [], []⟩) (w : World) (hP : q.R.P.length <= 17592186044415) (hE : q.R.E.length <= 17592186044415) : Calls Tryz.prog 170 #[subV q ca cc pa pc ea ec] w fun e w' => e = .returned (.bool bb) /\ Lo w w' := by
 by_cases g0 : ¬ q.R.m = 0
 focus
  rw [bb_no hbb (fun h => g0 (by rw [h]))]
  clear hbb;have hb0 : (q.R.m == 0) = false := eQf (by omega)
 rotate_left
 focus
  skip
  by_cases g1 : ¬ q.R.o = 0
  focus
   rw [bb_no hbb (fun h => g1 (by rw [h]))]
   clear hbb;have hb0 : (q.R.m == 0) = true := eQt (by omega)
   have hb1 : (q.R.o == 0) = false := eQf (by omega)
  rotate_left
  focus
   skip
   by_cases g2 : ¬ q.R.P.length = 0
   focus
    rw [bb_no hbb (fun h => g2 (by rw [h]; rfl))]
    clear hbb;have hb0 : (q.R.m == 0) = true := eQt (by omega)
    have hb1 : (q.R.o == 0) = true := eQt (by omega)
    have hb2 : ((q.R.P.length : Int) == 0) = false := eQf (by omega)
   rotate_left
   focus
    skip
    by_cases g3 : ¬ q.R.E.length = 0
    focus
     rw [bb_no hbb (fun h => g3 (by rw [h]; rfl))]
     clear hbb;have hb0 : (q.R.m == 0) = true := eQt (by omega)
     have hb1 : (q.R.o == 0) = true := eQt (by omega)
     have hb2 : ((q.R.P.length : Int) == 0) = true := eQt (by omega)
     have hb3 : ((q.R.E.length : Int) == 0) = false := eQf (by omega)
    rotate_left
    focus
     skip
     rw [bb_yes hbb (rc_zero (by omega) (by omega) (by omega) (by omega))]
     clear hbb;have hb0 : (q.R.m == 0) = true := eQt (by omega)
     have hb1 : (q.R.o == 0) = true := eQt (by omega)
     have hb2 : ((q.R.P.length : Int) == 0) = true := eQt (by omega)
     have hb3 : ((q.R.E.length : Int) == 0) = true := eQt (by omega)
    rotate_left
   rotate_left 2
  rotate_left 3
 rotate_left 4
 all_goals
  have HA : Hid (SX w q ca cc pa pc ea ec (w.alloc (.cells (subC q ca cc pa pc ea ec) 67))) := SX.new w q ca cc pa pc ea ec;have HR : Hid (∀ wx, SX w q ca cc pa pc ea ec wx -> (wx.alloc (.cells (riceC q.R pa pc ea ec) 65)).heap[wx.heap.size]? = some (.cells (riceC q.R pa pc ea ec) 65 (0, 0)) /\ Lo w (wx.alloc (.cells (riceC q.R pa pc ea ec) 65))) := fun wx h => ⟨heap_alloc_new _ _, h.below.alloc h.below.size _⟩;go_enter Tryz.func170, Tryz.ntmps170
  go_upto_region 1 with fail
  generalize World.alloc _ _ = wa at *;obtain ⟨x0, x1, x2, x3, x4, x5, x6, x7, x8, x9⟩ := sub_cells HA.out.box;have HR2 := HR.out wa HA.out;clear HR HA
  go_upto_region 2 with fail
  have HR3 : Hid ((wa.alloc (.cells (riceC q.R pa pc ea ec) 65)).heap[wa.heap.size]? = some (.cells (riceC q.R pa pc ea ec) 65 (0, 0)) /\ Lo w (wa.alloc (.cells (riceC q.R pa pc ea ec) 65))) := HR2;clear HR2 x0 x1 x2 x3 x4 x5 x6 x7 x8 x9;generalize World.alloc _ _ = wb at *;generalize wa.heap.size = g at *;obtain ⟨y0, y1, y2, y3⟩ := rice_cells HR3.out.1
  go_wp2_with fail
  go_ret;exact ⟨rfl, HR3.out.2⟩
abbrev ordOk (k o b : Int) : Prop := (k = 2 -> 0 <= o /\ o <= 4 /\ o <= b) /\ (¬ k = 2 -> 1 <= o /\ o <= 32 /\ o <= b)
theorem s_order (q : Sb) (ca : OA) (cc : Nat) (pa : OA) (pc : Nat) (ea : OA) (ec : Nat) (b : Int) (bb : Bool) (hbb : bb = true ↔ ordOk q.k q.o b) (w : World) : Calls Tryz.prog 171 #[subV q ca cc pa pc ea ec, .int .i64 b] w fun e w' => e = .returned (.bool bb) /\ Lo w w' := by
 by_cases k2 : q.k = 2
 focus
  skip
  by_cases g0 : q.o < 0
  focus
   rw [bb_no hbb (by omega)]
   clear hbb;have hbk : (q.k == 2) = true := eQt (by omega)
  rotate_left
  focus
   skip
   by_cases g1 : ¬ (q.o <= 4 /\ q.o <= b)
   focus
    rw [bb_no hbb (by omega)]
    clear hbb;have hbk : (q.k == 2) = true := eQt (by omega)
    by_cases hbh : b < 4
    focus
     have hm : decide (q.o <= b) = false := decide_eq_false (by omega)
    rotate_left
    focus
     have hm : decide (q.o <= 4) = false := decide_eq_false (by omega)
    rotate_left
   rotate_left 2
   focus
    skip
    rw [bb_yes hbb (by omega)]
    clear hbb;have hbk : (q.k == 2) = true := eQt (by omega)
    by_cases hbh : b < 4
    focus
     have hm : decide (q.o <= b) = true := decide_eq_true (by omega)
    rotate_left
    focus
     have hm : decide (q.o <= 4) = true := decide_eq_true (by omega)
    rotate_left
   rotate_left 2
  rotate_left 4
 rotate_left 5
 focus
  skip
  by_cases g0 : q.o < 1
  focus
   rw [bb_no hbb (by omega)]
   clear hbb;have hbk : (q.k == 2) = false := eQf (by omega)
  rotate_left
  focus
   skip
   by_cases g1 : ¬ (q.o <= 32 /\ q.o <= b)
   focus
    rw [bb_no hbb (by omega)]
    clear hbb;have hbk : (q.k == 2) = false := eQf (by omega)
    by_cases hbh : b < 32
    focus
     have hm : decide (q.o <= b) = false := decide_eq_false (by omega)
    rotate_left
    focus
     have hm : decide (q.o <= 32) = false := decide_eq_false (by omega)
    rotate_left
   rotate_left 2
   focus
    skip
    rw [bb_yes hbb (by omega)]
    clear hbb;have hbk : (q.k == 2) = false := eQf (by omega)
    by_cases hbh : b < 32
    focus
     have hm : decide (q.o <= b) = true := decide_eq_true (by omega)
    rotate_left
    focus
     have hm : decide (q.o <= 32) = true := decide_eq_true (by omega)
    rotate_left
   rotate_left 2
  rotate_left 4
 rotate_left 5
 all_goals
  have HA : Hid (SX w q ca cc pa pc ea ec (w.alloc (.cells (subC q ca cc pa pc ea ec) 67))) := SX.new w q ca cc pa pc ea ec;go_enter Tryz.func171, Tryz.ntmps171
  go_upto_region 1 with fail
  generalize World.alloc _ _ = wa at *;obtain ⟨x0, x1, x2, x3, x4, x5, x6, x7, x8, x9⟩ := sub_cells HA.out.box
  go_wp2_with fail
  go_ret;exact ⟨rfl, HA.out.below⟩
theorem s_rice (q : Sb) (ca : OA) (cc : Nat) (pa : OA) (pc : Nat) (ea : OA) (ec : Nat) (b : Int) (bb : Bool) (hbb : bb = true ↔ chkOk q.R b q.o) (w : World) (hr : RcAt w q.R pa ea) : Calls Tryz.prog 172 #[subV q ca cc pa pc ea ec, .int .i64 b] w fun e w' => e = .returned (.bool bb) /\ Lo w w' := by
 have HK : Hid (∀ wx, Lo w wx -> G1 190 #[riceV q.R pa pc ea ec, .int .i64 b, .int .i64 q.o] wx (.int .i64 (chkN q.R b q.o))) := fun wx hb => check_spec q.R b q.o pa pc ea ec wx (hr.below hb)
 clear hr
 by_cases g0 : chkOk q.R b q.o
 focus
  rw [chk_yes g0] at HK;rw [bb_yes hbb (g0)]
 rotate_left
 focus
  rw [chk_no g0] at HK;rw [bb_no hbb (g0)]
 rotate_left
 all_goals
  clear hbb;clear g0;have HA : Hid (SX w q ca cc pa pc ea ec (w.alloc (.cells (subC q ca cc pa pc ea ec) 67))) := SX.new w q ca cc pa pc ea ec;go_enter Tryz.func172, Tryz.ntmps172
  go_upto_region 1 with fail
  generalize World.alloc _ _ = wa at *;obtain ⟨x0, x1, x2, x3, x4, x5, x6, x7, x8, x9⟩ := sub_cells HA.out.box
  go_wp2_with fail
  refine (HK.out _ HA.out.below).mono ?_;rintro e wx_HA0 ⟨rfl, hb⟩;have HA0 := kQ (HA.out.next hb);clear hb HA x0 x1 x2 x3 x4 x5 x6 x7 x8 x9;obtain ⟨x0, x1, x2, x3, x4, x5, x6, x7, x8, x9⟩ := sub_cells HA0.out.box
  go_wp2_with fail
  go_ret;exact ⟨rfl, HA0.out.below⟩
abbrev coefOk (q : Sb) : Prop := (1 <= q.p /\ q.p <= 15) /\ (0 <= q.h /\ q.h <= 15) /\ (q.C.length : Int) = q.o /\ ∀ x ∈ q.C, sigE x q.p = 0
theorem s_coefs (q : Sb) (ca : OA) (cc : Nat) (pa : OA) (pc : Nat) (ea : OA) (ec : Nat) (bb : Bool) (hbb : bb = true ↔ coefOk q) (w : World) (hC : IntsAt w ca q.C) : Calls Tryz.prog 173 #[subV q ca cc pa pc ea ec] w fun e w' => e = .returned (.bool bb) /\ Lo w w' := by
 have hcl := hC.len
 by_cases g0 : q.p < 1
 focus
  rw [bb_no hbb (fun h => by have := h.1; omega)]
  clear hbb
 rotate_left
 focus
  skip
  by_cases g1 : 15 < q.p
  focus
   rw [bb_no hbb (fun h => by have := h.1; omega)]
   clear hbb
  rotate_left
  focus
   skip
   by_cases g2 : q.h < 0
   focus
    rw [bb_no hbb (fun h => by have := h.2.1; omega)]
    clear hbb
   rotate_left
   focus
    skip
    by_cases g3 : 15 < q.h
    focus
     rw [bb_no hbb (fun h => by have := h.2.1; omega)]
     clear hbb
    rotate_left
    focus
     skip
     by_cases g4 : ¬ (q.C.length : Int) = q.o
     focus
      rw [bb_no hbb (fun h => g4 h.2.2.1)];clear hbb;have hbc : ((q.C.length : Int) == q.o) = false := by rw [beq_eq_false_iff_ne]; exact g4
     rotate_left
     focus
      skip
      have hbc : ((q.C.length : Int) == q.o) = true := eQt (by omega)
      by_cases g5 : ∀ x ∈ q.C, sigE x q.p = 0
      focus
       rw [bb_yes hbb (⟨by omega, by omega, by omega, g5⟩)]
       clear hbb
       have HK : Hid (∀ wx, Lo w wx -> G1 142 #[.slice ca q.C.length cc, .int .i64 q.p] wx (.bool true)) := fun wx hb => by
        rw [show q.p = ((q.p.toNat - 1 : Nat) : Int) + 1 by omega]
        refine (s_within q.C ca cc (q.p.toNat - 1) (by omega) true (tt_iff ?_) wx (hC.below hb)).mono fun e w' h => ⟨h.1, by rw [h.2]; exact Below.refl _ _⟩
        rw [show ((q.p.toNat - 1 : Nat) : Int) + 1 = q.p by omega]; exact g5
       have hcl := hC.len;clear hC;clear g5
      rotate_left
      focus
       rw [bb_no hbb (fun h => g5 h.2.2.2)];clear hbb
       have HK : Hid (∀ wx, Lo w wx -> G1 142 #[.slice ca q.C.length cc, .int .i64 q.p] wx (.bool false)) := fun wx hb => by
        rw [show q.p = ((q.p.toNat - 1 : Nat) : Int) + 1 by omega]
        refine (s_within q.C ca cc (q.p.toNat - 1) (by omega) false (ff_iff ?_) wx (hC.below hb)).mono fun e w' h => ⟨h.1, by rw [h.2]; exact Below.refl _ _⟩
        rw [show ((q.p.toNat - 1 : Nat) : Int) + 1 = q.p by omega]; exact g5
       have hcl := hC.len;clear hC;clear g5
      rotate_left
     rotate_left 2
    rotate_left 3
   rotate_left 4
  rotate_left 5
 rotate_left 6
 all_goals
  have HA : Hid (SX w q ca cc pa pc ea ec (w.alloc (.cells (subC q ca cc pa pc ea ec) 67))) := SX.new w q ca cc pa pc ea ec;go_enter Tryz.func173, Tryz.ntmps173
  go_upto_region 1 with fail
  generalize World.alloc _ _ = wa at *;obtain ⟨x0, x1, x2, x3, x4, x5, x6, x7, x8, x9⟩ := sub_cells HA.out.box
  go_wp2_with fail
 ·go_ret
  exact ⟨rfl, HA.out.below⟩
 ·go_ret
  exact ⟨rfl, HA.out.below⟩
 ·go_ret
  exact ⟨rfl, HA.out.below⟩
 ·go_ret
  exact ⟨rfl, HA.out.below⟩
 ·go_ret
  exact ⟨rfl, HA.out.below⟩
 rotate_left 2
 all_goals
  refine (HK.out _ HA.out.below).mono ?_;rintro e wx_HA0 ⟨rfl, hb⟩;have HA0 := kQ (HA.out.next hb);clear hb HA x0 x1 x2 x3 x4 x5 x6 x7 x8 x9;obtain ⟨x0, x1, x2, x3, x4, x5, x6, x7, x8, x9⟩ := sub_cells HA0.out.box
  go_wp2_with fail
  go_ret;exact ⟨rfl, HA0.out.below⟩
end Go.Proofs.YtfpfabmbipmipaaGreatDoor
