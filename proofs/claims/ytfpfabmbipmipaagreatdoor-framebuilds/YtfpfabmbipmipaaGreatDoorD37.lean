/- Own text. -/
import Derived.Test.YtfpfabmbipmipaaGreatDoorD35
import Derived.Test.YtfpfabmbipmipaaGreatDoorD36
set_option linter.unusedSimpArgs false
set_option linter.unusedVariables false
set_option maxRecDepth 20000
set_option maxHeartbeats 12800000
namespace Go.Proofs.YtfpfabmbipmipaaGreatDoor
open Go.RowKit
theorem hedC_room (f : Fm) (i : Inf) : 8 * (hedC f i).length <= 1000 := by
 unfold hedC hedL
 have h0 := (clen_range f.num.toNat).2
 have h1 := sizL_len f
 have h2 := ratL_len f i
 have h3 : (fourL f i).length = 4 := rfl
 simp only [List.length_append, codeL_length, List.length_cons, List.length_nil]
 omega
theorem subsB_ok (f : Fm) (i : Inf) (P : List (List Int)) (h : okF f i P) : Bits01 (subsB f i P f.S.length) /\ (subsB f i P f.S.length).length <= 800000000000 := by
 have hall := chn_all f i P h.1 h.2.1
 rw [subsB_ch]
 refine ⟨chB_01 _ _ _ _ _, ?_⟩
 have h1 := chB_room i f.mo f.S (chnL f.mo P) f.S.length (by omega) (fun j hj => ⟨hall.2.2.2.2 h j (by omega), hall.2.2.1 j (by omega)⟩)
 have h2 : 90000000000 * f.S.length <= 90000000000 * 8 := Nat.mul_le_mul_left _ (by omega)
 omega
theorem bd_no (f : Fm) (so : OA) (sk : Nat) (a b c d : Int) (i : Inf) (e : Int) (s : ByteArray) (hr : I64 i.rate) (P : List (List Int)) (po : OA) (pk : Nat) (w : World) (hL : Lay w) (hf : FmAt w f so sk) (hP : RowsAt w po P) (h : okC f i) (h2 : (P.length : Int) = i.ch) (h3 : ∀ l ∈ P, (l.length : Int) = f.size) (h4 : ∀ l ∈ P, ∀ x ∈ l, sigE x i.wd = 0) (h5 : ¬ okF f i P) : Calls Tryz.prog 8 #[fmV f so sk, infV a b c d i e s, .slice po P.length pk] w fun en w' => en = .returned (.tuple #[.string ⟨#[]⟩, .int .i64 60]) /\ Lo w w' := by
 have hpl := hP.len
 have hwd := h.1.1.2.1
 have hp4 := hL.size4
 have K1 : Hid (∀ wx, Hid (FX w f so sk a b c d i e s wx) -> Calls Tryz.prog 10 #[fmV f so sk, infV a b c d i e s] wx fun en w' => en = .returned (.int .i64 0) /\ Hid (FX w f so sk a b c d i e s w')) := fun wx hx => (f_check f so sk a b c d i e s hr 0 (fun _ => rfl) (fun hq => absurd (h) hq) wx (hf.below hx.out.below) (hL.below hx.out.below)).mono fun en w' hh => ⟨hh.1, hx.out.next hh.2⟩
 have K2 : Hid (∀ wx, Hid (FX w f so sk a b c d i e s wx) -> Calls Tryz.prog 17 #[.slice po P.length pk, .int .i64 f.size] wx fun en w' => en = .returned (.bool true) /\ Hid (FX w f so sk a b c d i e s w')) := fun wx hx => ((f_long P po pk f.size true (tt_iff (h3)) wx (hP.below hx.out.below))).mono fun en w' hh => ⟨hh.1, by rw [hh.2]; exact hx⟩
 have K3 : Hid (∀ wx, Hid (FX w f so sk a b c d i e s wx) -> Calls Tryz.prog 18 #[.slice po P.length pk, .int .i64 i.wd] wx fun en w' => en = .returned (.bool true) /\ Hid (FX w f so sk a b c d i e s w')) := fun wx hx => ((f_withinW P po pk i.wd hwd true (tt_iff (h4)) wx (hP.below hx.out.below))).mono fun en w' hh => ⟨hh.1, by rw [hh.2]; exact hx⟩
 have hne : ((P.length : Int) != i.ch) = false := by rw [bne_eq_false_iff_eq]; exact h2
 have hall := chn_all f i P h ⟨h2, fun l hl => ⟨h3 l hl, h4 l hl⟩⟩
 have KH : Hid (∀ p wx, w.heap.size + 2 <= p -> BX w f so sk a b c d i e s p none [] wx -> Calls Tryz.prog 20 #[.pointer (some ⟨p, 0, none⟩), fmV f so sk, infV a b c d i e s] wx fun en w' => en = .returned (.tuple #[]) /\ ∃ ao', BX w f so sk a b c d i e s p ao' (sbits (hedC f i)) w') := fun p wx hp hx => (f_whead f so sk a b c d i e s h.1 p (by omega) wx hx.wr (hL.below hx.below)).mono fun en w' q => by
  obtain ⟨q1, ao', q2, q3, q4⟩ := q;exact ⟨q1, ao', hx.put q2 q3 q4⟩
 have KCOD : Hid (∀ p ao B wx, BX w f so sk a b c d i e s p ao B wx -> Calls Tryz.prog 22 #[.int .i64 f.mo, .slice po P.length pk] wx fun en w' => ∃ ro rk, en = .returned (.slice ro (chnL f.mo P).length rk) /\ RowsP (foot p ao) w' ro (chnL f.mo P) /\ Lo wx w') := fun p ao B wx hx => by
  by_cases g0 : f.mo = 0
  ·have e : chnL f.mo P = P := by unfold chnL; rw [if_pos g0]
   rw [e, g0];exact (f_coded_0 P po pk wx).mono fun en w' q => ⟨po, pk, q.1, by rw [q.2]; exact hP.old hx.below (foot p ao) (fun k hk => by have := hx.foot k hk; omega), by rw [q.2]; exact Below.refl _ _⟩
  ·have hmo := h.1.2.2.2.1
   have hch2 : i.ch = 2 := by rcases hmo.2.2 with g | g; exact absurd g g0; exact g
   have hP2 : P.length = 2 := by omega
   have e0 := h3 _ (getD_mem' P 0 (by omega))
   have e1 := h3 _ (getD_mem' P 1 (by omega))
   have hsz := h.1.2.1;have hl2 : (chnL f.mo P).length = 2 := by unfold chnL; rw [if_neg g0]; rfl
   rw [hl2];exact f_coded_2 f.mo (by omega) P hP2 (by omega) (by omega) i.wd (by omega) h4 po pk wx (hP.below hx.below) (foot p ao) (fun k hk => hx.lt k hk)
 have KWS : Hid (∀ p ao wx ro rk, BX w f so sk a b c d i e s p ao (sbits (hedC f i)) wx -> RowsP (foot p ao) wx ro (chnL f.mo P) -> Calls Tryz.prog 21 #[.pointer (some ⟨p, 0, none⟩), fmV f so sk, infV a b c d i e s, .slice ro (chnL f.mo P).length rk] wx fun en w' => en = .returned (.int .i64 60) /\ ∃ ao' : OA, (Lo w w' /\ w'.heap[w.heap.size]? = some (.cells (fmC f so sk) 24 (0, 0)) /\ w'.heap[w.heap.size + 1]? = some (.cells (infC a b c d i e s) 26 (0, 0))) /\ ao' = ao) := fun p ao wx ro rk hx hrw => (f_wsubs f so sk a b c d i e s hwd (chnL f.mo P) hall.1 hall.2.1 hall.2.2.1 w hf.S p ao (sbits (hedC f i)) (fun k hk => by have := hx.foot k hk; omega) (sbits_01 _) (by rw [sbits_length]; exact Nat.le_trans (hedC_room f i) (by decide)) ro rk wx hx.below hx.wr hrw 60 (fun hh => absurd (hall.2.2.2.1 hh) h5) (fun _ => rfl)).mono fun en w' q => by
  obtain ⟨q1, q2, ao', q3, q4⟩ := q;exact ⟨q1, ao, ⟨hx.below.trans (q2.below hx.below.size (fun k hk hf => by have := hx.foot _ hf; omega)), by rw [q2.block _ (lt_of_block hx.fb) (fun hf => by have := hx.foot _ hf; omega)]; exact hx.fb, by rw [q2.block _ (lt_of_block hx.ib) (fun hf => by have := hx.foot _ hf; omega)]; exact hx.ib⟩, rfl⟩
 clear h h2 h3 h4 h5 hall hwd
 have HL := kQ hL
 clear hL hf hP
 generalize chnL f.mo P = L at *
 generalize sbits (hedC f i) = HH at *
 have HA : Hid (FX w f so sk a b c d i e s ((w.alloc (.cells (fmC f so sk) 24)).alloc (.cells (infC a b c d i e s) 26))) := FX.new w f so sk a b c d i e s
 go_enter Tryz.func8, Tryz.ntmps8
 go_upto_region 1 with fail
 generalize World.alloc _ _ = wa at *
 obtain ⟨f0, f1, f2, f3, f4, f5, f6, f7, i0, i1, i2, i3, i4, i5, i6, i7, i8⟩ := HA.out.cells
 go_wp2_with fail
 refine (K1.out _ HA).mono ?_
 rintro en w1 ⟨rfl, HB1⟩
 clear HA f0 f1 f2 f3 f4 f5 f6 f7 i0 i1 i2 i3 i4 i5 i6 i7 i8
 obtain ⟨f0, f1, f2, f3, f4, f5, f6, f7, i0, i1, i2, i3, i4, i5, i6, i7, i8⟩ := HB1.out.cells
 go_wp2_with fail
 refine (K2.out _ HB1).mono ?_
 rintro en w2 ⟨rfl, HB2⟩
 clear HB1 f0 f1 f2 f3 f4 f5 f6 f7 i0 i1 i2 i3 i4 i5 i6 i7 i8
 obtain ⟨f0, f1, f2, f3, f4, f5, f6, f7, i0, i1, i2, i3, i4, i5, i6, i7, i8⟩ := HB2.out.cells
 go_wp2_with fail
 refine (K3.out _ HB2).mono ?_
 rintro en w3 ⟨rfl, HB3⟩
 clear HB2 f0 f1 f2 f3 f4 f5 f6 f7 i0 i1 i2 i3 i4 i5 i6 i7 i8
 obtain ⟨f0, f1, f2, f3, f4, f5, f6, f7, i0, i1, i2, i3, i4, i5, i6, i7, i8⟩ := HB3.out.cells
 go_wp2_with fail
 have kn := new_spec w3
 refine kn.mono ?_
 rintro en w4 ⟨rfl, hw4, hq4⟩
 have HX4 : Hid (BX w f so sk a b c d i e s w3.heap.size none [] w4) := by
  have hb : Lo w3 w4 := by rw [hq4]; exact aQ
  have g := HB3.out.next hb;exact ⟨g.fb, g.ib, g.below, hw4, by have := lt_of_block HB3.out.ib; omega, fun k hk => by cases hk⟩
 have hp2 : w.heap.size + 2 <= w3.heap.size := by have := lt_of_block HB3.out.ib; omega
 clear kn hw4 hq4 HB3
 clear f0 f1 f2 f3 f4 f5 f6 f7 i0 i1 i2 i3 i4 i5 i6 i7 i8
 generalize w3.heap.size = p at *
 obtain ⟨f0, f1, f2, f3, f4, f5, f6, f7, i0, i1, i2, i3, i4, i5, i6, i7, i8⟩ := HX4.out.cells
 go_wp2_with fail
 refine (KH.out p _ hp2 HX4.out).mono ?_
 rintro en w5 ⟨rfl, ao5, hx5⟩
 have HX5 := kQ hx5
 have HD : Hid (BX w f so sk a b c d i e s p ao5 HH w5.drew) := hx5.low dQ
 clear hx5 KH HX4
 clear f0 f1 f2 f3 f4 f5 f6 f7 i0 i1 i2 i3 i4 i5 i6 i7 i8
 go_wp2_with fail
 refine wp_region_held_drew (S := fun wx => wx.heap[w.heap.size]? = some (.cells (fmC f so sk) 24 (0, 0)) /\ wx.heap[w.heap.size + 1]? = some (.cells (infC a b c d i e s) 26 (0, 0))) (by kernel_rfl) ⟨HD.out.fb, HD.out.ib⟩ (fun hS => ?_)
 refine vQ 0 (.pointer (some ⟨p, 0, none⟩)) hS ?_
 simp only [SL]
 refine uQ 1 (fmV f so sk) rfl hS (Or.inl ⟨by rfl, fun w hSw => by obtain ⟨f0, f1, f2, f3, f4, f5, f6, f7⟩ := fm_cells hSw.1; obtain ⟨i0, i1, i2, i3, i4, i5, i6, i7, i8⟩ := inf_cells hSw.2; go_simp⟩) ?_
 simp only [SL]
 refine uQ 2 (infV a b c d i e s) rfl hS (Or.inl ⟨by rfl, fun w hSw => by obtain ⟨f0, f1, f2, f3, f4, f5, f6, f7⟩ := fm_cells hSw.1; obtain ⟨i0, i1, i2, i3, i4, i5, i6, i7, i8⟩ := inf_cells hSw.2; go_simp⟩) ?_
 simp only [SL]
 refine vQ 3 (.pointer (some ⟨w.heap.size, 6, none⟩)) hS ?_
 simp only [SL]
 refine uQ 4 (.int .i64 f.mo) rfl hS (Or.inl ⟨by rfl, fun w hSw => by obtain ⟨f0, f1, f2, f3, f4, f5, f6, f7⟩ := fm_cells hSw.1; obtain ⟨i0, i1, i2, i3, i4, i5, i6, i7, i8⟩ := inf_cells hSw.2; go_simp⟩) ?_
 simp only [SL]
 refine vQ 5 (.slice po P.length pk) hS ?_
 simp only [SL]
 refine wpAnyH_ready (rs := [6]) (by kernel_rfl) (by simp) ?_
 refine AllReadyH.cons rfl (fun K hK => ?_) AllReadyH.nil
 go_simp
 refine (KCOD.out p ao5 HH _ HD.out).mono ?_
 rintro en w6 ⟨ro, rk, rfl, hr6, hb6⟩
 have HX6 := kQ (HD.out.low hb6)
 have HR6 := kQ hr6
 clear hr6 hb6 KCOD
 refine hK.out _ _ ⟨HX6.out.fb, HX6.out.ib⟩ (fun hS6 => ?_)
 clear hK K
 try simp only [SL]
 refine wpAnyH_ready (rs := [7]) (by kernel_rfl) (by simp) ?_
 refine AllReadyH.cons rfl (fun K hK => ?_) AllReadyH.nil
 go_simp
 refine (KWS.out p ao5 _ ro rk HX6.out HR6.out).mono ?_
 rintro en w7 ⟨rfl, ao7, hx7, hao7⟩
 have HX7 := kQ hx7.1
 have hs77 := hx7.2
 clear hx7 hao7 KWS HR6 HX6 HX5 HD
 refine hK.out _ _ hs77 (fun hS7 => ?_)
 clear hK K
 try simp only [SL]
 refine vQ 8 (.int .i64 60) hS7 ?_
 simp only [SL]
 refine wpAnyH_done (by kernel_rfl) ?_ _
 go_wp2_with fail
 go_ret2
 exact ⟨rfl, HX7.out⟩
end Go.Proofs.YtfpfabmbipmipaaGreatDoor
namespace Go.Proofs.YtfpfabmbipmipaaGreatDoor
open Go.RowKit
namespace S2
def highL (n k : Nat) : List Nat := (List.range k).map fun j => n / 256 ^ (k - 1 - j) % 256
def fitsB (n width : Int) : Bool := decide (1 <= width /\ width <= 8 /\ 0 <= n /\ n < 256 ^ width.toNat)
theorem fits_nat {n width : Int} (h : fitsB n width = true) : ∃ m k : Nat, n = m /\ width = k /\ 1 <= k /\ k <= 8 /\ m < 256 ^ k := by
 unfold fitsB at h
 have h := of_decide_eq_true h
 refine ⟨n.toNat, width.toNat, by omega, by omega, by omega, by omega, ?_⟩
 have h3 := h.2.2.2
 have h4 : ((n.toNat : Nat) : Int) < ((256 ^ width.toNat : Nat) : Int) := by
  rw [Int.toNat_of_nonneg h.2.2.1]
  simpa using h3
 omega
theorem fits_of_nat (m k : Nat) (h1 : 1 <= k) (h8 : k <= 8) (h : m < 256 ^ k) : fitsB (m : Int) (k : Int) = true := by
 unfold fitsB
 refine decide_eq_true ⟨by omega, by omega, by omega, ?_⟩
 have h4 : ((m : Nat) : Int) < ((256 ^ k : Nat) : Int) := by omega
 simpa using h4
def beT (n width : Int) : ByteArray := if fitsB n width then textOf (highL n.toNat width.toNat) else ⟨#[]⟩
def wE (n width : Int) : Int := if fitsB n width then 0 else 11
theorem beT_nat (m k : Nat) (h : fitsB m k = true) : beT m k = textOf (highL m k) := by unfold beT; rw [if_pos h]; simp
theorem wE_yes (n k : Int) (h : fitsB n k = true) : wE n k = 0 := by unfold wE; rw [if_pos h]
theorem beT_no (n k : Int) (h : fitsB n k = false) : beT n k = ⟨#[]⟩ := by unfold beT; rw [h]; rfl
theorem wE_no (n k : Int) (h : fitsB n k = false) : wE n k = 11 := by unfold wE; rw [h]; rfl
theorem shr_zero (m k : Nat) : (((m : Int) / 2 ^ (8 * k)) == 0) = decide (m < 256 ^ k) := by
 have e : ((2 : Int) ^ (8 * k)) = ((256 ^ k : Nat) : Int) := by rw [<- pow8]; simp
 rw [e, Bool.eq_iff_iff]
 have h0 : 0 < 256 ^ k := Nat.pow_pos (by decide)
 simp only [beq_iff_eq, decide_eq_true_eq]
 have : ((m : Int) / ((256 ^ k : Nat) : Int)) = ((m / 256 ^ k : Nat) : Int) := by simp
 rw [this]
 have h1 : m / 256 ^ k = 0 ↔ m < 256 ^ k := Nat.div_eq_zero_iff_lt h0
 omega
theorem fits_eq (m k : Nat) (h1 : 1 <= k) (h8 : k <= 8) : fitsB (m : Int) (k : Int) = decide (m < 256 ^ k) := by
 by_cases h : m < 256 ^ k
 ·rw [fits_of_nat m k h1 h8 h]; simp [h]
 ·have : fitsB (m : Int) (k : Int) = false := by
   rw [Bool.eq_false_iff];intro hf;obtain ⟨m', k', e1, e2, _, _, h'⟩ := fits_nat hf;obtain rfl : m = m' := by omega
   obtain rfl : k = k' := by omega
   exact h h'
  rw [this]; simp [h]
theorem fits_low (n k : Int) (h : k < 1) : fitsB n k = false := by unfold fitsB; exact decide_eq_false (by omega)
theorem fits_wide (n k : Int) (h : 8 < k) : fitsB n k = false := by unfold fitsB; exact decide_eq_false (by omega)
theorem fits_neg (n k : Int) (h : n < 0) : fitsB n k = false := by unfold fitsB; exact decide_eq_false (by omega)
theorem reffits_spec (n k : Int) (h1 : -9223372036854775808 <= n) (h2 : n <= 9223372036854775807) (w : World) :
  Calls Tryz.prog 80 #[.int .i64 n, .int .i64 k] w fun e w' => e = .returned (.bool (fitsB n k)) /\ w' = w := by
 by_cases a : k < 1
 focus
  rw [fits_low n k a]
 rotate_left
 focus
  by_cases b : 8 < k
  focus
   rw [fits_wide n k b]
  rotate_left
  focus
   by_cases c : n < 0
   focus
    rw [fits_neg n k c]
   rotate_left
   focus
    obtain ⟨j, rfl⟩ : ∃ j : Nat, k = (j : Int) := ⟨k.toNat, by omega⟩
    obtain ⟨m, rfl⟩ : ∃ m : Nat, n = (m : Int) := ⟨n.toNat, by omega⟩
    rw [fits_eq m j (by omega) (by omega)]
    by_cases h8 : j = 8
    focus
     subst h8;have hd : decide (m < 256 ^ 8) = true := decide_eq_true (by omega)
     rw [hd];clear hd
    rotate_left
    focus
     have hz := shr_zero m j;have hne : ((j : Int) == 8) = false := by simp; omega
    rotate_left
   rotate_left 2
  rotate_left 3
 rotate_left 4
 all_goals
  go_enter Tryz.func80, Tryz.ntmps80
  go_wp2
  go_ret;exact ⟨rfl, rfl⟩
theorem i64_and255 (n : Int) : bits BinOp.and IntKind.i64 n 255 = n % 256 := by
 show IntKind.i64.wrap ((BitVec.ofInt 64 n &&& BitVec.ofInt 64 255).toNat : Int) = _
 rw [BitVec.toNat_and, BitVec.toNat_ofInt, show (BitVec.ofInt 64 255).toNat = 2 ^ 8 - 1 from rfl, Nat.and_two_pow_sub_one_eq_mod, IntKind.wrap_i64]
 omega
theorem refbe_spec (n k : Int) (h1 : -9223372036854775808 <= n) (h2 : n <= 9223372036854775807) (w : World) :
  Calls Tryz.prog 33 #[.int .i64 n, .int .i64 k] w fun e w' => e = .returned (.tuple #[.string (beT n k), .int .i64 (wE n k)]) /\ Lo w w' := by
 by_cases hf : fitsB n k = true
 focus
  obtain ⟨m, j, rfl, rfl, h1, h8, hm⟩ := fits_nat hf;rw [beT_nat m j hf, wE_yes _ _ hf];have hmk := made_run j (by omega)
  have hrow := World.rowIs_made w (.int .u8 0) j 5;have hbel : Lo w (w.alloc (.cells (madeCells #[.int .u8 0] j) 5)) := aQ
 rotate_left
 focus
  have hf' : fitsB n k = false := by simpa using hf
  clear hf;rw [beT_no n k hf', wE_no _ _ hf']
 rotate_left
 all_goals
  go_enter Tryz.func33, Tryz.ntmps33
  go_wp2_with fail
  refine (reffits_spec _ _ (by omega) (by omega) _).mono ?_
  rintro e w' ⟨rfl, rfl⟩
  go_wp2
 ·clear hf
  go_loopw [0, 7] (fun x y wr => ∃ (t q : Nat), t <= j /\ q = m / 256 ^ t /\ x = .int .i64 (q : Int) /\ y = .int .i64 ((j : Int) - 1 - t) /\ wr.rowIs w'.heap.size 5 j (fun i => .int .u8 ((if j - 1 - i < t then m / 256 ^ (j - 1 - i) % 256 else 0 : Nat) : Int)) /\ Below w'.heap.size w' wr) (fun _ y _ => (intOf y + 1).toNat)
  case atStart => exact ⟨0, m, Nat.zero_le _, by simp, by simp, by simp, hrow.congr (fun i _ => by simp), hbel⟩
  case round =>
   obtain ⟨t, q, ht, hq, rfl, rfl, hr, hb⟩ := hrel;have hle : q <= m := by rw [hq]; exact Nat.div_le_self _ _
   have HD := kQ hq;clear hq;by_cases hlt : t < j
   ·have hc := hr.cell (i := j - 1 - t) (by omega)
    have hf := hr.frozen (j - 1 - t);have hand := i64_and255 (q : Int)
    go_wp2
    go_roundw
    case rel =>
     refine ⟨t + 1, q / 256, by omega, ?_, by go_num, by go_num, ?_, hb.setCell (by simp) _⟩
     ·rw [HD.out, Nat.pow_succ, <- Nat.div_div_eq_div_mul]
     ·refine (hr.set (j - 1 - t) _).congr (fun i hi => ?_)
      by_cases e : i = j - 1 - t
      ·subst e
       rw [if_pos rfl, show j - 1 - (j - 1 - t) = t from by omega, if_pos (by omega), <- HD.out]
       congr 1
      ·rw [if_neg e]
       congr 3;by_cases h : j - 1 - i < t
       ·simp [h, show j - 1 - i < t + 1 by omega]
       ·simp [h, show ¬ j - 1 - i < t + 1 by omega]
    case measure => simp [intOf]; omega
   ·obtain rfl : t = j := by omega
    have hr2 : wr.rowIs w'.heap.size 5 t (fun i => .int .u8 ((m / 256 ^ (t - 1 - i) % 256 : Nat) : Int)) := hr.congr (fun i hi => by rw [if_pos (by omega)])
    have hcv := conv_row (cap := t) hr2;clear hr
    go_wp2
    go_ret2
    exact ⟨rfl, hb⟩
 ·go_ret2
  exact ⟨rfl, Below.refl _ _⟩
theorem refcoded_small (n : Nat) (h : n < 128) (w : World) :
  Calls Tryz.prog 78 #[.int .i64 (n : Int)] w fun e w' => e = .returned (.tuple #[.string (codT n), .int .i64 (codE n)]) /\ Lo w w' := by
 rw [codT_nat n (by omega), codE_nat n (by omega)]
 have e1 : clen n = 1 := by unfold clen; rw [if_pos h]
 rw [e1]
 have hrow : (w.alloc (.cells #[.int .u8 (n : Int)] 5)).rowIs w.heap.size 5 1 (fun j => .int .u8 ((codeAt n 1 j : Nat) : Int)) := by
  refine World.rowIs_alloc w #[.int .u8 (n : Int)] 5 _ (fun i hi => ?_);obtain rfl : i = 0 := by simpa using hi
  simp [codeAt, hm]
 have hcv := conv_row (cap := 1) hrow
 clear hrow e1
 go_enter Tryz.func78, Tryz.ntmps78
 go_wp2
 go_ret2
 exact ⟨rfl, aQ⟩
theorem cl_test2 (n c : Nat) (h : n < 68719476736) (h1 : 128 <= n) (h2 : 2 <= c) (hc : c <= clen n) : decide (wrap64 (2 ^ (5 * c + 1)) <= (n : Int)) = decide (c < clen n) := by
 have h7 := (clen_range n).2
 have hp : 2 ^ (5 * c + 1) <= 2 ^ 36 := Nat.pow_le_pow_right (by decide) (by omega)
 have e : wrap64 (2 ^ (5 * c + 1)) = ((2 ^ (5 * c + 1) : Nat) : Int) := by
  have e1 : ((2 : Int) ^ (5 * c + 1)) = ((2 ^ (5 * c + 1) : Nat) : Int) := by simp
  rw [e1];generalize 2 ^ (5 * c + 1) = p at *;unfold wrap64;omega
 rw [e]
 have key : 2 ^ (5 * c + 1) <= n ↔ c < clen n := by
  unfold clen at *
  rcases seven c (by omega) (by omega) with rfl | rfl | rfl | rfl | rfl | rfl | rfl <;> (repeat' split) <;> simp <;> omega
 rw [Bool.eq_iff_iff]
 simp only [decide_eq_true_eq]
 omega
def hsum (i : Nat) : Nat := 256 - 2 ^ (8 - i)
theorem hsum_step : ∀ i : Fin 8, hsum i.val + 128 / 2 ^ i.val = hsum (i.val + 1) := by decide +kernel
theorem hsum_lt (i : Nat) : hsum i < 256 := by
 unfold hsum
 have := Nat.two_pow_pos (8 - i)
 omega
theorem hsum_walk (i : Nat) (h : i < 8) : wrap64 ((hsum i : Int) + 128 / 2 ^ i) = (hsum (i + 1) : Int) := by
 have hst := hsum_step ⟨i, h⟩
 simp only at hst
 have hl := hsum_lt (i + 1)
 have e : ((128 : Int) / 2 ^ i) = ((128 / 2 ^ i : Nat) : Int) := by simp
 rw [e]
 generalize 128 / 2 ^ i = x at *
 unfold wrap64
 omega
theorem hsum_hm (k : Nat) (h : 2 <= k) : hsum k = hm k := by unfold hsum hm; rw [if_neg (by omega)]
theorem refcoded_great (n : Nat) (h1 : 128 <= n) (h : n < 68719476736) (w : World) :
  Calls Tryz.prog 78 #[.int .i64 (n : Int)] w fun e w' => e = .returned (.tuple #[.string (codT n), .int .i64 (codE n)]) /\ Lo w w' := by
 rw [codT_nat n h, codE_nat n h]
 have hr := clen_range n
 have hbd := clen_bound n h
 have h2 : 2 <= clen n := by unfold clen; rw [if_neg (by omega)]; (repeat' split) <;> omega
 have ht := cl_test2 n
 generalize clen n = k at *
 have hmk := made_run k (by omega)
 have hrow := World.rowIs_made w (.int .u8 0) k 5
 have hbel : Lo w (w.alloc (.cells (madeCells #[.int .u8 0] k) 5)) := aQ
 have HB := kQ hbd
 clear hbd
 go_enter Tryz.func78, Tryz.ntmps78
 go_wp2
 go_loop [4] (fun t => ∃ (c : Nat), 2 <= c /\ c <= k /\ t = .int .i64 (c : Int)) (fun t => k - (intOf t).toNat)
 case atStart => exact ⟨2, by omega, by omega, rfl⟩
 case round =>
  obtain ⟨c, hc2, hcl, rfl⟩ := hrel;have hT := ht c h (by omega) hc2 hcl
  clear ht;by_cases hlt : c < k
  ·rw [decide_eq_true hlt] at hT
   go_wp2
   go_round
   case rel => exact ⟨c + 1, by omega, by omega, by go_num⟩
   case measure => simp [intOf]; omega
  ·rw [decide_eq_false hlt] at hT
   obtain rfl : c = k := by omega
   have HT : Hid _ := hT
   go_wp2
   clear hT
   go_loopw [0, 6] (fun x y wr => ∃ (t q : Nat), t + 1 <= c /\ q = n / 64 ^ t /\ x = .int .i64 (q : Int) /\ y = .int .i64 ((c : Int) - 1 - t) /\ wr.rowIs w.heap.size 5 c (fun i => .int .u8 ((if c - 1 - i < t then 128 + n / 64 ^ (c - 1 - i) % 64 else 0 : Nat) : Int)) /\ Lo w wr) (fun _ y _ => (intOf y + 1).toNat)
   case atStart => exact ⟨0, n, by omega, by simp, by simp, by simp, hrow.congr (fun i _ => by simp), hbel⟩
   case round =>
    obtain ⟨t, q, htc, hq, rfl, rfl, hr, hb⟩ := hrel;have hle : q <= n := by rw [hq]; exact Nat.div_le_self _ _
    have HD := kQ hq;clear hq;by_cases hlt : t + 1 < c
    ·have hc := hr.cell (i := c - 1 - t) (by omega)
     have hf := hr.frozen (c - 1 - t);have hand := i64_and63 (q : Int)
     go_wp2
     go_roundw
     case rel =>
      refine ⟨t + 1, q / 64, by omega, ?_, by go_num, by go_num, ?_, hb.setCell (by simp) _⟩
      ·rw [HD.out, Nat.pow_succ, <- Nat.div_div_eq_div_mul]
      ·refine (hr.set (c - 1 - t) _).congr (fun i hi => ?_)
       by_cases e : i = c - 1 - t
       ·subst e
        rw [if_pos rfl, show c - 1 - (c - 1 - t) = t from by omega, if_pos (by omega), <- HD.out]
        congr 1
       ·rw [if_neg e]
        congr 3;by_cases h : c - 1 - i < t
        ·simp [h, show c - 1 - i < t + 1 by omega]
        ·simp [h, show ¬ c - 1 - i < t + 1 by omega]
     case measure => simp [intOf]; omega
    ·obtain rfl : t = c - 1 := by omega
     have hq2 : q = n / 64 ^ (c - 1) := HD.out
     have hqt : q < 128 := by
      have ht := top_lt n c (by omega) (by omega) HB.out
      rw [hq2]
      rcases seven c (by omega) (by omega) with rfl | rfl | rfl | rfl | rfl | rfl | rfl <;> simp at ht ⊢ <;> omega
     clear hq2
     go_wp2
     go_loop [7, 8] (fun x y => ∃ (i : Nat), i <= c /\ x = .int .i64 ((hsum i : Nat) : Int) /\ y = .int .i64 (i : Int)) (fun _ y => c - (intOf y).toNat)
     case atStart => exact ⟨0, by omega, rfl, rfl⟩
     case round =>
      obtain ⟨i, hi, rfl, rfl⟩ := hrel;have hsl := hsum_lt i;by_cases hic : i < c
      ·have hst := hsum_walk i (by omega)
       go_wp2
       go_round
       case rel => exact ⟨i + 1, by omega, by rw [hst], by go_num⟩
       case measure => simp [intOf]; omega
      ·obtain rfl : i = c := by omega
       have hr2 : wr.rowIs w.heap.size 5 i (fun j => .int .u8 ((if i - 1 - j < i - 1 then 128 + n / 64 ^ (i - 1 - j) % 64 else 0 : Nat) : Int)) := hr
       have hc := hr2.cell (i := 0) (by omega)
       have hf := hr2.frozen 0
       have HH : Hid ((hsum i + q : Nat) = codeAt n i 0) := by
        show _ = _;unfold codeAt;rw [if_pos rfl, hsum_hm i (by omega), HD.out]
       have h0 := codeAt_lt n i 0 (by omega) (by omega) HB.out
       rw [<- HH.out] at h0
       have hr3 : (wr.setCell ⟨w.heap.size, 0, none⟩ (.int .u8 ((hsum i : Int) + (q : Int)))).rowIs w.heap.size 5 i (fun j => .int .u8 ((codeAt n i j : Nat) : Int)) := by
        refine (hr2.set 0 _).congr (fun j hj => ?_);by_cases e : j = 0
        ·subst e
         rw [if_pos rfl, <- HH.out];simp
        ·rw [if_neg e, if_pos (by omega)]
         unfold codeAt;rw [if_neg e]
       have hcv := conv_row (cap := i) hr3;clear hr hr2 hr3
       go_wp2
       go_ret2
       exact ⟨rfl, hb.setCell (by simp) _⟩
theorem refcoded_spec (n : Int) (h1 : -9223372036854775808 <= n) (h2 : n <= 9223372036854775807) (w : World) :
  Calls Tryz.prog 78 #[.int .i64 n] w fun e w' => e = .returned (.tuple #[.string (codT n), .int .i64 (codE n)]) /\ Lo w w' := by
 by_cases hb : codB n = true
 ·obtain ⟨m, rfl, hm⟩ := codB_nat hb
  by_cases h : m < 128
  ·exact refcoded_small m h w
  ·exact refcoded_great m (by omega) hm w
 ·have hf : codB n = false := by simpa using hb
  rw [codT_no n hf, codE_no n hf]
  have hn : n < 0 ∨ 68719476736 <= n := by
   by_cases a : n < 0
   ·exact .inl a
   ·by_cases b : 68719476736 <= n
    ·exact .inr b
    ·exact absurd (decide_eq_true (by omega)) hb
  clear hb hf
  rcases hn with hn | hn
  ·go_enter Tryz.func78, Tryz.ntmps78
   go_wp2
   go_ret2
   exact ⟨rfl, Below.refl _ _⟩
  ·go_enter Tryz.func78, Tryz.ntmps78
   go_wp2
   go_ret2
   exact ⟨rfl, Below.refl _ _⟩
end S2
end Go.Proofs.YtfpfabmbipmipaaGreatDoor
namespace Go.Proofs.YtfpfabmbipmipaaGreatDoor
open Go.RowKit
namespace S3
theorem and_pow (n i : Nat) : n &&& 2 ^ i = if n.testBit i then 2 ^ i else 0 := by
 apply Nat.eq_of_testBit_eq
 intro j
 rw [Nat.testBit_and, Nat.testBit_two_pow]
 by_cases h : i = j
 ·subst h
  cases n.testBit i <;> simp
 ·cases n.testBit i <;> simp [h]
theorem and_top (w : Nat) (T : Nat) (x : BitVec w) (hw : 0 < w) (h32 : w <= 32) (hT : T = 2 ^ (w - 1)) : bits .and .i64 (x.toNat : Int) (T : Int) = ((if x.msb then T else 0 : Nat) : Int) := by
 have hl : x.toNat < 2 ^ 32 := Nat.lt_of_lt_of_le x.isLt (Nat.pow_le_pow_right (by decide) h32)
 have hp : 2 ^ (w - 1) <= 2 ^ 31 := Nat.pow_le_pow_right (by decide) (by omega)
 rw [i64_and_nat _ _ (by omega) (by omega), hT, and_pow]
 have e : x.msb = x.toNat.testBit (w - 1) := by rw [BitVec.msb_eq_getLsbD_last]; rfl
 rw [e]
theorem shl_all (w A : Nat) (x : BitVec w) (h32 : w <= 32) (hA : A = 2 ^ w - 1) : bits .and .i64 ((x.toNat : Int) * 2) (A : Int) = ((x <<< 1).toNat : Int) := by
 have hl : x.toNat < 2 ^ 32 := Nat.lt_of_lt_of_le x.isLt (Nat.pow_le_pow_right (by decide) h32)
 have hp : 2 ^ w <= 2 ^ 32 := Nat.pow_le_pow_right (by decide) h32
 have e : (x.toNat : Int) * 2 = ((x.toNat * 2 : Nat) : Int) := by simp
 rw [e, i64_and_nat _ _ (by omega) (by omega), hA, Nat.and_two_pow_sub_one_eq_mod, BitVec.toNat_shiftLeft, Nat.shiftLeft_eq]
theorem bit_at (b k : Nat) (hb : b < 256) : bits .and .i64 (wrap64 ((b : Int) / 2 ^ k)) 1 = ((if b.testBit k then 1 else 0 : Nat) : Int) := by
 have e : (b : Int) / 2 ^ k = ((b / 2 ^ k : Nat) : Int) := by simp
 have hl : b / 2 ^ k <= b := Nat.div_le_self _ _
 have h := i64_and_nat (b / 2 ^ k) 1 (by omega) (by decide)
 rw [Nat.and_one_is_mod] at h
 rw [e]
 have e1 : ((1 : Nat) : Int) = 1 := rfl
 rw [e1] at h
 have e2 : wrap64 ((b / 2 ^ k : Nat) : Int) = ((b / 2 ^ k : Nat) : Int) := by
  generalize b / 2 ^ k = z at hl;unfold wrap64;omega
 rw [e2, h, Nat.testBit_eq_decide_div_mod_eq]
 rcases Nat.mod_two_eq_zero_or_one (b / 2 ^ k) with h | h <;> simp [h]
theorem bits8_snoc (b k : Nat) (hk : k < 8) : (bits8 b).take (8 - k) = (bits8 b).take (8 - (k + 1)) ++ [b.testBit k] := by
 unfold bits8
 rcases k with _ | _ | _ | _ | _ | _ | _ | _ | k
 ·rfl
 ·rfl
 ·rfl
 ·rfl
 ·rfl
 ·rfl
 ·rfl
 ·rfl
 ·omega
section
variable {w : Nat}
theorem bfold_bit (p n : BitVec w) (b k : Nat) (hk : k < 8) : bfold p n ((bits8 b).take (8 - k)) = bstep p (bfold p n ((bits8 b).take (8 - (k + 1)))) (b.testBit k) := by
 rw [bits8_snoc b k hk, bfold_append]
 rfl
theorem crcL_take (p n : BitVec w) (s : ByteArray) (i : Nat) (h : i < s.size) : crcL p n ((bytesOf s).take (i + 1)) = byteStep p (crcL p n ((bytesOf s).take i)) (s[i]'h).toNat := by
 rw [take_snoc s i h, crcL_append]
 rfl
end
theorem refSum_8 (s : ByteArray) (hs : s.size <= 200000000000000) (w : World) :
  Calls Tryz.prog 81 #[.string s, .int .i64 8, .int .i64 7] w fun e w' => e = .returned (.int .i64 (((crcL p8 0#8 (bytesOf s)).toNat : Nat) : Int)) /\ w' = w := by
 go_enter Tryz.func81, Tryz.ntmps81
 go_wp2
 go_loop [9, 10] (fun n t => ∃ (i : Nat) (r : BitVec 8), i <= s.size /\ r = crcL p8 0#8 ((bytesOf s).take i) /\ n = .int .i64 (r.toNat : Int) /\ t = .int .i64 (i : Int)) (fun _ t => s.size - (intOf t).toNat)
 case atStart => exact ⟨0, 0#8, Nat.zero_le _, rfl, rfl, rfl⟩
 case round =>
  obtain ⟨i, r0, hi, hr0, rfl, rfl⟩ := hrel;by_cases hlt : i < s.size
  ·have hx : (s[i]'hlt).toNat < 256 := UInt8.toNat_lt _
   have HR : Hid (byteStep p8 r0 (s[i]'hlt).toNat = crcL p8 0#8 ((bytesOf s).take (i + 1))) := by
    show _ = _;rw [crcL_take, <- hr0]
   clear hr0
   go_wp2
   go_loop [9, 11] (fun n t => ∃ (m : Nat) (r : BitVec 8), m <= 8 /\ r = bfold p8 r0 ((bits8 (s[i]'hlt).toNat).take (8 - m)) /\ n = .int .i64 (r.toNat : Int) /\ t = .int .i64 ((m : Int) - 1)) (fun _ t => (intOf t + 1).toNat)
   case atStart => exact ⟨8, r0, Nat.le_refl _, rfl, rfl, rfl⟩
   case round =>
    obtain ⟨m, r, hm, hr, rfl, rfl⟩ := hrel
    rcases m with _ | k
    ·have HR2 := kQ (hr.trans HR.out)
     clear hr
     go_wp2
     go_round
     case rel => exact ⟨i + 1, r, by omega, HR2.out, rfl, by go_num⟩
     case measure => simp [intOf]; omega
    focus
     have ek : ((k + 1 : Nat) : Int) - 1 = (k : Int) := by omega
     rw [ek];clear ek
     have HB : Hid (bstep p8 r ((s[i]'hlt).toNat.testBit k) = bfold p8 r0 ((bits8 (s[i]'hlt).toNat).take (8 - k))) := by
      show _ = _;rw [bfold_bit _ _ _ _ (by omega), <- hr]
     clear hr;have hbit := bit_at (s[i]'hlt).toNat k hx;have hmsb : bits .and .i64 (r.toNat : Int) 128 = ((if r.msb then 128 else 0 : Nat) : Int) := and_top 8 128 r (by decide) (by decide) (by decide)
     have hshl : bits .and .i64 ((r.toNat : Int) * 2) 255 = ((r <<< 1).toNat : Int) := shl_all 8 255 r (by decide) (by decide)
     have hrl : r.toNat < 256 := r.isLt;have hsl : (r <<< 1).toNat < 256 := (r <<< 1).isLt;have hxr : bits .xor .i64 ((r <<< 1).toNat : Int) 7 = (((r <<< 1).toNat ^^^ 7 : Nat) : Int) := i64_xor_nat (r <<< 1).toNat 7 (by omega) (by decide)
     have HY : Hid (∀ b : Bool, (bstep p8 r b).toNat = if r.msb != b then (r <<< 1).toNat ^^^ 7 else (r <<< 1).toNat) := by
      intro b;unfold bstep;rw [BitVec.toNat_xor];cases r.msb <;> cases b <;> simp [p8]
     generalize (s[i]'hlt).toNat.testBit k = bt at hbit HB;generalize (r <<< 1).toNat = sl at *;generalize r.msb = mb at *;have hm2 := hmsb;have hb2 := hbit;clear hmsb hbit
     rcases bt with _ | _ <;> rcases mb with _ | _
     focus
      have hbit : bits .and .i64 (wrap64 (((s[i]'hlt).toNat : Int) / 2 ^ k)) 1 = 0 := hb2;have hmsb : bits .and .i64 (r.toNat : Int) 128 = 0 := hm2
     rotate_left
     focus
      have hbit : bits .and .i64 (wrap64 (((s[i]'hlt).toNat : Int) / 2 ^ k)) 1 = 0 := hb2;have hmsb : bits .and .i64 (r.toNat : Int) 128 = 128 := hm2
     rotate_left
     focus
      have hbit : bits .and .i64 (wrap64 (((s[i]'hlt).toNat : Int) / 2 ^ k)) 1 = 1 := hb2;have hmsb : bits .and .i64 (r.toNat : Int) 128 = 0 := hm2
     rotate_left
     focus
      have hbit : bits .and .i64 (wrap64 (((s[i]'hlt).toNat : Int) / 2 ^ k)) 1 = 1 := hb2;have hmsb : bits .and .i64 (r.toNat : Int) 128 = 128 := hm2
     rotate_left
    rotate_left 4
    all_goals
     clear hb2 hm2
     go_wp2
     go_round
     case rel => exact ⟨k, _, by omega, HB.out, by rw [HY.out]; rfl, by go_num⟩
     case measure => simp [intOf]
  ·have HR : Hid (r0 = crcL p8 0#8 (bytesOf s)) := by
    show _ = _;rw [hr0, List.take_of_length_le (by rw [bytesOf_length]; omega)]
   clear hr0
   go_wp2
   go_ret;exact ⟨by rw [<- HR.out]; rfl, rfl⟩
theorem refSum_16 (s : ByteArray) (hs : s.size <= 200000000000000) (w : World) :
  Calls Tryz.prog 81 #[.string s, .int .i64 16, .int .i64 32773] w fun e w' => e = .returned (.int .i64 (((crcL p16 0#16 (bytesOf s)).toNat : Nat) : Int)) /\ w' = w := by
 go_enter Tryz.func81, Tryz.ntmps81
 go_wp2
 go_loop [9, 10] (fun n t => ∃ (i : Nat) (r : BitVec 16), i <= s.size /\ r = crcL p16 0#16 ((bytesOf s).take i) /\ n = .int .i64 (r.toNat : Int) /\ t = .int .i64 (i : Int)) (fun _ t => s.size - (intOf t).toNat)
 case atStart => exact ⟨0, 0#16, Nat.zero_le _, rfl, rfl, rfl⟩
 case round =>
  obtain ⟨i, r0, hi, hr0, rfl, rfl⟩ := hrel;by_cases hlt : i < s.size
  ·have hx : (s[i]'hlt).toNat < 256 := UInt8.toNat_lt _
   have HR : Hid (byteStep p16 r0 (s[i]'hlt).toNat = crcL p16 0#16 ((bytesOf s).take (i + 1))) := by
    show _ = _;rw [crcL_take, <- hr0]
   clear hr0
   go_wp2
   go_loop [9, 11] (fun n t => ∃ (m : Nat) (r : BitVec 16), m <= 8 /\ r = bfold p16 r0 ((bits8 (s[i]'hlt).toNat).take (8 - m)) /\ n = .int .i64 (r.toNat : Int) /\ t = .int .i64 ((m : Int) - 1)) (fun _ t => (intOf t + 1).toNat)
   case atStart => exact ⟨8, r0, Nat.le_refl _, rfl, rfl, rfl⟩
   case round =>
    obtain ⟨m, r, hm, hr, rfl, rfl⟩ := hrel
    rcases m with _ | k
    ·have HR2 := kQ (hr.trans HR.out)
     clear hr
     go_wp2
     go_round
     case rel => exact ⟨i + 1, r, by omega, HR2.out, rfl, by go_num⟩
     case measure => simp [intOf]; omega
    focus
     have ek : ((k + 1 : Nat) : Int) - 1 = (k : Int) := by omega
     rw [ek];clear ek
     have HB : Hid (bstep p16 r ((s[i]'hlt).toNat.testBit k) = bfold p16 r0 ((bits8 (s[i]'hlt).toNat).take (8 - k))) := by
      show _ = _;rw [bfold_bit _ _ _ _ (by omega), <- hr]
     clear hr;have hbit := bit_at (s[i]'hlt).toNat k hx;have hmsb : bits .and .i64 (r.toNat : Int) 32768 = ((if r.msb then 32768 else 0 : Nat) : Int) := and_top 16 32768 r (by decide) (by decide) (by decide)
     have hshl : bits .and .i64 ((r.toNat : Int) * 2) 65535 = ((r <<< 1).toNat : Int) := shl_all 16 65535 r (by decide) (by decide)
     have hrl : r.toNat < 65536 := r.isLt;have hsl : (r <<< 1).toNat < 65536 := (r <<< 1).isLt;have hxr : bits .xor .i64 ((r <<< 1).toNat : Int) 32773 = (((r <<< 1).toNat ^^^ 32773 : Nat) : Int) := i64_xor_nat (r <<< 1).toNat 32773 (by omega) (by decide)
     have HY : Hid (∀ b : Bool, (bstep p16 r b).toNat = if r.msb != b then (r <<< 1).toNat ^^^ 32773 else (r <<< 1).toNat) := by
      intro b;unfold bstep;rw [BitVec.toNat_xor];cases r.msb <;> cases b <;> simp [p16]
     generalize (s[i]'hlt).toNat.testBit k = bt at hbit HB;generalize (r <<< 1).toNat = sl at *;generalize r.msb = mb at *;have hm2 := hmsb;have hb2 := hbit;clear hmsb hbit
     rcases bt with _ | _ <;> rcases mb with _ | _
     focus
      have hbit : bits .and .i64 (wrap64 (((s[i]'hlt).toNat : Int) / 2 ^ k)) 1 = 0 := hb2;have hmsb : bits .and .i64 (r.toNat : Int) 32768 = 0 := hm2
     rotate_left
     focus
      have hbit : bits .and .i64 (wrap64 (((s[i]'hlt).toNat : Int) / 2 ^ k)) 1 = 0 := hb2;have hmsb : bits .and .i64 (r.toNat : Int) 32768 = 32768 := hm2
     rotate_left
     focus
      have hbit : bits .and .i64 (wrap64 (((s[i]'hlt).toNat : Int) / 2 ^ k)) 1 = 1 := hb2;have hmsb : bits .and .i64 (r.toNat : Int) 32768 = 0 := hm2
     rotate_left
     focus
      have hbit : bits .and .i64 (wrap64 (((s[i]'hlt).toNat : Int) / 2 ^ k)) 1 = 1 := hb2;have hmsb : bits .and .i64 (r.toNat : Int) 32768 = 32768 := hm2
     rotate_left
    rotate_left 4
    all_goals
     clear hb2 hm2
     go_wp2
     go_round
     case rel => exact ⟨k, _, by omega, HB.out, by rw [HY.out]; rfl, by go_num⟩
     case measure => simp [intOf]
  ·have HR : Hid (r0 = crcL p16 0#16 (bytesOf s)) := by
    show _ = _;rw [hr0, List.take_of_length_le (by rw [bytesOf_length]; omega)]
   clear hr0
   go_wp2
   go_ret;exact ⟨by rw [<- HR.out]; rfl, rfl⟩
theorem refCrc8_spec (s : ByteArray) (hs : s.size <= 200000000000000) (w : World) : Calls Tryz.prog 79 #[.string s] w fun e w' => e = .returned (.int .i64 (c8 s : Int)) /\ w' = w := by
 have HC : Hid (∀ w, G0 81 #[.string s, .int .i64 8, .int .i64 7] w (.int .i64 (c8 s : Int))) := fun w => refSum_8 s hs w
 generalize c8 s = v at HC ⊢
 go_enter Tryz.func79, Tryz.ntmps79
 go_wp2_with fail
 refine (HC.out w).mono ?_
 rintro e w1 ⟨rfl, rfl⟩
 go_wp2
 go_ret
 exact ⟨rfl, rfl⟩
theorem refCrc16_spec (s : ByteArray) (hs : s.size <= 200000000000000) (w : World) : Calls Tryz.prog 34 #[.string s] w fun e w' => e = .returned (.int .i64 (c16 s : Int)) /\ w' = w := by
 have HC : Hid (∀ w, G0 81 #[.string s, .int .i64 16, .int .i64 32773] w (.int .i64 (c16 s : Int))) := fun w => refSum_16 s hs w
 generalize c16 s = v at HC ⊢
 go_enter Tryz.func34, Tryz.ntmps34
 go_wp2_with fail
 refine (HC.out w).mono ?_
 rintro e w1 ⟨rfl, rfl⟩
 go_wp2
 go_ret
 exact ⟨rfl, rfl⟩
end S3
end Go.Proofs.YtfpfabmbipmipaaGreatDoor
