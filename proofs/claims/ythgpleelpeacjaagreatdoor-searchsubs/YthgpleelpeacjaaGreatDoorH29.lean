/- Own text. -/
import Derived.Test.YthgpleelpeacjaaGreatDoorH11
set_option linter.unusedSimpArgs false
set_option linter.unusedVariables false
set_option maxRecDepth 20000
set_option maxHeartbeats 12800000
namespace Go.Proofs.YthgpleelpeacjaaGreatDoor
open Go.RowKit
theorem z_isLevel (lv : Int) (bb : Bool) (hbb : bb = true ↔ 0 ≤ lv ∧ lv ≤ 2) (w : World) : Calls Tryz.prog 26 #[.int .i64 lv] w fun e w' => e = .returned (.bool bb) ∧ w' = w := by
 by_cases g0 : lv < 0
 ·rw [bb_no hbb (by omega)]
  clear hbb
  go_enter Tryz.func26, Tryz.ntmps26
  go_wp2_with fail
  go_ret
  exact ⟨rfl, rfl⟩
 ·skip
  by_cases g1 : 2 < lv
  ·rw [bb_no hbb (by omega)]
   clear hbb
   have hb : decide (lv ≤ 2) = false := decide_eq_false (by omega)
   go_enter Tryz.func26, Tryz.ntmps26
   go_wp2_with fail
   go_ret
   exact ⟨rfl, rfl⟩
  ·skip
   rw [bb_yes hbb (by omega)]
   clear hbb
   have hb : decide (lv ≤ 2) = true := decide_eq_true (by omega)
   go_enter Tryz.func26, Tryz.ntmps26
   go_wp2_with fail
   go_ret
   exact ⟨rfl, rfl⟩
theorem z_within (l : List Int) (la : Option Addr) (lc : Nat) (k : Nat) (hk : k ≤ 63) (bb : Bool) (hbb : bb = true ↔ ∀ x ∈ l, sigE x ((k : Int) + 1) = 0) (w : World) (hl : IntsAt w la l) : Calls Tryz.prog 72 #[.slice la l.length lc, .int .i64 ((k : Int) + 1)] w fun e w' => e = .returned (.bool bb) ∧ w' = w := by
 have HL : Hid (IntsAt w la l) := hl
 have h1 := hl.len
 have HBB : Hid (bb = true ↔ ∀ x ∈ l, sigE x ((k : Int) + 1) = 0) := hbb
 clear hbb hl
 go_enter Tryz.func72, Tryz.ntmps72
 go_wp2_with fail
 go_loopw [6, 7, 10] (fun s6 s7 t wr => ∃ i : Nat, i ≤ l.length ∧ t = .int .i64 (i : Int) ∧ (∀ j, j < i → sigE (l.getD j 0) ((k : Int) + 1) = 0) ∧ wr = w) (fun _ _ t _ => l.length - (intOf t).toNat)
 case atStart => exact ⟨0, Nat.zero_le _, rfl, fun j hj => absurd hj (Nat.not_lt_zero _), rfl⟩
 case round =>
  obtain ⟨i, hi, rfl, hs, rfl⟩ := hrel
  have HS : Hid (∀ j, j < i → sigE (l.getD j 0) ((k : Int) + 1) = 0) := hs
  clear hs
  by_cases hlt : i < l.length
  ·obtain ⟨b1, o1, rfl, q1⟩ := HL.out.at i hlt
   have r1 := q1 wr (Below.refl _ _)
   have hsg := sigE_sign (l.getD i 0) k hk
   have hrg := HL.out.rng i
   have HM : Hid (l.getD i 0 ∈ l) := by
    show _ ∈ _
    rw [List.getD_eq_getElem?_getD, List.getElem?_eq_getElem hlt]; exact List.getElem_mem hlt
   have hdr : -9223372036854775808 ≤ l.getD i 0 / 2 ^ k ∧ l.getD i 0 / 2 ^ k ≤ 9223372036854775807 := div_rng _ k hrg
   have HSG : Hid (sigE (l.getD i 0) ((k : Int) + 1) = 0 ↔ (l.getD i 0 / 2 ^ k = 0 ∨ l.getD i 0 / 2 ^ k = -1)) := hsg
   have HE : Hid (∀ j, j = i → l.getD j 0 = l.getD i 0) := fun j hj => by rw [hj]
   clear q1 hsg
   generalize l.getD i 0 = x at *
   by_cases c0 : x / 2 ^ k = 0
   ·have hb0 : (x / 2 ^ k != 0) = false := by rw [bne_eq_false_iff_eq]; exact c0
    have HX : Hid (sigE x ((k : Int) + 1) = 0) := HSG.out.2 (.inl c0)
    clear HSG c0 HM
    go_wp2_with fail
    go_roundw
    case rel =>
     refine ⟨i + 1, by omega, by go_num, fun j hj => ?_, trivial⟩
     by_cases e : j = i
     ·rw [HE.out j e]; exact HX.out
     ·exact HS.out j (by omega)
    case measure => simp [intOf]; omega
   ·by_cases c1 : x / 2 ^ k = -1
    ·have hb0 : (x / 2 ^ k != 0) = true := by rw [bne_iff_ne]; exact c0
     have hb1 : (x / 2 ^ k != -1) = false := by rw [bne_eq_false_iff_eq]; exact c1
     have HX : Hid (sigE x ((k : Int) + 1) = 0) := HSG.out.2 (.inr c1)
     clear HSG c0 c1 HM
     go_wp2_with fail
     go_roundw
     case rel =>
      refine ⟨i + 1, by omega, by go_num, fun j hj => ?_, trivial⟩
      by_cases e : j = i
      ·rw [HE.out j e]; exact HX.out
      ·exact HS.out j (by omega)
     case measure => simp [intOf]; omega
    ·have hb0 : (x / 2 ^ k != 0) = true := by rw [bne_iff_ne]; exact c0
     have hb1 : (x / 2 ^ k != -1) = true := by rw [bne_iff_ne]; exact c1
     have HF : Hid (bb = false) := bb_no HBB.out (fun h => by
      have := HSG.out.1 (h x HM.out)
      omega)
     clear HSG c0 c1 HM
     go_wp2_with fail
     go_ret
     exact ⟨by rw [HF.out]; rfl, rfl⟩
  ·have HF : Hid (bb = true) := bb_yes HBB.out (fun x hx => by
    obtain ⟨j, hj, rfl⟩ := List.mem_iff_getElem.1 hx
    have := HS.out j (by omega)
    rw [List.getD_eq_getElem?_getD, List.getElem?_eq_getElem hj] at this
    exact this)
   go_wp2_with fail
   go_ret
   exact ⟨by rw [HF.out]; rfl, rfl⟩
theorem z_mayBe (l : List Int) (la : Option Addr) (lc : Nat) (v : Int) (bb : Bool) (hbb : bb = true ↔ (1 ≤ v ∧ v ≤ 33) ∧ (1 ≤ l.length ∧ l.length ≤ 65535) ∧ ∀ x ∈ l, sigE x v = 0) (w : World) (hl : IntsAt w la l) : Calls Tryz.prog 27 #[.slice la l.length lc, .int .i64 v] w fun e w' => e = .returned (.bool bb) ∧ w' = w := by
 have h1 := hl.len
 by_cases g0 : v < 1
 ·rw [bb_no hbb (fun h => by omega)]
  clear hbb hl
  go_enter Tryz.func27, Tryz.ntmps27
  go_wp2_with fail
  go_ret
  exact ⟨rfl, rfl⟩
 ·skip
  by_cases g1 : 33 < v
  ·rw [bb_no hbb (fun h => by omega)]
   clear hbb hl
   have hb : decide (v ≤ 33) = false := decide_eq_false (by omega)
   go_enter Tryz.func27, Tryz.ntmps27
   go_wp2_with fail
   go_ret
   exact ⟨rfl, rfl⟩
  ·skip
   by_cases g2 : l.length < 1
   ·rw [bb_no hbb (fun h => by omega)]
    clear hbb hl
    have hb : decide (v ≤ 33) = true := decide_eq_true (by omega)
    have hc : decide ((1 : Int) ≤ (l.length : Int)) = false := decide_eq_false (by omega)
    go_enter Tryz.func27, Tryz.ntmps27
    go_wp2_with fail
    go_ret
    exact ⟨rfl, rfl⟩
   ·skip
    by_cases g3 : 65535 < l.length
    ·rw [bb_no hbb (fun h => by omega)]
     clear hbb hl
     have hb : decide (v ≤ 33) = true := decide_eq_true (by omega)
     have hc : decide ((1 : Int) ≤ (l.length : Int)) = true := decide_eq_true (by omega)
     have hd : decide ((l.length : Int) ≤ 65535) = false := decide_eq_false (by omega)
     go_enter Tryz.func27, Tryz.ntmps27
     go_wp2_with fail
     go_ret
     exact ⟨rfl, rfl⟩
    ·skip
     obtain ⟨k, hk, hk2⟩ : ∃ k : Nat, v = (k : Int) + 1 ∧ k ≤ 63 := ⟨(v - 1).toNat, by omega, by omega⟩
     subst hk
     have kw := fun wx (e : wx = w) => z_within l la lc k hk2 bb (hbb.trans ⟨fun h => h.2.2, fun h => ⟨by omega, by omega, h⟩⟩) wx (by rw [e]; exact hl)
     have hb : decide ((k : Int) + 1 ≤ 33) = true := decide_eq_true (by omega)
     have ha : decide ((1 : Int) ≤ (k : Int) + 1) = true := decide_eq_true (by omega)
     have hc : decide ((1 : Int) ≤ (l.length : Int)) = true := decide_eq_true (by omega)
     have hd : decide ((l.length : Int) ≤ 65535) = true := decide_eq_true (by omega)
     clear hbb hl
     generalize (k : Int) + 1 = v at *
     go_enter Tryz.func27, Tryz.ntmps27
     go_wp2_with fail
     refine (kw w rfl).mono ?_
     rintro e w2 ⟨rfl, hw2⟩
     subst hw2
     clear kw
     go_wp2_with fail
     go_ret
     exact ⟨rfl, rfl⟩
theorem z_areSame (l : List Int) (la : Option Addr) (lc : Nat) (w : World) (hl : IntsAt w la l) : Calls Tryz.prog 140 #[.slice la l.length lc] w fun e w' => e = .returned (.bool (l.all (fun x => x == l.getD 0 0))) ∧ w' = w := by
 have HL : Hid (IntsAt w la l) := hl
 have h1 := hl.len
 clear hl
 go_enter Tryz.func140, Tryz.ntmps140
 go_wp2_with fail
 go_loopw [4, 7] (fun s4 t wr => ∃ i : Nat, i ≤ l.length ∧ t = .int .i64 (i : Int) ∧ (∀ j, j < i → l.getD j 0 = l.getD 0 0) ∧ wr = w) (fun _ t _ => l.length - (intOf t).toNat)
 case atStart => exact ⟨0, Nat.zero_le _, rfl, fun j hj => absurd hj (Nat.not_lt_zero _), rfl⟩
 case round =>
  obtain ⟨i, hi, rfl, hs, rfl⟩ := hrel
  have HS : Hid (∀ j, j < i → l.getD j 0 = l.getD 0 0) := hs
  clear hs
  by_cases hlt : i < l.length
  ·obtain ⟨b1, o1, hla, q1⟩ := HL.out.at i hlt
   obtain ⟨b0, o0, hla0, q0⟩ := HL.out.at 0 (by omega)
   subst hla
   cases hla0
   have r1 := q1 wr (Below.refl _ _)
   have r0 := q0 wr (Below.refl _ _)
   have HE : Hid (∀ j, j = i → l.getD j 0 = l.getD i 0) := fun j hj => by rw [hj]
   have HM : Hid (l.getD i 0 ∈ l) := by
    show _ ∈ _
    rw [List.getD_eq_getElem?_getD, List.getElem?_eq_getElem hlt]; exact List.getElem_mem hlt
   clear q1 q0
   rw [Nat.add_zero] at r0
   by_cases c0 : l.getD i 0 = l.getD 0 0
   ·have hb0 : (l.getD i 0 != l.getD 0 0) = false := by rw [bne_eq_false_iff_eq]; exact c0
    have HX : Hid (l.getD i 0 = l.getD 0 0) := c0
    clear c0 HM
    obtain ⟨x, hx⟩ : ∃ x, x = l.getD i 0 := ⟨_, rfl⟩
    obtain ⟨y, hy⟩ : ∃ y, y = l.getD 0 0 := ⟨_, rfl⟩
    rw [← hx] at r1 hb0
    rw [← hy] at r0 hb0
    clear hx hy
    go_wp2_with fail
    go_roundw
    case rel =>
     refine ⟨i + 1, by omega, by go_num, fun j hj => ?_, trivial⟩
     by_cases e : j = i
     ·rw [HE.out j e]; exact HX.out
     ·exact HS.out j (by omega)
    case measure => simp [intOf]; omega
   ·have hb0 : (l.getD i 0 != l.getD 0 0) = true := by rw [bne_iff_ne]; exact c0
    have HF : Hid (l.all (fun x => x == l.getD 0 0) = false) := by
     show _ = _
     rw [Bool.eq_false_iff]
     intro h
     exact c0 (by have := List.all_eq_true.1 h _ HM.out; rwa [beq_iff_eq] at this)
    clear c0 HM HE
    obtain ⟨x, hx⟩ : ∃ x, x = l.getD i 0 := ⟨_, rfl⟩
    obtain ⟨y, hy⟩ : ∃ y, y = l.getD 0 0 := ⟨_, rfl⟩
    rw [← hx] at r1 hb0
    rw [← hy] at r0 hb0
    clear hx hy
    go_wp2_with fail
    go_ret
    exact ⟨by rw [HF.out]; rfl, rfl⟩
  ·have HF : Hid (l.all (fun x => x == l.getD 0 0) = true) := by
    show _ = _
    rw [List.all_eq_true]
    intro x hx
    obtain ⟨j, hj, rfl⟩ := List.mem_iff_getElem.1 hx
    have := HS.out j (by omega)
    rw [List.getD_eq_getElem?_getD, List.getElem?_eq_getElem hj] at this
    rw [beq_iff_eq]; exact this
   go_wp2_with fail
   go_ret
   exact ⟨by rw [HF.out]; rfl, rfl⟩
theorem z_maxFixed (lv : Int) (w : World) : Calls Tryz.prog 188 #[.int .i64 lv] w fun e w' => e = .returned (.int .i64 (if lv = 0 then 2 else 4)) ∧ w' = w := by
 by_cases g0 : lv = 0
 ·rw [if_pos g0]
  subst g0
  go_enter Tryz.func188, Tryz.ntmps188
  go_wp2_with fail
  go_ret
  exact ⟨rfl, rfl⟩
 ·skip
  rw [if_neg g0]
  have hb : (lv == 0) = false := by rw [beq_eq_false_iff_ne]; exact g0
  clear g0
  go_enter Tryz.func188, Tryz.ntmps188
  go_wp2_with fail
  go_ret
  exact ⟨rfl, rfl⟩
theorem sigB_full (x v : Int) (h : sigE x v = 0) : (sigB x v).length = v.toNat := by
 rw [sigE_iff] at h
 unfold sigB; rw [if_pos h, bitsOf_length]
theorem numsB_full (v : Int) (hv : 1 ≤ v) (m : List Int) (h : ∀ x ∈ m, sigE x v = 0) : (numsB 0 v m).length = m.length * v.toNat := by
 induction m with
 | nil => simp [numsB]
 | cons x t ih =>
  have e : numsB 0 v (x :: t) = sigB x v ++ numsB 0 v t := by
   have : oneB 0 v x = sigB x v := by unfold oneB; rw [if_neg (by omega), if_neg (by omega)]
   simp [numsB, this]
  rw [e, List.length_append, sigB_full x v (h x (List.mem_cons_self ..)), ih (fun y hy => h y (List.mem_cons_of_mem _ hy)), List.length_cons, Nat.add_mul]
  omega
theorem wstB_full (w : Nat) (h : w ≤ 100) : (wstB (w : Int)).length = 1 + w := by
 unfold wstB
 split
 ·rename_i h0
  rw [List.length_append, put_len 1 1 1 rfl (by decide) (by decide)]
  unfold unrB
  rw [if_pos (by omega), List.length_append, List.length_replicate, List.length_singleton]
  omega
 ·rw [put_len 0 1 1 rfl (by decide) (by decide)]
  omega
def blN (q : Sb) (u : Nat) (m : List Int) : Nat :=
 if q.k = 0 then u else if q.k = 1 then m.length * u
 else q.o.toNat * u + (if q.k = 2 then 0 else 9 + q.o.toNat * 7) + ordS (resN q m) m.length q.o.toNat (bestK (ordS (resN q m) m.length q.o.toNat) (fnO m.length q.o.toNat))
theorem shr_fits (l : List Int) (v : Int) (hv : 1 ≤ v) (hfit : ∀ x ∈ l, sigE x v = 0) : ∀ x ∈ shrL l (wasN l), sigE x (v - (wasN l : Int)) = 0 := fun y hy => by
 obtain ⟨x, hx, e⟩ := List.mem_map.1 hy
 have hw := was_lt l v hv hfit
 have hd := (dvB_iff l (wasN l)).1 (wasN_dvB l) x hx
 obtain ⟨V, rfl⟩ : ∃ V : Nat, v = V := ⟨v.toNat, by omega⟩
 have hf := fit_div x V (wasN l) (by omega) (hfit x hx) hd
 rw [← e, show ((V : Int) - (wasN l : Int)) = ((V - wasN l : Nat) : Int) by omega]
 exact hf
theorem sub_bits (l : List Int) (v : Int) (q : Sb) (ht : triedS (wasN l : Int) q) (ho : q.o ≤ (l.length : Int)) (hv : 1 ≤ v ∧ v ≤ 33) (hn1 : 1 ≤ l.length) (hn2 : l.length ≤ 65535) (hfit : ∀ x ∈ l, sigE x v = 0) :
  (subB (wiS q (shrL l (wasN l))) v l).length = 8 + wasN l + blN q (v.toNat - wasN l) (shrL l (wasN l)) := by
 have hw := was_lt l v hv.1 hfit
 have h4 := tried_o _ q ht
 have hsf := shr_fits l v hv.1 hfit
 have hll := shrL_ln l (wasN l)
 obtain ⟨e1, e2, e3, e4, e5, e6⟩ := wiS_k q (shrL l (wasN l))
 have hwq : q.w = (wasN l : Int) := by
  rcases ht with rfl | rfl | ⟨o, _, rfl⟩ | ⟨C, _, rfl⟩ <;> rfl
 have htn : (v - (wasN l : Int)).toNat = v.toNat - wasN l := by omega
 have h7 : (putB (typN (wiS q (shrL l (wasN l)))) 7).length = 7 := by
  refine put_len _ 7 7 rfl (by decide) ?_
  unfold typN
  rw [e1, e2]
  have : (2 : Int) ^ 7 = 128 := by decide
  rw [this]
  repeat' split
  all_goals omega
 unfold subB
 rw [List.length_append, List.length_append, h7, e3, hwq, Int.toNat_natCast, wstB_full _ (by omega)]
 have hb : (bodyB (wiS q (shrL l (wasN l))) v (shrL l (wasN l))).length = blN q (v.toNat - wasN l) (shrL l (wasN l)) := by
  have hrice := fun hk => tried_rice l v q ht hk ho hv hn1 hn2 hfit
  have hres : ∀ hk : q.k = 2 ∨ q.k = 3, (encB (wiS q (shrL l (wasN l))).R (shrL l (wasN l)).length q.o.toNat (resN q (shrL l (wasN l)))).length = ordS (resN q (shrL l (wasN l))) (shrL l (wasN l)).length q.o.toNat (bestK (ordS (resN q (shrL l (wasN l))) (shrL l (wasN l)).length q.o.toNat) (fnO (shrL l (wasN l)).length q.o.toNat)) := fun hk => by
   obtain ⟨hR, _, _⟩ := hrice hk
   have hm := shr_small l v hv.1 hv.2 hfit
   obtain ⟨hs, hlen⟩ := tried_res _ q ht hk (shrL l (wasN l)) hm (by omega)
   rw [hR, ← hll]
   exact (brN_ok (shrL l (wasN l)).length q.o.toNat (resN q (shrL l (wasN l))) (by omega) (by omega) (by omega) (by omega) hs hlen).2.2
  generalize hM : shrL l (wasN l) = m at *
  have htk : (numsB 0 (v - (wasN l : Int)) (m.take q.o.toNat)).length = q.o.toNat * (v.toNat - wasN l) := by
   rw [numsB_full _ (by omega) _ (fun x hx => hsf x (List.mem_of_mem_take hx)), List.length_take, htn]
   congr 1; omega
  unfold bodyB blN
  rw [e1, e2, e3, hwq]
  by_cases k0 : q.k = 0
  ·rw [if_pos k0, if_pos k0]
   have h0 : 0 < m.length := by omega
   rw [sigB_full _ _ (hsf _ (getD_mem m 0 h0)), htn]
  rw [if_neg k0, if_neg k0]
  by_cases k1 : q.k = 1
  ·rw [if_pos k1, if_pos k1, numsB_full _ (by omega) _ hsf, htn]
  rw [if_neg k1, if_neg k1]
  by_cases k2 : q.k = 2
  ·rw [if_pos k2, if_pos k2, List.length_append, htk, resN_wi, hres (Or.inl k2)]
   omega
  rw [if_neg k2, if_neg k2, List.length_append, htk, resN_wi, e4, e5, e6]
  have k3 : q.k = 3 := by
   rcases ht with h | h | ⟨o, _, h⟩ | ⟨C, _, h⟩
   ·rw [h] at k0; exact absurd rfl k0
   ·rw [h] at k1; exact absurd rfl k1
   ·rw [h] at k2; exact absurd rfl k2
   ·rw [h]; rfl
  obtain ⟨hp7, hh5, hCl, hC7⟩ : q.p = 7 ∧ q.h = 5 ∧ q.C.length = q.o.toNat ∧ ∀ x ∈ q.C, sigE x 7 = 0 := by
   rcases ht with h | h | ⟨o, _, h⟩ | ⟨C, hC, h⟩
   ·rw [h] at k0; exact absurd rfl k0
   ·rw [h] at k1; exact absurd rfl k1
   ·rw [h] at k2; exact absurd rfl k2
   ·refine ⟨by rw [h]; rfl, by rw [h]; rfl, by rw [h]; unfold lpS; exact (Int.toNat_natCast _).symm, ?_⟩
    rw [h]
    show ∀ x ∈ C, sigE x 7 = 0
    rcases List.mem_cons.1 hC with rfl | hC
    ·exact fun x hx => by simp at hx; subst hx; decide
    rcases List.mem_cons.1 hC with rfl | hC
    ·exact fun x hx => by simp at hx; rcases hx with rfl | rfl <;> decide
    rcases List.mem_cons.1 hC with rfl | hC
    ·exact fun x hx => by simp at hx; rcases hx with rfl | rfl <;> decide
    cases hC
  rw [hp7, hh5, List.length_append, List.length_append, List.length_append, put_len (7 - 1) 4 4 rfl (by decide) (by decide), put_len 5 5 5 rfl (by decide) (by decide), numsB_full 7 (by decide) q.C hC7, hCl, hres (Or.inr k3)]
  show _ + (4 + (5 + (q.o.toNat * 7 + _))) = _
  omega
 rw [hb]
 omega
def opS (v : Int) (l m : List Int) (q : Sb) : Option (Sb × Nat) := if vaB q l = true then some (wiS q m, (subB (wiS q m) v l).length) else none
def shoS (acc : Option (Sb × Nat)) (x : Sb × Nat) : Option (Sb × Nat) :=
 match acc with
 | none => some x
 | some a => if x.2 < a.2 then some x else some a
theorem st_sh (v : Int) (l m : List Int) (L : List Sb) (acc : Option (Sb × Nat)) : L.foldl (stS v l m) acc = (L.filterMap (opS v l m)).foldl shoS acc := by
 induction L generalizing acc with
 | nil => rfl
 | cons q t ih =>
  rw [List.foldl_cons, ih, List.filterMap_cons]
  unfold opS stS
  by_cases h : vaB q l = true
  ·rw [if_pos h, if_pos h]
   cases acc <;> rfl
  ·rw [if_neg h, if_neg h]
theorem sbR_sh (lv v : Int) (l : List Int) : sbR lv v l = ((cnL lv (wasN l : Int)).filterMap (opS v l (shrL l (wasN l)))).foldl shoS none := by
 unfold sbR; exact st_sh ..
def shoT (a : Sb × Nat) (L : List (Sb × Nat)) : Sb × Nat := L.foldl (fun a x => if x.2 < a.2 then x else a) a
theorem sh_some (L : List (Sb × Nat)) (a : Sb × Nat) : L.foldl shoS (some a) = some (shoT a L) := by
 induction L generalizing a with
 | nil => rfl
 | cons x t ih =>
  unfold shoT
  rw [List.foldl_cons, List.foldl_cons]
  have e : shoS (some a) x = some (if x.2 < a.2 then x else a) := by
   unfold shoS; dsimp only; split <;> rfl
  rw [e, ih]; rfl
theorem sh_none (L : List (Sb × Nat)) (a : Sb × Nat) (t : List (Sb × Nat)) (h : L = a :: t) : L.foldl shoS none = some (shoT a L) := by
 rw [h]
 have e : (a :: t).foldl shoS none = t.foldl shoS (some a) := rfl
 rw [e, sh_some]
 have e2 : shoT a (a :: t) = shoT a t := by
  unfold shoT; rw [List.foldl_cons, if_neg (Nat.lt_irrefl _)]
 rw [e2]
def wiW (w : Int) (q : Sb) : Sb := ⟨q.k, q.o, w, q.p, q.h, q.C, q.R⟩
theorem trL_w (lv w : Int) : trL lv w = (trL lv 0).map (wiW w) := by
 unfold trL
 rw [List.map_append, List.map_map]
 have h1 : (wiW w ∘ fxS 0) = fxS w := rfl
 rw [h1]
 congr 1
 split
 ·rw [List.map_map]; rfl
 ·rfl
theorem same_div (l : List Int) : (shrL l (wasN l)).all (fun x => x == (shrL l (wasN l)).getD 0 0) = l.all (fun x => x == l.getD 0 0) := by
 have hd := (dvB_iff l (wasN l)).1 (wasN_dvB l)
 generalize wasN l = w at *
 have hq : (2 : Int) ^ w ≠ 0 := Int.ne_of_gt (Int.pow_pos (by decide))
 cases l with
 | nil => rfl
 | cons a t =>
  have e0 : (shrL (a :: t) w).getD 0 0 = a / 2 ^ w := rfl
  rw [e0]
  show ((a :: t).map (fun n => n / 2 ^ w)).all _ = _
  rw [List.all_map]
  have ha := hd a (List.mem_cons_self ..)
  rw [Bool.eq_iff_iff, List.all_eq_true, List.all_eq_true]
  constructor
  ·intro h x hx
   have h1 := h x hx
   rw [Function.comp_apply, beq_iff_eq] at h1
   have h2 := hd x hx
   rw [beq_iff_eq]
   show x = a
   have h3 := Int.ediv_mul_cancel (Int.dvd_of_emod_eq_zero ha)
   have h4 := Int.ediv_mul_cancel (Int.dvd_of_emod_eq_zero h2)
   rw [← h4, h1, h3]
  ·intro h x hx
   have h1 := h x hx
   rw [beq_iff_eq] at h1
   rw [Function.comp_apply, beq_iff_eq]
   have : x = a := h1
   rw [this]
def cdL (lv w v : Int) (l m : List Int) (i : Nat) : List (Sb × Nat) := (cnS w :: vbS w :: (trL lv w).take i).filterMap (opS v l m)
theorem cdL_all (lv v : Int) (l : List Int) : (cnL lv (wasN l : Int)).filterMap (opS v l (shrL l (wasN l))) = cdL lv (wasN l) v l (shrL l (wasN l)) (trL lv (wasN l : Int)).length := by
 unfold cdL cnL; rw [List.take_length]
theorem cdL_succ (lv w v : Int) (l m : List Int) (i : Nat) (q : Sb) (h : (trL lv w)[i]? = some q) : cdL lv w v l m (i + 1) = cdL lv w v l m i ++ (opS v l m q).toList := by
 have hi : i < (trL lv w).length := by
  rcases Nat.lt_or_ge i (trL lv w).length with h1 | h1
  ·exact h1
  ·rw [List.getElem?_eq_none h1] at h; cases h
 have e : (trL lv w).take (i + 1) = (trL lv w).take i ++ [q] := by
  rw [List.take_add_one, h]; rfl
 unfold cdL
 rw [e, ← List.cons_append, ← List.cons_append, List.filterMap_append]
 congr 1
theorem trL_len (lv w : Int) : (trL lv w).length ≤ 8 := by
 unfold trL
 rw [List.length_append, List.length_map, List.length_range]
 have : (if lv = 2 then lpcs.map (lpS w) else []).length ≤ 3 := by
  split
  ·exact Nat.le_refl 3
  ·exact Nat.zero_le _
 split <;> omega
theorem cdL_len (lv w v : Int) (l m : List Int) (i : Nat) : (cdL lv w v l m i).length ≤ 10 := by
 unfold cdL
 have h1 := List.length_filterMap_le (opS v l m) (cnS w :: vbS w :: (trL lv w).take i)
 have h2 := trL_len lv w
 rw [List.length_cons, List.length_cons, List.length_take] at h1
 omega
theorem cdL_0 (lv w v : Int) (l m : List Int) : cdL lv w v l m 0 = (opS v l m (cnS w)).toList ++ [(vbS w, (subB (vbS w) v l).length)] := by
 have e : opS v l m (vbS w) = some (vbS w, (subB (vbS w) v l).length) := by
  unfold opS
  have h1 : vaB (vbS w) l = true := by unfold vaB vbS; simp
  have h2 : wiS (vbS w) m = vbS w := by unfold wiS vbS; simp
  rw [if_pos h1, h2]
 unfold cdL
 rw [List.take_zero, List.filterMap_cons, List.filterMap_cons, e]
 cases opS v l m (cnS w) <;> rfl
theorem trL_tried (lv w : Int) (q : Sb) (h : q ∈ trL lv w) : triedS w q ∧ (q.k = 2 ∨ q.k = 3) := by
 refine ⟨cnL_tried lv w q (List.mem_cons_of_mem _ (List.mem_cons_of_mem _ h)), ?_⟩
 unfold trL at h
 rcases List.mem_append.1 h with h | h
 ·obtain ⟨o, ho, rfl⟩ := List.mem_map.1 h; exact Or.inl rfl
 ·split at h
  ·obtain ⟨C, hC, rfl⟩ := List.mem_map.1 h; exact Or.inr rfl
  ·cases h
theorem info_coding : (Tryz.prog.info? 63).map (·.size) = some 3 := by kernel_rfl
theorem z_lpc (C : List Int) (ca : Option Addr) (cc : Nat) (w : World) : Calls Tryz.prog 189 #[.slice ca C.length cc] w fun e w' => e = .returned (.agg (subC (lpS 0 C) ca cc none 0 none 0)) ∧ Below w.heap.size w w' := by
 go_enter Tryz.func189, Tryz.ntmps189
 go_wp2_with fail
 refine bodyPost_ret (v := .agg #[.int .i64 3, .int .i64 (C.length : Int), .int .i64 0, .int .i64 7, .int .i64 5, .slice ca C.length cc, .int .i64 0, .int .i64 0, .slice none 0 0, .slice none 0 0]) ?_ rfl ⟨rfl, (Below.refl _ _).alloc (Nat.le_refl _) _⟩
 rw [results_one rfl]
 have hld := run_loadVar_row (P := Tryz.prog) (w.alloc (.cells #[.int .i64 3, .int .i64 (C.length : Int), .int .i64 0, .int .i64 7, .int .i64 5, .slice ca C.length cc, .int .i64 0, .int .i64 0, .slice none 0 0, .slice none 0 0] 27)) (w.heap.size) 27 27 #[.int .i64 3, .int .i64 (C.length : Int), .int .i64 0, .int .i64 7, .int .i64 5, .slice ca C.length cc, .int .i64 0, .int .i64 0, .slice none 0 0, .slice none 0 0] (0, 0) _ (heap_alloc_new _ _) Tryz.underlying27 rfl info_Sub
 simp [asAddr, Result.andThen, hld]
theorem z_coefsBits (q : Sb) (ca : Option Addr) (cc : Nat) (pa : Option Addr) (pc : Nat) (ea : Option Addr) (ec : Nat) (r : Int) (hr : r = if q.k = 2 then 0 else 9 + q.o * q.p) (hr2 : I64 r) (hop : I64 (q.o * q.p)) (w : World) : Calls Tryz.prog 145 #[subV q ca cc pa pc ea ec] w fun e w' => e = .returned (.int .i64 r) ∧ Below w.heap.size w w' := by
 have HB : Hid (Below w.heap.size w (w.alloc (.cells (subC q ca cc pa pc ea ec) 27))) := (Below.refl _ _).alloc (Nat.le_refl _) _
 obtain ⟨x0, x1, x2, x3, x4, x5, x6, x7, x8, x9⟩ := sub_cells (heap_alloc_new w (.cells (subC q ca cc pa pc ea ec) 27))
 by_cases k2 : q.k = 2
 ·have hb : (q.k == 2) = true := by rw [beq_iff_eq]; exact k2
  rw [if_pos k2] at hr
  clear k2 hr2 hop
  subst hr
  go_enter Tryz.func145, Tryz.ntmps145
  go_upto_region 1 with fail
  generalize hwa : World.alloc _ _ = wa at *
  clear hwa
  go_wp2_with fail
  go_ret
  exact ⟨rfl, HB.out⟩
 ·have hb : (q.k == 2) = false := by rw [beq_eq_false_iff_ne]; exact k2
  rw [if_neg k2] at hr
  clear k2
  have HR : Hid (wrap64 (9 + wrap64 (q.o * q.p)) = r) := by show _ = _; rw [wid _ hop, ← hr]; exact wid _ hr2
  clear hr hr2 hop
  go_enter Tryz.func145, Tryz.ntmps145
  go_upto_region 1 with fail
  generalize hwa : World.alloc _ _ = wa at *
  clear hwa
  go_wp2_with fail
  go_ret
  exact ⟨by rw [← HR.out]; rfl, HB.out⟩
theorem z_codingOf (q : Sb) (ca : Option Addr) (cc : Nat) (pa : Option Addr) (pc : Nat) (ea : Option Addr) (ec : Nat) (n : Int) (hr2 : I64 (8 + q.w + n)) (hw : I64 (8 + q.w)) (w : World) : Calls Tryz.prog 141 #[subV q ca cc pa pc ea ec, .int .i64 n] w fun e w' => ∃ g, e = .returned (.agg #[.int .i64 0, .slice (some ⟨g, 0, none⟩) 1 1, .int .i64 (8 + q.w + n)]) ∧ w'.heap[g]? = some (.cells (subC q ca cc pa pc ea ec) 27 (0, 0)) ∧ w.heap.size ≤ g ∧ Below w.heap.size w w' := by
 obtain ⟨x0, x1, x2, x3, x4, x5, x6, x7, x8, x9⟩ := sub_cells (heap_alloc_new w (.cells (subC q ca cc pa pc ea ec) 27))
 have h2 : (((w.alloc (.cells (subC q ca cc pa pc ea ec) 27)).alloc (.cells #[.int .i64 0, .slice (some ⟨w.heap.size + 1 + 1, 0, none⟩) 1 1, .int .i64 (8 + q.w + n)] 63)).alloc (.cells #[.int .i64 q.k, .int .i64 q.o, .int .i64 q.w, .int .i64 q.p, .int .i64 q.h, .slice ca q.C.length cc, .int .i64 q.R.m, .int .i64 q.R.o, .slice pa q.R.P.length pc, .slice ea q.R.E.length ec] 27)).heap[w.heap.size + 1]? = some (.cells #[.int .i64 0, .slice (some ⟨w.heap.size + 1 + 1, 0, none⟩) 1 1, .int .i64 (8 + q.w + n)] 63 (0, 0)) := by
  have hh := heap_two (w.alloc (.cells (subC q ca cc pa pc ea ec) 27)) (.cells #[.int .i64 0, .slice (some ⟨w.heap.size + 1 + 1, 0, none⟩) 1 1, .int .i64 (8 + q.w + n)] 63) (.cells #[.int .i64 q.k, .int .i64 q.o, .int .i64 q.w, .int .i64 q.p, .int .i64 q.h, .slice ca q.C.length cc, .int .i64 q.R.m, .int .i64 q.R.o, .slice pa q.R.P.length pc, .slice ea q.R.E.length ec] 27)
  rw [show (w.alloc (.cells (subC q ca cc pa pc ea ec) 27)).heap.size = w.heap.size + 1 from by simp] at hh
  exact hh
 have h3 : (((w.alloc (.cells (subC q ca cc pa pc ea ec) 27)).alloc (.cells #[.int .i64 0, .slice (some ⟨w.heap.size + 1 + 1, 0, none⟩) 1 1, .int .i64 (8 + q.w + n)] 63)).alloc (.cells #[.int .i64 q.k, .int .i64 q.o, .int .i64 q.w, .int .i64 q.p, .int .i64 q.h, .slice ca q.C.length cc, .int .i64 q.R.m, .int .i64 q.R.o, .slice pa q.R.P.length pc, .slice ea q.R.E.length ec] 27)).heap[w.heap.size + 1 + 1]? = some (.cells #[.int .i64 q.k, .int .i64 q.o, .int .i64 q.w, .int .i64 q.p, .int .i64 q.h, .slice ca q.C.length cc, .int .i64 q.R.m, .int .i64 q.R.o, .slice pa q.R.P.length pc, .slice ea q.R.E.length ec] 27 (0, 0)) := by
  have hh := heap_alloc_new ((w.alloc (.cells (subC q ca cc pa pc ea ec) 27)).alloc (.cells #[.int .i64 0, .slice (some ⟨w.heap.size + 1 + 1, 0, none⟩) 1 1, .int .i64 (8 + q.w + n)] 63)) (.cells #[.int .i64 q.k, .int .i64 q.o, .int .i64 q.w, .int .i64 q.p, .int .i64 q.h, .slice ca q.C.length cc, .int .i64 q.R.m, .int .i64 q.R.o, .slice pa q.R.P.length pc, .slice ea q.R.E.length ec] 27)
  rw [show ((w.alloc (.cells (subC q ca cc pa pc ea ec) 27)).alloc (.cells #[.int .i64 0, .slice (some ⟨w.heap.size + 1 + 1, 0, none⟩) 1 1, .int .i64 (8 + q.w + n)] 63)).heap.size = w.heap.size + 1 + 1 from by simp] at hh
  exact hh
 have HH : Hid ((((w.alloc (.cells (subC q ca cc pa pc ea ec) 27)).alloc (.cells #[.int .i64 0, .slice (some ⟨w.heap.size + 1 + 1, 0, none⟩) 1 1, .int .i64 (8 + q.w + n)] 63)).alloc (.cells #[.int .i64 q.k, .int .i64 q.o, .int .i64 q.w, .int .i64 q.p, .int .i64 q.h, .slice ca q.C.length cc, .int .i64 q.R.m, .int .i64 q.R.o, .slice pa q.R.P.length pc, .slice ea q.R.E.length ec] 27)).heap[w.heap.size + 1]? = some (.cells #[.int .i64 0, .slice (some ⟨w.heap.size + 1 + 1, 0, none⟩) 1 1, .int .i64 (8 + q.w + n)] 63 (0, 0)) ∧ (((w.alloc (.cells (subC q ca cc pa pc ea ec) 27)).alloc (.cells #[.int .i64 0, .slice (some ⟨w.heap.size + 1 + 1, 0, none⟩) 1 1, .int .i64 (8 + q.w + n)] 63)).alloc (.cells #[.int .i64 q.k, .int .i64 q.o, .int .i64 q.w, .int .i64 q.p, .int .i64 q.h, .slice ca q.C.length cc, .int .i64 q.R.m, .int .i64 q.R.o, .slice pa q.R.P.length pc, .slice ea q.R.E.length ec] 27)).heap[w.heap.size + 1 + 1]? = some (.cells #[.int .i64 q.k, .int .i64 q.o, .int .i64 q.w, .int .i64 q.p, .int .i64 q.h, .slice ca q.C.length cc, .int .i64 q.R.m, .int .i64 q.R.o, .slice pa q.R.P.length pc, .slice ea q.R.E.length ec] 27 (0, 0)) ∧ Below w.heap.size w (((w.alloc (.cells (subC q ca cc pa pc ea ec) 27)).alloc (.cells #[.int .i64 0, .slice (some ⟨w.heap.size + 1 + 1, 0, none⟩) 1 1, .int .i64 (8 + q.w + n)] 63)).alloc (.cells #[.int .i64 q.k, .int .i64 q.o, .int .i64 q.w, .int .i64 q.p, .int .i64 q.h, .slice ca q.C.length cc, .int .i64 q.R.m, .int .i64 q.R.o, .slice pa q.R.P.length pc, .slice ea q.R.E.length ec] 27))) := ⟨h2, h3, ((((Below.refl _ _).alloc (Nat.le_refl _) _).alloc (by simp) _).alloc (by simp; omega) _)⟩
 clear h2 h3
 go_enter Tryz.func141, Tryz.ntmps141
 go_wp2_with fail
 clear x0 x1 x2 x3 x4 x5 x6 x7 x8 x9
 generalize hwf : World.alloc _ _ = wf at *
 clear hwf
 refine bodyPost_ret (v := .agg #[.int .i64 0, .slice (some ⟨w.heap.size + 1 + 1, 0, none⟩) 1 1, .int .i64 (8 + q.w + n)]) ?_ rfl ⟨w.heap.size + 1 + 1, rfl, HH.out.2.1, by omega, HH.out.2.2⟩
 rw [results_one rfl]
 have hld := run_loadVar_row (P := Tryz.prog) (wf) (w.heap.size + 1) 63 63 #[.int .i64 0, .slice (some ⟨w.heap.size + 1 + 1, 0, none⟩) 1 1, .int .i64 (8 + q.w + n)] (0, 0) _ HH.out.1 Tryz.underlying63 rfl info_coding
 simp [asAddr, Result.andThen, hld]
def lfR (q : Sb) (m : List Int) : Option (List Int) := if q.k = 2 then fixR q.o m else lpcR q.C q.h m
theorem z_leftOver (q : Sb) (ca : Option Addr) (cc : Nat) (pa : Option Addr) (pc : Nat) (ea : Option Addr) (ec : Nat) (m : List Int) (la : Option Addr) (lc : Nat) (hlc : m.length ≤ lc) (w : World) (hC : IntsAt w ca q.C) (hm : IntsAt w la m) : Calls Tryz.prog 143 #[subV q ca cc pa pc ea ec, .slice la m.length lc] w (RetM (lfR q m) w) := by
 have HB : Hid (Below w.heap.size w (w.alloc (.cells (subC q ca cc pa pc ea ec) 27))) := (Below.refl _ _).alloc (Nat.le_refl _) _
 obtain ⟨x0, x1, x2, x3, x4, x5, x6, x7, x8, x9⟩ := sub_cells (heap_alloc_new w (.cells (subC q ca cc pa pc ea ec) 27))
 have HF : Hid (∀ wx, Below w.heap.size w wx → Calls Tryz.prog 177 #[.int .i64 q.o, .slice la m.length lc] wx (RetM (fixR q.o m) wx)) := fun wx hb => qfixed_spec q.o m la lc hlc wx (hm.below hb)
 have HP : Hid (∀ wx, Below w.heap.size w wx → Calls Tryz.prog 178 #[.slice ca q.C.length cc, .int .i64 q.h, .slice la m.length lc] wx (RetM (lpcR q.C q.h m) wx)) := fun wx hb => qlpc_spec q.C m q.h ca la cc lc hlc wx (hC.below hb) (hm.below hb)
 clear hC hm
 unfold lfR
 by_cases k2 : q.k = 2
 ·rw [if_pos k2]
  have hb : (q.k == 2) = true := by rw [beq_iff_eq]; exact k2
  clear k2
  have k := HF.out
  clear HF HP
  cases hR : fixR q.o m with
  | none =>
   rw [hR] at k
   clear hR
   go_enter Tryz.func143, Tryz.ntmps143
   go_upto_region 1 with fail
   generalize hwa : World.alloc _ _ = wa at *
   clear hwa
   go_wp2_with fail
   refine (k wa HB.out).mono ?_
   rintro e w2 ⟨rfl, hb2⟩
   have HB2 : Hid (Below w.heap.size w w2) := HB.out.trans (hb2.mono HB.out.size)
   clear hb2
   go_wp2_with fail
   go_ret2
   exact retM_none rfl rfl HB2.out
  | some M =>
   rw [hR] at k
   clear hR
   go_enter Tryz.func143, Tryz.ntmps143
   go_upto_region 1 with fail
   generalize hwa : World.alloc _ _ = wa at *
   clear hwa
   go_wp2_with fail
   refine (k wa HB.out).mono ?_
   rintro e w2 ⟨la2, lc2, rfl, hm2⟩
   have HM2 : Hid (Made w la2 lc2 M w2) := hm2.up HB.out
   clear hm2
   go_wp2_with fail
   go_ret2
   exact retM_some rfl rfl HM2.out
 ·rw [if_neg k2]
  have hb : (q.k == 2) = false := by rw [beq_eq_false_iff_ne]; exact k2
  clear k2
  have k := HP.out
  clear HF HP
  cases hR : lpcR q.C q.h m with
  | none =>
   rw [hR] at k
   clear hR
   go_enter Tryz.func143, Tryz.ntmps143
   go_upto_region 1 with fail
   generalize hwa : World.alloc _ _ = wa at *
   clear hwa
   go_wp2_with fail
   refine (k wa HB.out).mono ?_
   rintro e w2 ⟨rfl, hb2⟩
   have HB2 : Hid (Below w.heap.size w w2) := HB.out.trans (hb2.mono HB.out.size)
   clear hb2
   go_wp2_with fail
   go_ret2
   exact retM_none rfl rfl HB2.out
  | some M =>
   rw [hR] at k
   clear hR
   go_enter Tryz.func143, Tryz.ntmps143
   go_upto_region 1 with fail
   generalize hwa : World.alloc _ _ = wa at *
   clear hwa
   go_wp2_with fail
   refine (k wa HB.out).mono ?_
   rintro e w2 ⟨la2, lc2, rfl, hm2⟩
   have HM2 : Hid (Made w la2 lc2 M w2) := hm2.up HB.out
   clear hm2
   go_wp2_with fail
   go_ret2
   exact retM_some rfl rfl HM2.out
theorem cod_info : ∃ i, Tryz.prog.info? 63 = some i ∧ i.zero = some (.agg #[.int .i64 0, .slice none 0 0, .int .i64 0]) ∧ i.size = 3 ∧ i.bytes = 40 := by
 have h : (Tryz.prog.info? 63).map (fun i => (i.zero, i.size, i.bytes)) = some (some (.agg #[.int .i64 0, .slice none 0 0, .int .i64 0]), 3, 40) := by kernel_rfl
 cases hq : Tryz.prog.info? 63 with
 | none => rw [hq] at h; cases h
 | some i =>
  rw [hq] at h
  simp only [Option.map_some, Option.some.injEq, Prod.mk.injEq] at h
  exact ⟨i, rfl, h.1, h.2.1, h.2.2⟩
theorem undCods : Tryz.prog.underlying 115 = some (.slice 63) := by kernel_rfl
def Off (v : Value) (X : World) (k : Nat) : Prop := k < X.heap.size ∧ v.ownBlock ≠ some k
section
variable {v v' : Value} {X X' w1 : World} {k g n c : Nat}
theorem Off.low (h : Off v X k) (hb : Below X.heap.size X X') : Off v X' k := ⟨Nat.lt_of_lt_of_le h.1 hb.size, h.2⟩
theorem Off.push (h : Off v X k) (hg : X.grownBy w1 v.ownBlock) (hat : v.ownBlock = some g ∨ g = X.heap.size) : Off (.slice (some ⟨g, 0, none⟩) n c) w1 k ∧ w1.heap[k]? = X.heap[k]? := by
 refine ⟨⟨Nat.lt_of_lt_of_le h.1 hg.size, fun e => ?_⟩, hg.block k h.1 (fun e => h.2 e.symm)⟩
 have e3 : g = k := by simpa [Value.ownBlock] using e
 rcases hat with h1 | h1
 ·exact h.2 (by rw [h1, e3])
 ·have := h.1; omega
end
structure IOff (v : Value) (X : World) (a : Option Addr) (l : List Int) : Prop where
 i : IntsAt X a l
 o : 0 < l.length → ∀ b, blockOf a = some b → Off v X b
section
variable {v : Value} {X X' w1 : World} {a : Option Addr} {l : List Int} {g n c : Nat}
theorem IOff.low (h : IOff v X a l) (hb : Below X.heap.size X X') : IOff v X' a l := ⟨h.i.below hb, fun h0 b e => (h.o h0 b e).low hb⟩
theorem IOff.push (h : IOff v X a l) (hg : X.grownBy w1 v.ownBlock) (hat : v.ownBlock = some g ∨ g = X.heap.size) : IOff (.slice (some ⟨g, 0, none⟩) n c) w1 a l := by
 refine ⟨⟨h.i.len, h.i.num, fun h0 => ?_⟩, fun h0 b e => ((h.o h0 b e).push hg hat).1⟩
 obtain ⟨b, off, e, hc⟩ := h.i.lies h0
 refine ⟨b, off, e, fun j hj => ?_⟩
 rw [World.cell?_of_block (w := X) ((h.o h0 b (by rw [e]; rfl)).push (n := n) (c := c) hg hat).2]
 exact hc j hj
theorem IOff.nil (v : Value) (X : World) : IOff v X none [] := ⟨IntsAt.nil _, fun h0 => absurd h0 (Nat.lt_irrefl 0)⟩
theorem IntsAt.off (h : IntsAt X a l) (hv : ∀ k, v.ownBlock = some k → k < n) (hn : 0 < l.length → ∀ b, blockOf a = some b → n ≤ b) : IOff v X a l := by
 refine ⟨h, fun h0 b e => ⟨?_, fun e2 => ?_⟩⟩
 ·obtain ⟨b', off, e', hc⟩ := h.lies h0
  rw [e'] at e
  have : b' = b := by simpa [blockOf] using e
  rw [← this]; exact lt_cell (hc 0 h0)
 ·have := hn h0 b e
  have := hv b e2
  omega
end
structure Cd where
 q : Sb
 n : Nat
 g : Nat
 ca : Option Addr
 cc : Nat
 pa : Option Addr
 pc : Nat
 ea : Option Addr
 ec : Nat
abbrev cdV (e : Cd) : Array Value := #[.int .i64 0, .slice (some ⟨e.g, 0, none⟩) 1 1, .int .i64 (e.n : Int)]
def cdC (e : Cd) : List Value := (cdV e).toList
def rowD (L : List Cd) : List Value := L.flatMap cdC
theorem rowD_app (L M : List Cd) : rowD (L ++ M) = rowD L ++ rowD M := by unfold rowD; rw [List.flatMap_append]
theorem rowD_one (e : Cd) : rowD [e] = cdC e := by simp [rowD]
theorem cdC_len (e : Cd) : (cdC e).length = 3 := rfl
theorem rowD_get (L : List Cd) (j i : Nat) (e : Cd) (hj : L[j]? = some e) (hi : i < 3) : (rowD L)[j * 3 + i]? = (cdC e)[i]? := by
 induction L generalizing j with
 | nil => cases hj
 | cons x t ih =>
  have hx : rowD (x :: t) = cdC x ++ rowD t := by simp [rowD]
  rw [hx]
  cases j with
  | zero =>
   rw [List.getElem?_cons_zero] at hj
   cases hj
   rw [Nat.zero_mul, Nat.zero_add, List.getElem?_append_left (by rw [cdC_len]; exact hi)]
  | succ j =>
   rw [List.getElem?_cons_succ] at hj
   rw [List.getElem?_append_right (by rw [cdC_len]; omega), cdC_len, show (j + 1) * 3 + i - 3 = j * 3 + i by omega]
   exact ih j hj
structure CdAt (X : World) (e : Cd) : Prop where
 box : X.heap[e.g]? = some (.cells (subC e.q e.ca e.cc e.pa e.pc e.ea e.ec) 27 (0, 0))
 sb : SbAt X e.q e.ca e.pa e.ea
 cap : e.q.C.length ≤ e.cc ∧ (e.ca = none → e.cc = 0)
theorem CdAt.below {X X' : World} {e : Cd} (h : CdAt X e) (hb : Below X.heap.size X X') : CdAt X' e := ⟨by rw [hb.block _ (lt_of_block h.box)]; exact h.box, h.sb.below hb, h.cap⟩
structure COff (v : Value) (X : World) (e : Cd) : Prop where
 at_ : CdAt X e
 g : Off v X e.g
 c : IOff v X e.ca e.q.C
 p : IOff v X e.pa e.q.R.P
 e : IOff v X e.ea e.q.R.E
section
variable {v : Value} {X X' w1 : World} {x : Cd} {g n c : Nat}
theorem COff.low (h : COff v X x) (hb : Below X.heap.size X X') : COff v X' x := ⟨h.at_.below hb, h.g.low hb, h.c.low hb, h.p.low hb, h.e.low hb⟩
theorem COff.push (h : COff v X x) (hg : X.grownBy w1 v.ownBlock) (hat : v.ownBlock = some g ∨ g = X.heap.size) : COff (.slice (some ⟨g, 0, none⟩) n c) w1 x := by
 have h1 := h.c.push (n := n) (c := c) hg hat
 have h2 := h.p.push (n := n) (c := c) hg hat
 have h3 := h.e.push (n := n) (c := c) hg hat
 have h4 := h.g.push (n := n) (c := c) hg hat
 refine ⟨⟨by rw [h4.2]; exact h.at_.box, ⟨h1.i, ⟨h2.i, h3.i, h.at_.sb.R.m1, h.at_.sb.R.m2, h.at_.sb.R.o1, h.at_.sb.R.o2⟩, h.at_.sb.k, h.at_.sb.o, h.at_.sb.w, h.at_.sb.p, h.at_.sb.h⟩, h.at_.cap⟩, h4.1, h1, h2, h3⟩
end
structure FrC (n : Nat) (e : Cd) : Prop where
 g : n ≤ e.g
 c : 0 < e.q.C.length → ∀ b, blockOf e.ca = some b → n ≤ b
 p : 0 < e.q.R.P.length → ∀ b, blockOf e.pa = some b → n ≤ b
 e : 0 < e.q.R.E.length → ∀ b, blockOf e.ea = some b → n ≤ b
theorem FrC.mono {n m : Nat} {e : Cd} (h : FrC n e) (hm : m ≤ n) : FrC m e := ⟨Nat.le_trans hm h.g, fun h0 b hb => Nat.le_trans hm (h.c h0 b hb), fun h0 b hb => Nat.le_trans hm (h.p h0 b hb), fun h0 b hb => Nat.le_trans hm (h.e h0 b hb)⟩
theorem CdAt.off {v : Value} {X : World} {e : Cd} {n : Nat} (h : CdAt X e) (hf : FrC n e) (hv : ∀ k, v.ownBlock = some k → k < n) : COff v X e :=
 ⟨h, ⟨lt_of_block h.box, fun e2 => by have h1 := hv _ e2; have h2 := hf.g; omega⟩, h.sb.C.off hv hf.c, h.sb.R.P.off hv hf.p, h.sb.R.E.off hv hf.e⟩
structure CL (w : World) (v : Value) (L : List Cd) (X : World) : Prop where
 own : X.ownsRow w.heap.size 63 3 v L.length (rowD L)
 at_ : ∀ e ∈ L, COff v X e
 fr : ∀ e ∈ L, FrC w.heap.size e
 below : Below w.heap.size w X
section
variable {w X X' w1 : World} {v : Value} {L : List Cd}
theorem CL.nil (w X : World) (h : Below w.heap.size w X) : CL w (.slice none 0 0) [] X := ⟨World.ownsRow_nil _ _ _ _, fun e he => absurd he (by simp), fun e he => absurd he (by simp), h⟩
theorem CL.low (h : CL w v L X) (hb : Below X.heap.size X X') : CL w v L X' := ⟨own_low h.own hb, fun e he => (h.at_ e he).low hb, h.fr, h.below.trans (hb.mono h.below.size)⟩
theorem CL.shape (h : CL w v L X) : ∃ ao cap, v = .slice ao L.length cap := by
 obtain ⟨ao, cap, h1, _⟩ := owns_shape h.own
 exact ⟨ao, cap, h1⟩
theorem CL.own_lt (h : CL w v L X) : ∀ k, v.ownBlock = some k → k < X.heap.size := fun k e => (h.own.lt k e).2
theorem CL.push (h : CL w v L X) (x : Cd) (hx : COff v X x) (hf : FrC w.heap.size x) {g cap : Nat} (ho : w1.ownsRow w.heap.size 63 3 (.slice (some ⟨g, 0, none⟩) (L.length + 1) cap) (L.length + 1) (rowD L ++ cdC x)) (hg : X.grownBy w1 v.ownBlock) (hat : v.ownBlock = some g ∨ g = X.heap.size) : CL w (.slice (some ⟨g, 0, none⟩) (L.length + 1) cap) (L ++ [x]) w1 := by
 refine ⟨by rw [List.length_append, rowD_app, rowD_one]; exact ho, fun e he => ?_, fun e he => ?_, h.below.trans ⟨hg.os, hg.tape, hg.output, hg.size, fun k hk => ?_⟩⟩
 ·rcases List.mem_append.1 he with h1 | h1
  ·exact (h.at_ e h1).push hg hat
  ·rw [List.mem_singleton] at h1; subst h1; exact hx.push hg hat
 ·rcases List.mem_append.1 he with h1 | h1
  ·exact h.fr e h1
  ·rw [List.mem_singleton] at h1; subst h1; exact hf
 ·exact hg.block k (by have := h.below.size; omega) (fun e => by have := (h.own.lt k e.symm).1; omega)
end
def CdsAt (w : World) (b off : Nat) (L : List Cd) : Prop := ∀ j e, L[j]? = some e → w.cell? ⟨b, off + j * 3, none⟩ = some (.int .i64 0) ∧ w.cell? ⟨b, off + j * 3 + 1, none⟩ = some (.slice (some ⟨e.g, 0, none⟩) 1 1) ∧ w.cell? ⟨b, off + j * 3 + 2, none⟩ = some (.int .i64 (e.n : Int))
theorem CdsAt.below {w w' : World} {b off : Nat} {L : List Cd} (h : CdsAt w b off L) (hb : Below w.heap.size w w') : CdsAt w' b off L := fun j e hj => by
 obtain ⟨h0, h1, h2⟩ := h j e hj
 have hk := hb.block b (lt_cell h0)
 exact ⟨by rw [World.cell?_of_block (w := w) hk]; exact h0, by rw [World.cell?_of_block (w := w) hk]; exact h1, by rw [World.cell?_of_block (w := w) hk]; exact h2⟩
theorem cds_row {w : World} {b : Nat} {cs : Array Value} {t : TypeId} {L : List Cd} (h : w.heap[b]? = some (.cells cs t (0, 0))) (hc : ∀ i, i < L.length * 3 → cs[i]? = (rowD L)[i]?) : CdsAt w b 0 L := fun j e hj => by
 have hjl : j < L.length := by
  rcases Nat.lt_or_ge j L.length with h1 | h1
  ·exact h1
  ·rw [List.getElem?_eq_none h1] at hj; cases hj
 refine ⟨?_, ?_, ?_⟩
 ·have h1 := rowD_get L j 0 e hj (by decide)
  rw [cell_of_row _ _ _ _ _ _ h, Nat.zero_add, hc _ (by omega)]; exact h1
 ·have h1 := rowD_get L j 1 e hj (by decide)
  rw [cell_of_row _ _ _ _ _ _ h, Nat.zero_add, hc _ (by omega)]; exact h1
 ·have h1 := rowD_get L j 2 e hj (by decide)
  rw [cell_of_row _ _ _ _ _ _ h, Nat.zero_add, hc _ (by omega)]; exact h1
theorem CL.cds {w X : World} {v : Value} {L : List Cd} (h : CL w v L X) (h0 : 0 < L.length) : ∃ b cap, v = .slice (some ⟨b, 0, none⟩) L.length cap ∧ L.length ≤ cap ∧ CdsAt X b 0 L := by
 rcases h.own.2 with ⟨hv, hn⟩ | ⟨g', cap', cur, hv, _, hg, hle, _, _, ht⟩
 ·obtain ⟨ao, cap, hs⟩ := h.shape
  rw [hv] at hs
  have : (0 : Nat) = L.length := by injection hs
  omega
 ·refine ⟨g', cap', hv, hle, cds_row hg (fun i hi => ?_)⟩
  rw [← ht, List.getElem?_take_of_lt hi, Array.getElem?_toList]
def shoD (a : Cd) (L : List Cd) : Cd := L.foldl (fun a x => if x.n < a.n then x else a) a
abbrev cdP (e : Cd) : Sb × Nat := (e.q, e.n)
theorem shoD_P (L : List Cd) (a : Cd) : cdP (shoD a L) = shoT (cdP a) (L.map cdP) := by
 induction L generalizing a with
 | nil => rfl
 | cons x t ih =>
  have e1 : shoD a (x :: t) = shoD (if x.n < a.n then x else a) t := rfl
  have e2 : shoT (cdP a) ((x :: t).map cdP) = shoT (if (cdP x).2 < (cdP a).2 then cdP x else cdP a) (t.map cdP) := rfl
  rw [e1, e2, ih]
  congr 1
  by_cases hh : x.n < a.n
  ·rw [if_pos hh, if_pos hh]
  ·rw [if_neg hh, if_neg hh]
theorem shoD_mem (L : List Cd) (a : Cd) : shoD a L = a ∨ shoD a L ∈ L := by
 induction L generalizing a with
 | nil => exact Or.inl rfl
 | cons x t ih =>
  have e1 : shoD a (x :: t) = shoD (if x.n < a.n then x else a) t := rfl
  rw [e1]
  rcases ih (if x.n < a.n then x else a) with h | h
  ·by_cases hh : x.n < a.n
   ·rw [if_pos hh] at h ⊢; rw [h]; exact Or.inr (List.mem_cons_self ..)
   ·rw [if_neg hh] at h ⊢; exact Or.inl h
  ·exact Or.inr (List.mem_cons_of_mem _ h)
theorem shoD_take (L : List Cd) (a : Cd) (i : Nat) (e : Cd) (h : L[i]? = some e) : shoD a (L.take (i + 1)) = if e.n < (shoD a (L.take i)).n then e else shoD a (L.take i) := by
 rw [List.take_add_one, h]
 unfold shoD
 rw [List.foldl_append]
 rfl
theorem s3c_a {wx : World} (n : Nat) (v0 v1 v2 : Value) {a0 a1 a2 : Value} {t : TypeId} (h : wx.heap[n]? = some (.cells #[a0, a1, a2] t (0, 0))) : (((wx.setCell ⟨n, 0, none⟩ v0).setCell ⟨n, 1, none⟩ v1).setCell ⟨n, 2, none⟩ v2).heap[n]? = some (.cells #[v0, v1, v2] t (0, 0)) := by
 rw [block_setCell _ _ _ _ _ _ (block_setCell _ _ _ _ _ _ (block_setCell _ _ _ _ _ _ h))]
 simp only [List.setIfInBounds_toArray, List.set_cons_zero, List.set_cons_succ]
theorem s3c_b {wx : World} (n : Nat) (v0 v1 v2 : Value) (w : World) (hn : w.heap.size ≤ n) (h : Below w.heap.size w wx) : Below w.heap.size w (((wx.setCell ⟨n, 0, none⟩ v0).setCell ⟨n, 1, none⟩ v1).setCell ⟨n, 2, none⟩ v2) := ((h.setCell hn _).setCell hn _).setCell hn _
theorem s3c_d {wx : World} (n : Nat) (v0 v1 v2 : Value) (j : Nat) (h0 : j ≠ n) : (((wx.setCell ⟨n, 0, none⟩ v0).setCell ⟨n, 1, none⟩ v1).setCell ⟨n, 2, none⟩ v2).heap[j]? = wx.heap[j]? := by
 rw [Below.heap_setCell _ _ _ j h0, Below.heap_setCell _ _ _ j h0, Below.heap_setCell _ _ _ j h0]
theorem cod_cells {w : World} {g : Nat} {a0 a1 a2 : Value} (h : w.heap[g]? = some (.cells #[a0, a1, a2] 63 (0, 0))) : w.cell? ⟨g, 0, none⟩ = some a0 ∧ w.cell? ⟨g, 1, none⟩ = some a1 ∧ w.cell? ⟨g, 2, none⟩ = some a2 := by
 refine ⟨?_, ?_, ?_⟩ <;> (rw [cell_of_row _ _ _ _ _ _ h]; rfl)
structure SB3 (w : World) (e : Cd) (X : World) : Prop where
 res : X.heap[w.heap.size]? = some (.cells #[.int .i64 0, .slice none 0 0, .int .i64 0] 63 (0, 0))
 best : X.heap[w.heap.size + 1]? = some (.cells (cdV e) 63 (0, 0))
 below : Below w.heap.size w X
theorem SB3.low {w X X' : World} {e : Cd} (h : SB3 w e X) (hb : Below X.heap.size X X') : SB3 w e X' :=
 ⟨by rw [hb.block _ (lt_of_block h.res)]; exact h.res, by rw [hb.block _ (lt_of_block h.best)]; exact h.best, h.below.trans (hb.mono h.below.size)⟩
theorem SB3.new (w : World) (e : Cd) : SB3 w e ((w.alloc (.cells #[.int .i64 0, .slice none 0 0, .int .i64 0] 63)).alloc (.cells (cdV e) 63)) := by
 refine ⟨heap_two _ _ _, ?_, ((Below.refl _ _).alloc (Nat.le_refl _) _).alloc (by simp) _⟩
 have hh := heap_alloc_new (w.alloc (.cells #[.int .i64 0, .slice none 0 0, .int .i64 0] 63)) (.cells (cdV e) 63)
 rw [show (w.alloc (.cells #[.int .i64 0, .slice none 0 0, .int .i64 0] 63)).heap.size = w.heap.size + 1 from by simp] at hh
 exact hh
theorem SB3.put {w X : World} {e : Cd} (h : SB3 w e X) (e' : Cd) : SB3 w e' (((X.setCell ⟨w.heap.size + 1, 0, none⟩ (.int .i64 0)).setCell ⟨w.heap.size + 1, 1, none⟩ (.slice (some ⟨e'.g, 0, none⟩) 1 1)).setCell ⟨w.heap.size + 1, 2, none⟩ (.int .i64 (e'.n : Int))) :=
 ⟨by rw [s3c_d _ _ _ _ _ (by omega)]; exact h.res, s3c_a _ _ _ _ h.best, s3c_b _ _ _ _ w (by omega) h.below⟩
theorem z_shortest (L : List Cd) (e0 : Cd) (h0 : L[0]? = some e0) (hL : L.length ≤ 1000) (b off cap : Nat) (w : World) (hw : CdsAt w b off L) : Calls Tryz.prog 75 #[.slice (some ⟨b, off, none⟩) L.length cap] w fun e w' => e = .returned (.agg (cdV (shoD e0 L))) ∧ Below w.heap.size w w' := by
 have hL0 : 0 < L.length := by
  rcases Nat.lt_or_ge 0 L.length with h1 | h1
  ·exact h1
  ·rw [List.getElem?_eq_none h1] at h0; cases h0
 have HW : Hid (∀ wx, Below w.heap.size w wx → CdsAt wx b off L) := fun wx hb => hw.below hb
 obtain ⟨c0, c1, c2⟩ := HW.out _ (show Below w.heap.size w (w.alloc (.cells #[.int .i64 0, .slice none 0 0, .int .i64 0] 63)) from (Below.refl _ _).alloc (Nat.le_refl _) _) 0 e0 h0
 rw [Nat.zero_mul, Nat.add_zero] at c0 c1 c2
 have HA : Hid (SB3 w e0 ((w.alloc (.cells #[.int .i64 0, .slice none 0 0, .int .i64 0] 63)).alloc (.cells (cdV e0) 63))) := SB3.new w e0
 clear hw h0
 go_enter Tryz.func75, Tryz.ntmps75
 go_upto_region 2 with fail
 generalize hwa : World.alloc _ _ = wa at *
 clear hwa
 go_wp2_with fail
 go_loopw [5, 11] (fun s5 s11 wr => ∃ i : Nat, i ≤ L.length ∧ s11 = .int .i64 (i : Int) ∧ SB3 w (shoD e0 (L.take i)) wr) (fun _ s11 _ => L.length - (intOf s11).toNat)
 case atStart => exact ⟨0, Nat.zero_le _, rfl, HA.out⟩
 case round =>
  clear HA c0 c1 c2
  obtain ⟨i, hi, rfl, hsb⟩ := hrel
  have HSB : Hid (SB3 w (shoD e0 (L.take i)) wr) := hsb
  clear hsb
  by_cases hlt : i < L.length
  ·obtain ⟨e, he⟩ : ∃ e, L[i]? = some e := ⟨_, List.getElem?_eq_getElem hlt⟩
   have HN : Hid (shoD e0 (L.take (i + 1)) = if e.n < (shoD e0 (L.take i)).n then e else shoD e0 (L.take i)) := shoD_take L e0 i e he
   obtain ⟨d0, d1, d2⟩ := HW.out wr HSB.out.below i e he
   clear he
   generalize shoD e0 (L.take i) = E at *
   have HX : Hid (SB3 w E (wr.alloc (.cells (cdV e) 63))) := HSB.out.low ((Below.refl _ _).alloc (Nat.le_refl _) _)
   have HC : Hid ((wr.alloc (.cells (cdV e) 63)).heap[wr.heap.size]? = some (.cells (cdV e) 63 (0, 0))) := heap_alloc_new _ _
   clear HSB
   go_upto_region 5 with fail
   generalize hwc : World.alloc _ _ = wc at *
   generalize hgc : wr.heap.size = gc at *
   clear hwc hgc d0 d1 d2
   obtain ⟨y0, y1, y2⟩ := cod_cells HC.out
   obtain ⟨z0, z1, z2⟩ := cod_cells HX.out.best
   have fz : ∀ j, wc.frozen? ⟨w.heap.size + 1, j, none⟩ = false := fun j => row_frozen HX.out.best j
   have fz0 := fz 0
   have fz1 := fz 1
   have fz2 := fz 2
   clear fz
   by_cases hn : e.n < E.n
   ·have hb : e.n < E.n := hn
    have HP : Hid (SB3 w (shoD e0 (L.take (i + 1))) (((wc.setCell ⟨w.heap.size + 1, 0, none⟩ (.int .i64 0)).setCell ⟨w.heap.size + 1, 1, none⟩ (.slice (some ⟨e.g, 0, none⟩) 1 1)).setCell ⟨w.heap.size + 1, 2, none⟩ (.int .i64 (e.n : Int)))) := by
     rw [HN.out, if_pos hn]; exact HX.out.put e
    clear hn HN HX
    go_wp2_with fail
    go_roundw
    case rel => exact ⟨i + 1, by omega, by go_num, HP.out⟩
    case measure => simp [intOf]; omega
   ·have hb : ¬ e.n < E.n := hn
    have HP : Hid (SB3 w (shoD e0 (L.take (i + 1))) wc) := by rw [HN.out, if_neg hn]; exact HX.out
    clear hn HN HX
    go_wp2_with fail
    go_roundw
    case rel => exact ⟨i + 1, by omega, by go_num, HP.out⟩
    case measure => simp [intOf]; omega
  ·have hil : i = L.length := by omega
   subst hil
   rw [List.take_length] at HSB
   obtain ⟨E, hE⟩ : ∃ E, E = shoD e0 L := ⟨_, rfl⟩
   rw [← hE] at HSB
   have HE : Hid (shoD e0 L = E) := hE.symm
   clear hE
   obtain ⟨z0, z1, z2⟩ := cod_cells HSB.out.best
   obtain ⟨u0, u1, u2⟩ := cod_cells HSB.out.res
   have fz0 := row_frozen HSB.out.res 0
   have fz1 := row_frozen HSB.out.res 1
   have fz2 := row_frozen HSB.out.res 2
   go_wp2_with fail
   generalize hwf : World.setCell _ _ _ = wf
   have hrow : wf.heap[w.heap.size]? = some (.cells (cdV E) 63 (0, 0)) := by rw [← hwf]; exact s3c_a _ _ _ _ HSB.out.res
   have hbel : Below w.heap.size w wf := by rw [← hwf]; exact s3c_b _ _ _ _ w (Nat.le_refl _) HSB.out.below
   refine bodyPost_ret (v := .agg (cdV E)) ?_ rfl ⟨by rw [HE.out], hbel⟩
   rw [results_one rfl]
   have hld := run_loadVar_row (P := Tryz.prog) (wf) (w.heap.size) 63 63 (cdV E) (0, 0) _ hrow Tryz.underlying63 rfl info_coding
   simp [asAddr, Result.andThen, hld]
def CapK (L : List El) : Prop := ∀ e ∈ L, e.q.C.length ≤ e.cc ∧ (e.ca = none → e.cc = 0)
theorem CapK.app {L M : List El} (h : CapK L) (h2 : CapK M) : CapK (L ++ M) := fun e he => by
 rcases List.mem_append.1 he with h1 | h1
 ·exact h e h1
 ·exact h2 e h1
theorem CapK.one (q : Sb) (a : Option Addr) (c : Nat) (h : q.C.length ≤ c) (h2 : a = none → c = 0) : CapK [⟨q, a, c⟩] := fun e he => by
 rw [List.mem_singleton] at he; subst he; exact ⟨h, h2⟩
theorem z_pred0 (lv : Int) (hlv : lv = 0) (w : World) : Calls Tryz.prog 142 #[.int .i64 lv] w fun e w' => ∃ so cap L, e = .returned (.slice so L.length cap) ∧ TS w (.slice so L.length cap) L w' ∧ L.map (·.q) = trL lv 0 ∧ CapK L := by
 obtain ⟨iS, hSa, hSb, hSc, hSd⟩ := sub_info12
 have km := z_maxFixed lv
 subst hlv
 rw [if_pos rfl] at km
 go_enter Tryz.func142, Tryz.ntmps142
 go_wp2_with fail
 refine (km _).mono ?_
 rintro e w2 ⟨rfl, hw2⟩
 subst hw2
 clear km
 go_wp2_with fail
 go_loopw [3, 4, 8] (fun s3 s4 s8 wr => ∃ (j : Nat) (v : Value) (L : List El), j ≤ 3 ∧ s8 = .int .i64 (j : Int) ∧ s3 = v ∧ L.map (·.q) = (List.range j).map (fxS 0) ∧ CapK L ∧ TS w2 v L wr) (fun _ _ s8 _ => 3 - (intOf s8).toNat)
 case atStart => exact ⟨0, _, [], by omega, rfl, rfl, rfl, fun e he => absurd he (by simp), TS.nil w2⟩
 case round =>
  obtain ⟨j, v, L, hj, rfl, rfl, hmap, hcap, hts⟩ := hrel
  have HMP : Hid (L.map (·.q) = (List.range j).map (fxS 0)) := hmap
  have HCK : Hid (CapK L) := hcap
  obtain ⟨oa, oc, rfl⟩ := hts.shape
  have HTS : Hid (TS w2 (.slice oa L.length oc) L wr) := hts
  have hLl : L.length = j := by have := congrArg List.length hmap; simpa using this
  clear hts hmap hcap
  by_cases hlt : j < 3
  ·have hL5 : L.length ≤ 10 := by omega
   have HLL : Hid (L.length = j) := hLl
   clear hLl
   go_wp2_with (at_builtin; refine wpList_append_lies _ rfl (.tmp 11) (.tmp 14) 39 rfl w2.heap.size 27 iS (.agg (subC ⟨0, 0, 0, 0, 0, [], R00⟩ none 0 none 0 none 0)) 10 128 undSubs12 hSa hSb hSc hSd rfl (by decide) (.slice oa L.length oc) L.length (rowC L) rfl (HTS.out.low ((Below.refl _ _).alloc (Nat.le_refl _) _)).own ⟨wr.heap.size, 0, none⟩ 1 1 ((subC (fxS 0 j) none 0 none 0 none 0)).toList rfl rfl (World.news_of_block (cs := (subC (fxS 0 j) none 0 none 0 none 0)) (t := 27) (fr := (0, 0)) (heap_alloc_new _ _)) (by intro u hu; simp at hu; rcases hu with h | h | h | h | h | h | h | h | h | h <;> (rw [h]; rfl)) (by decide) (by unfold maxLen; omega) (by omega) (HTS.out.low ((Below.refl _ _).alloc (Nat.le_refl _) _)).below.size _ rfl ?_; intro gA cA wA ownA groA hatA hltA)
   have HPA : Hid (TS w2 (.slice (some ⟨gA, 0, none⟩) (L.length + 1) cA) (L ++ [⟨fxS 0 j, none, 0⟩]) wA) := (HTS.out.low ((Below.refl _ _).alloc (Nat.le_refl _) _)).push (M := [⟨fxS 0 j, none, 0⟩]) (by rw [rowC_one]; exact ownA) groA hatA (fun e he => by
    rw [List.mem_singleton] at he; subst he; exact ⟨IntsAt.nil _, fun h0 => absurd h0 (Nat.lt_irrefl 0)⟩)
   have HM2 : Hid ((L ++ [(⟨fxS 0 j, none, 0⟩ : El)]).map (·.q) = (List.range (j + 1)).map (fxS 0)) := by
    show _ = _
    rw [List.map_append, HMP.out, List.range_succ, List.map_append]; rfl
   have HC2 : Hid (CapK (L ++ [(⟨fxS 0 j, none, 0⟩ : El)])) := HCK.out.app (CapK.one _ _ _ (Nat.le_refl _) (fun _ => rfl))
   clear ownA groA hatA hltA
   go_wp2_with fail
   go_roundw
   case rel => exact ⟨j + 1, _, _, by omega, by go_num, rfl, HM2.out, HC2.out, HPA.out⟩
   case measure => simp [intOf]; omega
  ·have hjK : j = 3 := by omega
   subst hjK
   go_wp2_with fail
   go_ret
   exact ⟨oa, oc, L, rfl, HTS.out, by rw [HMP.out]; unfold trL; rw [if_neg (by decide), if_neg (by decide)]; simp, HCK.out⟩
theorem z_pred1 (lv : Int) (hlv : lv = 1) (w : World) : Calls Tryz.prog 142 #[.int .i64 lv] w fun e w' => ∃ so cap L, e = .returned (.slice so L.length cap) ∧ TS w (.slice so L.length cap) L w' ∧ L.map (·.q) = trL lv 0 ∧ CapK L := by
 obtain ⟨iS, hSa, hSb, hSc, hSd⟩ := sub_info12
 have km := z_maxFixed lv
 subst hlv
 rw [if_neg (by decide)] at km
 go_enter Tryz.func142, Tryz.ntmps142
 go_wp2_with fail
 refine (km _).mono ?_
 rintro e w2 ⟨rfl, hw2⟩
 subst hw2
 clear km
 go_wp2_with fail
 go_loopw [3, 4, 8] (fun s3 s4 s8 wr => ∃ (j : Nat) (v : Value) (L : List El), j ≤ 5 ∧ s8 = .int .i64 (j : Int) ∧ s3 = v ∧ L.map (·.q) = (List.range j).map (fxS 0) ∧ CapK L ∧ TS w2 v L wr) (fun _ _ s8 _ => 5 - (intOf s8).toNat)
 case atStart => exact ⟨0, _, [], by omega, rfl, rfl, rfl, fun e he => absurd he (by simp), TS.nil w2⟩
 case round =>
  obtain ⟨j, v, L, hj, rfl, rfl, hmap, hcap, hts⟩ := hrel
  have HMP : Hid (L.map (·.q) = (List.range j).map (fxS 0)) := hmap
  have HCK : Hid (CapK L) := hcap
  obtain ⟨oa, oc, rfl⟩ := hts.shape
  have HTS : Hid (TS w2 (.slice oa L.length oc) L wr) := hts
  have hLl : L.length = j := by have := congrArg List.length hmap; simpa using this
  clear hts hmap hcap
  by_cases hlt : j < 5
  ·have hL5 : L.length ≤ 10 := by omega
   have HLL : Hid (L.length = j) := hLl
   clear hLl
   go_wp2_with (at_builtin; refine wpList_append_lies _ rfl (.tmp 11) (.tmp 14) 39 rfl w2.heap.size 27 iS (.agg (subC ⟨0, 0, 0, 0, 0, [], R00⟩ none 0 none 0 none 0)) 10 128 undSubs12 hSa hSb hSc hSd rfl (by decide) (.slice oa L.length oc) L.length (rowC L) rfl (HTS.out.low ((Below.refl _ _).alloc (Nat.le_refl _) _)).own ⟨wr.heap.size, 0, none⟩ 1 1 ((subC (fxS 0 j) none 0 none 0 none 0)).toList rfl rfl (World.news_of_block (cs := (subC (fxS 0 j) none 0 none 0 none 0)) (t := 27) (fr := (0, 0)) (heap_alloc_new _ _)) (by intro u hu; simp at hu; rcases hu with h | h | h | h | h | h | h | h | h | h <;> (rw [h]; rfl)) (by decide) (by unfold maxLen; omega) (by omega) (HTS.out.low ((Below.refl _ _).alloc (Nat.le_refl _) _)).below.size _ rfl ?_; intro gA cA wA ownA groA hatA hltA)
   have HPA : Hid (TS w2 (.slice (some ⟨gA, 0, none⟩) (L.length + 1) cA) (L ++ [⟨fxS 0 j, none, 0⟩]) wA) := (HTS.out.low ((Below.refl _ _).alloc (Nat.le_refl _) _)).push (M := [⟨fxS 0 j, none, 0⟩]) (by rw [rowC_one]; exact ownA) groA hatA (fun e he => by
    rw [List.mem_singleton] at he; subst he; exact ⟨IntsAt.nil _, fun h0 => absurd h0 (Nat.lt_irrefl 0)⟩)
   have HM2 : Hid ((L ++ [(⟨fxS 0 j, none, 0⟩ : El)]).map (·.q) = (List.range (j + 1)).map (fxS 0)) := by
    show _ = _
    rw [List.map_append, HMP.out, List.range_succ, List.map_append]; rfl
   have HC2 : Hid (CapK (L ++ [(⟨fxS 0 j, none, 0⟩ : El)])) := HCK.out.app (CapK.one _ _ _ (Nat.le_refl _) (fun _ => rfl))
   clear ownA groA hatA hltA
   go_wp2_with fail
   go_roundw
   case rel => exact ⟨j + 1, _, _, by omega, by go_num, rfl, HM2.out, HC2.out, HPA.out⟩
   case measure => simp [intOf]; omega
  ·have hjK : j = 5 := by omega
   subst hjK
   go_wp2_with fail
   go_ret
   exact ⟨oa, oc, L, rfl, HTS.out, by rw [HMP.out]; unfold trL; rw [if_pos (by decide), if_neg (by decide)]; simp, HCK.out⟩
end Go.Proofs.YthgpleelpeacjaaGreatDoor
