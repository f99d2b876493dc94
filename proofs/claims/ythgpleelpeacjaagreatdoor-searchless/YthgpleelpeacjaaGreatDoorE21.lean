/- Own text. -/
import Derived.Test.YthgpleelpeacjaaGreatDoorE20
set_option linter.unusedSimpArgs false
set_option linter.unusedVariables false
set_option maxRecDepth 20000
set_option maxHeartbeats 12800000
namespace Go.Proofs.YthgpleelpeacjaaGreatDoor
open Go.RowKit
theorem lfR_eq (lv : Int) (q0 : Sb) (h : q0 ∈ trL lv 0) (m : List Int) : lfR q0 m = if q0.o ≤ (m.length : Int) then some (resN q0 m) else none := by
 obtain ⟨ht, hk⟩ := trL_tried lv 0 q0 h
 have h4 := tried_o 0 q0 ht
 rcases hk with k2 | k3
 ·unfold lfR fixR resN
  rw [if_pos k2, if_pos k2]
  by_cases ho : q0.o ≤ (m.length : Int)
  ·rw [if_pos ho, if_pos ⟨h4.1, h4.2, ho⟩]
  ·rw [if_neg ho, if_neg (fun h => ho h.2.2)]
 ·obtain ⟨C, hC, rfl⟩ : ∃ C ∈ lpcs, q0 = lpS 0 C := by
   rcases ht with h | h | ⟨o, _, h⟩ | h
   ·rw [h] at k3; exact absurd k3 (by decide)
   ·rw [h] at k3; exact absurd k3 (by show ¬ (1 : Int) = 3; decide)
   ·rw [h] at k3; exact absurd k3 (by show ¬ (2 : Int) = 3; decide)
   ·exact h
  have hm : mayB C 5 = true := by
   rcases List.mem_cons.1 hC with rfl | hC
   ·decide
   rcases List.mem_cons.1 hC with rfl | hC
   ·decide
   rcases List.mem_cons.1 hC with rfl | hC
   ·decide
   cases hC
  have n2 : ¬ (lpS 0 C).k = 2 := by rw [k3]; decide
  unfold lfR resN
  rw [if_neg n2, if_neg n2]
  unfold lpcR
  show (if mayB C 5 = true ∧ C.length ≤ m.length then some (leftN C (5 : Int).toNat m (m.length - C.length)) else none) = if (C.length : Int) ≤ (m.length : Int) then some (leftN C (5 : Int).toNat m (m.length - (C.length : Int).toNat)) else none
  by_cases ho : C.length ≤ m.length
  ·rw [if_pos ⟨hm, ho⟩, if_pos (by omega), Int.toNat_natCast]
  ·rw [if_neg (fun h => ho h.2), if_neg (by omega)]
theorem wiW_tried (lv w : Int) (q0 : Sb) (h : q0 ∈ trL lv 0) : wiW w q0 ∈ trL lv w := by
 rw [trL_w]; exact List.mem_map.2 ⟨q0, h, rfl⟩
theorem pr_no (lv v : Int) (l : List Int) (q0 : Sb) (h : q0 ∈ trL lv 0) (ho : ¬ q0.o ≤ (l.length : Int)) : lfR q0 (shrL l (wasN l)) = none ∧ opS v l (shrL l (wasN l)) (wiW (wasN l : Int) q0) = none := by
 obtain ⟨ht, hk⟩ := trL_tried lv 0 q0 h
 refine ⟨by rw [lfR_eq lv q0 h, shrL_ln, if_neg ho], ?_⟩
 have hv : ¬ vaB (wiW (wasN l : Int) q0) l = true := by
  unfold vaB wiW
  dsimp only
  rw [if_neg (by omega), if_neg (by omega), decide_eq_true_iff]
  exact ho
 unfold opS
 rw [if_neg hv]
theorem pr_yes (lv v : Int) (l : List Int) (q0 : Sb) (h : q0 ∈ trL lv 0) (ho : q0.o ≤ (l.length : Int)) (hv : 1 ≤ v ∧ v ≤ 33) (hn1 : 1 ≤ l.length) (hn2 : l.length ≤ 65535) (hfit : ∀ x ∈ l, sigE x v = 0) :
  ∃ (R : List Int) (rc : Rc) (nb p cf N r : Nat), lfR q0 (shrL l (wasN l)) = some R ∧ (ShY R ∧ R.length = (shrL l (wasN l)).length - r ∧ q0.o = (r : Int) ∧ r ≤ 4 ∧ r ≤ (shrL l (wasN l)).length) ∧ (rc = bestRc R (shrL l (wasN l)).length r (bestK (ordS R (shrL l (wasN l)).length r) (fnO (shrL l (wasN l)).length r)) ∧ nb = ordS R (shrL l (wasN l)).length r (bestK (ordS R (shrL l (wasN l)).length r) (fnO (shrL l (wasN l)).length r))) ∧ (nb ≤ 18000000000000 ∧ p ≤ 1000 ∧ cf ≤ 1000) ∧ q0.o * ((v.toNat - wasN l : Nat) : Int) = (p : Int) ∧ (cf : Int) = (if q0.k = 2 then 0 else 9 + q0.o * q0.p) ∧ I64 (q0.o * q0.p) ∧ N = 8 + wasN l + (p + cf + nb) ∧ opS v l (shrL l (wasN l)) (wiW (wasN l : Int) q0) = some (⟨q0.k, q0.o, (wasN l : Int), q0.p, q0.h, q0.C, rc⟩, N) := by
 obtain ⟨ht0, hk⟩ := trL_tried lv 0 q0 h
 obtain ⟨ht, _⟩ := trL_tried lv (wasN l : Int) _ (wiW_tried lv (wasN l : Int) q0 h)
 have h4 := tried_o 0 q0 ht0
 have hln := shrL_ln l (wasN l)
 have hm := shr_small l v hv.1 hv.2 hfit
 have hw := was_lt l v hv.1 hfit
 obtain ⟨hs, hlen⟩ := tried_res _ _ ht hk (shrL l (wasN l)) hm (by omega)
 have hres : resN (wiW (wasN l : Int) q0) (shrL l (wasN l)) = resN q0 (shrL l (wasN l)) := rfl
 rw [hres] at hs hlen
 have ho' : (wiW (wasN l : Int) q0).o = q0.o := rfl
 rw [ho'] at hlen
 have hbits := sub_bits l v _ ht ho hv hn1 hn2 hfit
 have hric := (tried_rice l v _ ht hk ho hv hn1 hn2 hfit).1
 have hwi := wiS_k (wiW (wasN l : Int) q0) (shrL l (wasN l))
 have hvb : vaB (wiW (wasN l : Int) q0) l = true := by
  unfold vaB wiW
  dsimp only
  rw [if_neg (by omega), if_neg (by omega), decide_eq_true_iff]
  exact ho
 have hzz : wiS (wiW (wasN l : Int) q0) (shrL l (wasN l)) = ⟨q0.k, q0.o, (wasN l : Int), q0.p, q0.h, q0.C, brN l.length q0.o.toNat (resN q0 (shrL l (wasN l)))⟩ := by
  have e0 : (wiW (wasN l : Int) q0).k = q0.k := rfl
  unfold wiS
  rw [if_neg (by rw [e0]; omega), hln]
  rfl
 have hcf : (q0.k = 2 ∧ 0 ≤ q0.o * q0.p ∧ q0.o * q0.p ≤ 100) ∨ (q0.k = 3 ∧ q0.p = 7) := by
  rcases ht0 with h | h | ⟨o, _, h⟩ | ⟨C, hC, h⟩
  ·rw [h] at hk; exact absurd hk (by show ¬ ((0 : Int) = 2 ∨ (0 : Int) = 3); decide)
  ·rw [h] at hk; exact absurd hk (by show ¬ ((1 : Int) = 2 ∨ (1 : Int) = 3); decide)
  ·left; rw [h]; refine ⟨rfl, ?_⟩
   have e : (fxS 0 o).p = 0 := rfl
   rw [e, Int.mul_zero]; exact ⟨by decide, by decide⟩
  ·right; rw [h]; exact ⟨rfl, rfl⟩
 obtain ⟨r, hr⟩ : ∃ r : Nat, q0.o = (r : Int) := ⟨q0.o.toNat, by omega⟩
 have hrt : q0.o.toNat = r := by omega
 refine ⟨resN q0 (shrL l (wasN l)), brN l.length r (resN q0 (shrL l (wasN l))), _, r * (v.toNat - wasN l), if q0.k = 2 then 0 else 9 + r * 7, _, r, by rw [lfR_eq lv q0 h, hln, if_pos ho], ⟨hs, by rw [hlen, hrt], hr, by omega, by omega⟩, ⟨by unfold brN; rw [hln], rfl⟩, ⟨?_, ?_, ?_⟩, by rw [hr]; simp, ?_, ?_, rfl, ?_⟩
 ·have hk4 := bestK_le (ordS (resN q0 (shrL l (wasN l))) (shrL l (wasN l)).length r) (fnO (shrL l (wasN l)).length r)
  have hf4 := (fnO_best (shrL l (wasN l)).length r (by omega) (by omega) (by omega) (by omega)).1
  exact ordS_top _ hs _ _ _ (by omega)
 ·have h1 : r ≤ 4 := by omega
  have h2 : v.toNat - wasN l ≤ 33 := by omega
  exact Nat.le_trans (Nat.mul_le_mul h1 h2) (by decide)
 ·split <;> omega
 ·rcases hcf with ⟨k2, _⟩ | ⟨k3, p7⟩
  ·rw [if_pos k2, if_pos k2]; rfl
  ·rw [if_neg (by omega), if_neg (by omega), p7, hr]; simp
 ·rcases hcf with ⟨k2, h1, h2⟩ | ⟨k3, p7⟩
  ·exact ⟨by omega, by omega⟩
  ·rw [p7, hr]; exact ⟨by omega, by omega⟩
 ·unfold opS
  rw [if_pos hvb, hbits, hzz, hrt]
  congr 2
  unfold blN
  have e0 : (wiW (wasN l : Int) q0).k = q0.k := rfl
  rw [e0, ho', hrt, hres, if_neg (by omega), if_neg (by omega)]
theorem cs_yes (v : Int) (l : List Int) (hs : l.all (fun x => x == l.getD 0 0) = true) (hv : 1 ≤ v ∧ v ≤ 33) (hn1 : 1 ≤ l.length) (hn2 : l.length ≤ 65535) (hfit : ∀ x ∈ l, sigE x v = 0) : opS v l (shrL l (wasN l)) (cnS (wasN l : Int)) = some (cnS (wasN l : Int), 8 + wasN l + (v.toNat - wasN l)) := by
 have hb := sub_bits l v _ (Or.inl rfl) (by show (0 : Int) ≤ _; omega) hv hn1 hn2 hfit
 have h1 : wiS (cnS (wasN l : Int)) (shrL l (wasN l)) = cnS (wasN l : Int) := by unfold wiS; exact if_pos (Or.inl rfl)
 rw [h1] at hb
 have hva : vaB (cnS (wasN l : Int)) l = true := by unfold vaB; rw [if_pos (show (cnS _).k = 0 from rfl)]; exact hs
 unfold opS
 rw [if_pos hva, h1, hb]
 rfl
theorem cs_no (v : Int) (l m : List Int) (w : Int) (hs : ¬ l.all (fun x => x == l.getD 0 0) = true) : opS v l m (cnS w) = none := by
 have hva : ¬ vaB (cnS w) l = true := by unfold vaB; rw [if_pos (show (cnS _).k = 0 from rfl)]; exact hs
 unfold opS
 rw [if_neg hva]
theorem vb_bits (v : Int) (l : List Int) (hv : 1 ≤ v ∧ v ≤ 33) (hn1 : 1 ≤ l.length) (hn2 : l.length ≤ 65535) (hfit : ∀ x ∈ l, sigE x v = 0) : (subB (vbS (wasN l : Int)) v l).length = 8 + wasN l + (shrL l (wasN l)).length * (v.toNat - wasN l) := by
 have hb := sub_bits l v _ (Or.inr (Or.inl rfl)) (by show (0 : Int) ≤ _; omega) hv hn1 hn2 hfit
 have h1 : wiS (vbS (wasN l : Int)) (shrL l (wasN l)) = vbS (wasN l : Int) := by unfold wiS; exact if_pos (Or.inr rfl)
 rw [h1] at hb
 rw [hb]
 rfl
end Go.Proofs.YthgpleelpeacjaaGreatDoor
