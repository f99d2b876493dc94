/- Own text. -/
import Derived.Test.YthgpleelpeacjaaGreatDoorE4
import Derived.Deep.OwnRows
import Derived.Below
import Derived.Deep.RegionHeld
import Derived.Deep.RegionHeld3
import Derived.Deep.CutRange
import Derived.Deep.RegionWith
import Derived.Deep.LoopGhost
set_option linter.unusedSimpArgs false
set_option linter.unusedVariables false
set_option maxRecDepth 20000
set_option maxHeartbeats 12800000
namespace Go.Proofs.YthgpleelpeacjaaGreatDoor
open Go.RowKit
def asU (n : Int) : Nat := (n % 18446744073709551616).toNat
theorem asU_lt (n : Int) : asU n < 18446744073709551616 := by unfold asU; omega
theorem asU_wrap (n : Int) : IntKind.u64.wrap n = (asU n : Int) := by rw [IntKind.wrap_u64]; unfold asU; omega
theorem wunary_bad (p : Nat) (n : Int) (hn : n < 0 ∨ 16777216 < n) (w : World) : Calls Tryz.prog 131 #[.pointer (some ⟨p, 0, none⟩), .int .i64 n] w fun e w' => e = .returned (.int .i64 11) ∧ w' = w := by
 rcases hn with hn | hn
 ·go_enter Tryz.func131, Tryz.ntmps131
  go_wp2
  go_ret
  exact ⟨rfl, rfl⟩
 ·go_enter Tryz.func131, Tryz.ntmps131
  go_wp2
  go_ret
  exact ⟨rfl, rfl⟩
theorem wunary_ok (p n : Nat) (hn : n ≤ 16777216) (w : World) (ao : Option Addr) (B : List Nat) (h01 : Bits01 B) (hB : B.length ≤ 9000000000000) (hw : WrB w p ao B) :
  Calls Tryz.prog 131 #[.pointer (some ⟨p, 0, none⟩), .int .i64 (n : Int)] w fun e w' =>
   e = .returned (.int .i64 0) ∧ ∃ ao', WrB w' p ao' (B ++ List.replicate n 0 ++ [1]) ∧ Stays (foot p ao) w w' ∧ Moved w.heap.size ao ao' := by
 go_enter Tryz.func131, Tryz.ntmps131
 go_wp2_with (go_at_call 175; refine (unary_spec p n hn w ao B h01 hB hw).mono ?_; rintro e w' ⟨rfl, ao', h1, h2, h3⟩)
 go_ret
 exact ⟨rfl, ao', h1, h2, h3⟩
theorem wsigned_width (p : Nat) (n k : Int) (hk : k < 1 ∨ 64 < k) (w : World) : Calls Tryz.prog 176 #[.pointer (some ⟨p, 0, none⟩), .int .i64 n, .int .i64 k] w fun e w' => e = .returned (.int .i64 11) ∧ w' = w := by
 rcases hk with hk | hk
 ·go_enter Tryz.func176, Tryz.ntmps176
  go_wp2
  go_ret
  exact ⟨rfl, rfl⟩
 ·go_enter Tryz.func176, Tryz.ntmps176
  go_wp2
  go_ret
  exact ⟨rfl, rfl⟩
theorem sign_div (n : Int) (m : Nat) : (n / 2 ^ m = 0 ↔ 0 ≤ n ∧ n < 2 ^ m) ∧ (n / 2 ^ m = -1 ↔ -2 ^ m ≤ n ∧ n < 0) := by
 have hp : 0 < (2 : Int) ^ m := Int.pow_pos (by decide)
 have h1 := Int.emod_nonneg n (Int.ne_of_gt hp)
 have h2 := Int.emod_lt_of_pos n hp
 have h3 := Int.mul_ediv_add_emod n (2 ^ m)
 generalize (2 : Int) ^ m = A at *
 generalize n % A = r at *
 generalize n / A = q at *
 constructor
 ·constructor
  ·rintro rfl; simp at h3; omega
  ·intro ⟨ha, hb⟩
   rcases Int.lt_trichotomy q 0 with h | h | h
   ·have : A * q ≤ A * (-1) := Int.mul_le_mul_of_nonneg_left (by omega) (by omega)
    omega
   ·exact h
   ·have : A * 1 ≤ A * q := Int.mul_le_mul_of_nonneg_left (by omega) (by omega)
    omega
 ·constructor
  ·rintro rfl; omega
  ·intro ⟨ha, hb⟩
   rcases Int.lt_trichotomy q (-1) with h | h | h
   ·have : A * q ≤ A * (-2) := Int.mul_le_mul_of_nonneg_left (by omega) (by omega)
    omega
   ·exact h
   ·have : A * 0 ≤ A * q := Int.mul_le_mul_of_nonneg_left (by omega) (by omega)
    omega
theorem wsigned_bad (p : Nat) (n : Int) (k : Nat) (h1 : 1 ≤ k) (hk : k ≤ 64) (hb : n < -2 ^ (k - 1) ∨ 2 ^ (k - 1) ≤ n) (w : World) :
  Calls Tryz.prog 176 #[.pointer (some ⟨p, 0, none⟩), .int .i64 n, .int .i64 (k : Int)] w fun e w' => e = .returned (.int .i64 11) ∧ w' = w := by
 have hd := sign_div n (k - 1)
 have hp : 0 < (2 : Int) ^ (k - 1) := Int.pow_pos (by decide)
 have e0 : (n / 2 ^ (k - 1) != 0) = true := by simp only [bne_iff_ne, ne_eq, hd.1]; omega
 have e1 : (n / 2 ^ (k - 1) != -1) = true := by simp only [bne_iff_ne, ne_eq, hd.2]; omega
 clear hd hp hb
 go_enter Tryz.func176, Tryz.ntmps176
 go_wp2
 go_ret
 exact ⟨rfl, rfl⟩
theorem wsigned_ok (p : Nat) (n : Int) (k : Nat) (h1 : 1 ≤ k) (hk : k ≤ 64) (hb1 : -2 ^ (k - 1) ≤ n) (hb2 : n < 2 ^ (k - 1)) (w : World) (ao : Option Addr) (B : List Nat) (h01 : Bits01 B) (hB : B.length ≤ 9000000000000) (hw : WrB w p ao B) :
  Calls Tryz.prog 176 #[.pointer (some ⟨p, 0, none⟩), .int .i64 n, .int .i64 (k : Int)] w fun e w' =>
   e = .returned (.int .i64 0) ∧ ∃ ao', WrB w' p ao' (B ++ bitsOf (asU n) k) ∧ Stays (foot p ao) w w' ∧ Moved w.heap.size ao ao' := by
 have hd := sign_div n (k - 1)
 have hwr := asU_wrap n
 by_cases hn : 0 ≤ n
 ·have e0 : n / 2 ^ (k - 1) = 0 := hd.1.2 ⟨hn, hb2⟩
  clear hd hb1 hb2
  go_enter Tryz.func176, Tryz.ntmps176
  go_wp2_with fail
  refine (put_spec p (asU n) k (asU_lt n) hk w ao B h01 (by omega) hw).mono ?_
  rintro e w' ⟨rfl, ao', h1, h2, h3⟩
  go_wp2
  go_ret
  exact ⟨rfl, ao', h1, h2, h3⟩
 ·have e0 : n / 2 ^ (k - 1) = -1 := hd.2.2 ⟨hb1, by omega⟩
  clear hd hb1 hb2
  go_enter Tryz.func176, Tryz.ntmps176
  go_wp2_with fail
  refine (put_spec p (asU n) k (asU_lt n) hk w ao B h01 (by omega) hw).mono ?_
  rintro e w' ⟨rfl, ao', h1, h2, h3⟩
  go_wp2
  go_ret
  exact ⟨rfl, ao', h1, h2, h3⟩
theorem fits_in (n : Int) (h1 : -9223372036854775808 ≤ n) (h2 : n ≤ 9223372036854775807) (k : Nat) (hk1 : 1 ≤ k) (hk : k ≤ 64) (w : World) :
  Calls Tryz.prog 29 #[.int .i64 n, .int .i64 (k : Int)] w fun e w' => e = .returned (.bool (decide (-2 ^ (k - 1) ≤ n ∧ n < 2 ^ (k - 1)))) ∧ w' = w := by
 by_cases h64 : k = 64
 ·subst h64
  go_enter Tryz.func29, Tryz.ntmps29
  go_wp2
  go_ret
  refine ⟨ret_bool ?_, rfl⟩
  symm
  rw [decide_eq_true_iff]
  have e : (2 : Int) ^ (64 - 1) = 9223372036854775808 := by decide
  rw [e]
  omega
 ·have h62 : (2 : Nat) ^ (k - 1) ≤ 2 ^ 62 := pow_le_of (k - 1) 62 (by omega)
  have hA : (2 : Int) ^ (k - 1) = ((2 ^ (k - 1) : Nat) : Int) := by simp
  obtain ⟨A, hAd⟩ : ∃ A : Nat, A = 2 ^ (k - 1) := ⟨_, rfl⟩
  rw [← hAd] at hA h62
  have hA0 : 0 < A := by rw [hAd]; exact Nat.two_pow_pos _
  have hk64 : (k : Int) < 64 := by omega
  rw [hA]
  clear hAd
  by_cases g1 : -(A : Int) ≤ n
  ·by_cases g2 : n ≤ (A : Int) - 1
   ·go_enter Tryz.func29, Tryz.ntmps29
    go_wp2
    go_ret
    exact ⟨ret_bool (by simp; omega), rfl⟩
   ·go_enter Tryz.func29, Tryz.ntmps29
    go_wp2
    go_ret
    exact ⟨ret_bool (by simp; omega), rfl⟩
  ·go_enter Tryz.func29, Tryz.ntmps29
   go_wp2
   go_ret
   exact ⟨ret_bool (by simp; omega), rfl⟩
def putE (u k : Int) : Int := if 0 ≤ k ∧ k ≤ 64 ∧ u < 2 ^ k.toNat then 0 else 11
def putB (u k : Int) : List Nat := if 0 ≤ k ∧ k ≤ 64 ∧ u < 2 ^ k.toNat then bitsOf u.toNat k.toNat else []
def sigE (n k : Int) : Int := if 1 ≤ k ∧ k ≤ 64 ∧ -2 ^ (k.toNat - 1) ≤ n ∧ n < 2 ^ (k.toNat - 1) then 0 else 11
def sigB (n k : Int) : List Nat := if 1 ≤ k ∧ k ≤ 64 ∧ -2 ^ (k.toNat - 1) ≤ n ∧ n < 2 ^ (k.toNat - 1) then bitsOf (asU n) k.toNat else []
def unrE (n : Int) : Int := if 0 ≤ n ∧ n ≤ 16777216 then 0 else 11
def unrB (n : Int) : List Nat := if 0 ≤ n ∧ n ≤ 16777216 then List.replicate n.toNat 0 ++ [1] else []
def rcwE (n k : Int) : Int := if 0 ≤ k ∧ k ≤ 30 ∧ foldN n / 2 ^ k.toNat ≤ 16777216 then 0 else 11
def rcwB (n k : Int) : List Nat := if 0 ≤ k ∧ k ≤ 30 ∧ foldN n / 2 ^ k.toNat ≤ 16777216 then List.replicate (foldN n / 2 ^ k.toNat) 0 ++ [1] ++ bitsOf (foldN n) k.toNat else []
theorem Bits01.nil : Bits01 [] := by intro b hb; cases hb
theorem Bits01.one : Bits01 [1] := by intro b hb; simp at hb; omega
theorem putB_01 (u k : Int) : Bits01 (putB u k) := by unfold putB; split; exact bitsOf_01 _ _; exact Bits01.nil
theorem sigB_01 (n k : Int) : Bits01 (sigB n k) := by unfold sigB; split; exact bitsOf_01 _ _; exact Bits01.nil
theorem unrB_01 (n : Int) : Bits01 (unrB n) := by unfold unrB; split; exact (Bits01.zeros _).append Bits01.one; exact Bits01.nil
theorem rcwB_01 (n k : Int) : Bits01 (rcwB n k) := by unfold rcwB; split; exact ((Bits01.zeros _).append Bits01.one).append (bitsOf_01 _ _); exact Bits01.nil
theorem putB_len (u k : Int) : (putB u k).length ≤ 17000000 := by unfold putB; split; (rw [bitsOf_length]; omega); simp
theorem sigB_len (n k : Int) : (sigB n k).length ≤ 17000000 := by unfold sigB; split; (rw [bitsOf_length]; omega); simp
theorem unrB_len (n : Int) : (unrB n).length ≤ 17000000 := by unfold unrB; split; (rw [List.length_append, List.length_replicate, List.length_singleton]; omega); simp
theorem rcwB_len (n k : Int) : (rcwB n k).length ≤ 17000000 := by
 unfold rcwB
 split
 ·rw [List.length_append, List.length_append, List.length_replicate, List.length_singleton, bitsOf_length]; omega
 ·simp
section
variable (w : World) (ao : Option Addr) (B : List Nat)
theorem wput_all (p : Nat) (u k : Int) (u1 : 0 ≤ u) (u2 : u ≤ 18446744073709551615) (h01 : Bits01 B) (hB : B.length ≤ 7000000000000) (hw : WrB w p ao B) :
  Calls Tryz.prog 53 #[.pointer (some ⟨p, 0, none⟩), .int .u64 u, .int .i64 k] w fun e w' => e = .returned (.int .i64 (putE u k)) ∧ ∃ ao', WrB w' p ao' (B ++ putB u k) ∧ Stays (foot p ao) w w' ∧ Moved w.heap.size ao ao' := by
 by_cases h : 0 ≤ k ∧ k ≤ 64 ∧ u < 2 ^ k.toNat
 ·unfold putE putB
  rw [if_pos h, if_pos h]
  obtain ⟨j, rfl⟩ : ∃ j : Nat, k = (j : Int) := ⟨k.toNat, by omega⟩
  obtain ⟨v, rfl⟩ : ∃ v : Nat, u = (v : Int) := ⟨u.toNat, by omega⟩
  have hv : v < 2 ^ j := by
   have e := h.2.2
   have e2 : (2 : Int) ^ (j : Int).toNat = ((2 ^ j : Nat) : Int) := by simp
   rw [e2] at e
   omega
  exact put_ok p v j (by omega) hv w ao B h01 (by omega) hw
 ·unfold putE putB
  rw [if_neg h, if_neg h]
  refine (put_bad p u k u1 (by omega) (by omega) w).mono ?_
  rintro e w' ⟨rfl, rfl⟩
  exact ⟨rfl, ao, by simpa using hw, Stays.refl _ _, Moved.refl _ _⟩
theorem wsig_all (p : Nat) (n k : Int) (h01 : Bits01 B) (hB : B.length ≤ 7000000000000) (hw : WrB w p ao B) :
  Calls Tryz.prog 176 #[.pointer (some ⟨p, 0, none⟩), .int .i64 n, .int .i64 k] w fun e w' => e = .returned (.int .i64 (sigE n k)) ∧ ∃ ao', WrB w' p ao' (B ++ sigB n k) ∧ Stays (foot p ao) w w' ∧ Moved w.heap.size ao ao' := by
 by_cases h : 1 ≤ k ∧ k ≤ 64 ∧ -2 ^ (k.toNat - 1) ≤ n ∧ n < 2 ^ (k.toNat - 1)
 ·unfold sigE sigB
  rw [if_pos h, if_pos h]
  obtain ⟨j, rfl⟩ : ∃ j : Nat, k = (j : Int) := ⟨k.toNat, by omega⟩
  exact wsigned_ok p n j (by omega) (by omega) h.2.2.1 h.2.2.2 w ao B h01 (by omega) hw
 ·unfold sigE sigB
  rw [if_neg h, if_neg h]
  have fin : ∀ (e : Ending) (w' : World), e = .returned (.int .i64 11) ∧ w' = w → e = .returned (.int .i64 11) ∧ ∃ ao', WrB w' p ao' (B ++ []) ∧ Stays (foot p ao) w w' ∧ Moved w.heap.size ao ao' := by
   rintro e w' ⟨rfl, rfl⟩
   exact ⟨rfl, ao, by simpa using hw, Stays.refl _ _, Moved.refl _ _⟩
  by_cases hk : k < 1 ∨ 64 < k
  ·exact (wsigned_width p n k hk w).mono fin
  ·obtain ⟨j, rfl⟩ : ∃ j : Nat, k = (j : Int) := ⟨k.toNat, by omega⟩
   rw [Int.toNat_natCast] at h
   exact (wsigned_bad p n j (by omega) (by omega) (by omega) w).mono fin
theorem wunr_all (p : Nat) (n : Int) (h01 : Bits01 B) (hB : B.length ≤ 7000000000000) (hw : WrB w p ao B) :
  Calls Tryz.prog 131 #[.pointer (some ⟨p, 0, none⟩), .int .i64 n] w fun e w' => e = .returned (.int .i64 (unrE n)) ∧ ∃ ao', WrB w' p ao' (B ++ unrB n) ∧ Stays (foot p ao) w w' ∧ Moved w.heap.size ao ao' := by
 by_cases h : 0 ≤ n ∧ n ≤ 16777216
 ·unfold unrE unrB
  rw [if_pos h, if_pos h, ← List.append_assoc]
  obtain ⟨j, rfl⟩ : ∃ j : Nat, n = (j : Int) := ⟨n.toNat, by omega⟩
  exact wunary_ok p j (by omega) w ao B h01 (by omega) hw
 ·unfold unrE unrB
  rw [if_neg h, if_neg h]
  refine (wunary_bad p n (by omega) w).mono ?_
  rintro e w' ⟨rfl, rfl⟩
  exact ⟨rfl, ao, by simpa using hw, Stays.refl _ _, Moved.refl _ _⟩
theorem wric_all (p : Nat) (n k : Int) (n1 : -9223372036854775808 ≤ n) (n2 : n ≤ 9223372036854775807) (h01 : Bits01 B) (hB : B.length ≤ 7000000000000) (hw : WrB w p ao B) :
  Calls Tryz.prog 224 #[.pointer (some ⟨p, 0, none⟩), .int .i64 n, .int .i64 k] w fun e w' => e = .returned (.int .i64 (rcwE n k)) ∧ ∃ ao', WrB w' p ao' (B ++ rcwB n k) ∧ Stays (foot p ao) w w' ∧ Moved w.heap.size ao ao' := by
 by_cases h : 0 ≤ k ∧ k ≤ 30 ∧ foldN n / 2 ^ k.toNat ≤ 16777216
 ·unfold rcwE rcwB
  rw [if_pos h, if_pos h, ← List.append_assoc, ← List.append_assoc]
  obtain ⟨j, rfl⟩ : ∃ j : Nat, k = (j : Int) := ⟨k.toNat, by omega⟩
  exact rice_ok p n n1 n2 j (by omega) h.2.2 w ao B h01 (by omega) hw
 ·unfold rcwE rcwB
  rw [if_neg h, if_neg h]
  have fin : ∀ (e : Ending) (w' : World), e = .returned (.int .i64 11) ∧ w' = w → e = .returned (.int .i64 11) ∧ ∃ ao', WrB w' p ao' (B ++ []) ∧ Stays (foot p ao) w w' ∧ Moved w.heap.size ao ao' := by
   rintro e w' ⟨rfl, rfl⟩
   exact ⟨rfl, ao, by simpa using hw, Stays.refl _ _, Moved.refl _ _⟩
  by_cases hk : k < 0 ∨ 30 < k
  ·exact (rice_width p n k hk w).mono fin
  ·obtain ⟨j, rfl⟩ : ∃ j : Nat, k = (j : Int) := ⟨k.toNat, by omega⟩
   rw [Int.toNat_natCast] at h
   exact (rice_long p n n1 n2 j (by omega) (by omega) w).mono fin
end
def getE (s : ByteArray) (a : Nat) (k : Int) : Int := if k < 0 ∨ 64 < k then 11 else if 8 * s.size < a + k.toNat then 10 else 0
def getV (s : ByteArray) (a : Nat) (k : Int) : Int := if getE s a k = 0 then (bitsAt s a k.toNat : Int) else 0
def getA (s : ByteArray) (a : Nat) (k : Int) : Nat := if getE s a k = 0 then a + k.toNat else a
def unaE (s : ByteArray) (a : Nat) : Int := if 16777216 < lead (ahead s a) then 11 else if lead (ahead s a) = 8 * s.size - a then 10 else 0
def unaV (s : ByteArray) (a : Nat) : Int := if unaE s a = 0 then (lead (ahead s a) : Int) else 0
def unaA (s : ByteArray) (a : Nat) : Nat := if unaE s a = 0 then a + lead (ahead s a) + 1 else a
theorem only_same {q : Nat} (w : World) : Stays (only q) w w := Stays.refl _ _
theorem only_drewN {q : Nat} (w : World) (n : Nat) : Stays (only q) w (w.drewN n) := (Stays.refl _ _).drewN n
theorem get_all (s : ByteArray) (hs : s.size ≤ 1000000000000000000) (a : Nat) (ha : a ≤ 8 * s.size) (w : World) (q : Nat) (k : Int) (h : Rd w q s a) : Calls Tryz.prog 136 #[.pointer (some ⟨q, 0, none⟩), .int .i64 k] w fun e w' => e = .returned (.tuple #[.int .u64 (getV s a k), .int .i64 (getE s a k)]) ∧ Rd w' q s (getA s a k) ∧ Stays (only q) w w' := by
 by_cases hk : k < 0 ∨ 64 < k
 ·have hE : getE s a k = 11 := by unfold getE; rw [if_pos hk]
  have hV : getV s a k = 0 := by unfold getV; rw [hE]; rfl
  have hA : getA s a k = a := by unfold getA; rw [hE]; rfl
  rw [hE, hV, hA]
  exact (get_width q k hk w).mono (fun e w' ⟨he, hw⟩ => ⟨he, by rw [hw]; exact h, by rw [hw]; exact only_same w⟩)
 ·obtain ⟨j, rfl⟩ : ∃ j : Nat, k = (j : Int) := ⟨k.toNat, by omega⟩
  by_cases he : 8 * s.size < a + j
  ·have hE : getE s a (j : Int) = 10 := by unfold getE; rw [if_neg hk, if_pos (by simpa using he)]
   have hV : getV s a (j : Int) = 0 := by unfold getV; rw [hE]; rfl
   have hA : getA s a (j : Int) = a := by unfold getA; rw [hE]; rfl
   rw [hE, hV, hA]
   exact (get_end q s hs a ha j (by omega) he w h).mono (fun e w' ⟨he, n, hw⟩ => ⟨he, by rw [hw]; exact h.drewN n, by rw [hw]; exact only_drewN w n⟩)
  ·have hE : getE s a (j : Int) = 0 := by unfold getE; rw [if_neg hk, if_neg (by simpa using he)]
   have hV : getV s a (j : Int) = (bitsAt s a j : Int) := by unfold getV; rw [hE]; rfl
   have hA : getA s a (j : Int) = a + j := by unfold getA; rw [hE]; rfl
   rw [hE, hV, hA]
   exact get_ok q s hs a j (by omega) (by omega) w h
theorem bitsOf_num (X : List Nat) (h : Bits01 X) : bitsOf (num X) X.length = X := by
 induction X with
 | nil => rfl
 | cons x t ih =>
  have hx : x < 2 := h x (by simp)
  have ht : Bits01 t := fun b hb => h b (by simp [hb])
  have hl := num_lt t ht
  rw [List.length_cons, bitsOf, num_cons]
  have e1 : (x * 2 ^ t.length + num t) / 2 ^ t.length % 2 = x := by
   rw [Nat.mul_comm, Nat.mul_add_div (Nat.two_pow_pos _), Nat.div_eq_of_lt hl]
   omega
  have e2 : bitsOf (x * 2 ^ t.length + num t) t.length = bitsOf (num t) t.length := by
   rw [← bitsOf_mod (x * 2 ^ t.length + num t) t.length t.length (Nat.le_refl _), Nat.mul_comm, Nat.mul_add_mod, bitsOf_mod _ _ _ (Nat.le_refl _)]
  rw [e1, e2, ih ht]
theorem bits_byte (C : List Nat) (h01 : Bits01 C) (m : Nat) (h : 8 * m + 8 ≤ C.length) : bitsOf (byteOf C m) 8 = (C.drop (8 * m)).take 8 := by
 have hl : ((C.drop (8 * m)).take 8).length = 8 := by rw [List.length_take, List.length_drop]; omega
 have e : byteOf C m = num ((C.drop (8 * m)).take 8) := by unfold byteOf; rw [hl]; simp
 have := bitsOf_num _ ((h01.drop (8 * m)).take 8)
 rw [hl] at this
 rw [e, this]
theorem sbits_append (a b : List Nat) : sbits (a ++ b) = sbits a ++ sbits b := by unfold sbits; rw [List.flatMap_append]
theorem sbits_packN (B : List Nat) (h01 : Bits01 B) (K m : Nat) (h : 8 * m ≤ B.length + K) : sbits (packN B m) = (B ++ List.replicate K 0).take (8 * m) := by
 induction m with
 | zero => simp [packN, sbits]
 | succ m ih =>
  have e : packN B (m + 1) = packN B m ++ [byteOf B m] := by unfold packN; rw [List.range_succ, List.map_append]; rfl
  have hC : Bits01 (B ++ List.replicate K 0) := h01.append (Bits01.zeros K)
  rw [e, sbits_append, ih (by omega), ← byteOf_zeros B K m]
  have e2 : sbits [byteOf (B ++ List.replicate K 0) m] = bitsOf (byteOf (B ++ List.replicate K 0) m) 8 := by simp [sbits]
  rw [e2, bits_byte _ hC m (by simp; omega), show 8 * (m + 1) = 8 * m + 8 from by omega, List.take_add]
theorem sbits_pack (B : List Nat) (h01 : Bits01 B) : ∃ Z, sbits (pack B) = B ++ Z ∧ (B ++ Z).length = 8 * ((B.length + 7) / 8) := by
 have h := sbits_packN B h01 (8 * ((B.length + 7) / 8) - B.length) ((B.length + 7) / 8) (by omega)
 have hl : (B ++ List.replicate (8 * ((B.length + 7) / 8) - B.length) 0).length = 8 * ((B.length + 7) / 8) := by simp; omega
 refine ⟨List.replicate (8 * ((B.length + 7) / 8) - B.length) 0, ?_, hl⟩
 unfold pack
 rw [h]
 exact List.take_of_length_le (by omega)
theorem bytesOf_textOf (bs : List Nat) (h : ∀ b ∈ bs, b < 256) : bytesOf (textOf bs) = bs := by
 unfold bytesOf textOf
 simp only [List.map_map]
 induction bs with
 | nil => rfl
 | cons x t ih =>
  have hx : x < 256 := h x (by simp)
  rw [List.map_cons, ih (fun b hb => h b (by simp [hb]))]
  congr 1
  simp
  omega
theorem textOf_size (bs : List Nat) : (textOf bs).size = bs.length := by
 show (List.map _ bs).toArray.size = _
 simp
theorem pack_256 (B : List Nat) (h01 : Bits01 B) : ∀ b ∈ pack B, b < 256 := by
 intro b hb
 unfold pack packN at hb
 obtain ⟨i, _, rfl⟩ := List.mem_map.1 hb
 exact byteOf_lt B h01 i
theorem ahead_pack (B B1 X R : List Nat) (h01 : Bits01 B) (hB : B = B1 ++ X ++ R) : ∃ R', ahead (textOf (pack B)) B1.length = X ++ R' ∧ B1.length + X.length + R.length ≤ 8 * (textOf (pack B)).size := by
 obtain ⟨Z, hz, hl⟩ := sbits_pack B h01
 have hs : (textOf (pack B)).size = (B.length + 7) / 8 := by rw [textOf_size, pack_length]
 refine ⟨R ++ Z, ?_, ?_⟩
 ·unfold ahead
  rw [bytesOf_textOf _ (pack_256 B h01), hz, hB, List.append_assoc, List.append_assoc, List.drop_append, List.drop_eq_nil_of_le (Nat.le_refl _), Nat.sub_self, List.drop_zero, List.nil_append]
 ·rw [hs]
  have : B.length = B1.length + X.length + R.length := by rw [hB]; simp; omega
  omega
theorem ahead_drop (s : ByteArray) (a k : Nat) : (ahead s a).drop k = ahead s (a + k) := by unfold ahead; rw [List.drop_drop]
def frN (b o r i : Nat) : Nat := i * (b / 2 ^ o) - r
def partN (l : List Int) (b o r i : Nat) : List Int := (l.drop (frN b o r i)).take (frN b o r (i + 1) - frN b o r i)
abbrev cutOk (b r o : Int) : Prop := 0 ≤ o ∧ o ≤ 15 ∧ 1 ≤ b ∧ b ≤ 65535 ∧ 0 ≤ r ∧ r ≤ 32 ∧ b % 2 ^ o.toNat = 0 ∧ r ≤ b / 2 ^ o.toNat
abbrev mayOk (m k e : Int) : Prop := (e = -1 ∧ 0 ≤ k ∧ k ≤ 14 + 16 * m) ∨ (0 ≤ e ∧ e ≤ 31 ∧ k = 0)
abbrev allMay (m : Int) (P E : List Int) (n : Nat) : Prop := ∀ i, i < n → mayOk m (P.getD i 0) (E.getD i 0)
structure Rc where
 m : Int
 o : Int
 P : List Int
 E : List Int
abbrev chkOk (c : Rc) (b r : Int) : Prop := (0 ≤ c.m ∧ c.m ≤ 1) ∧ cutOk b r c.o ∧ c.P.length = 2 ^ c.o.toNat ∧ c.E.length = 2 ^ c.o.toNat ∧ allMay c.m c.P c.E (2 ^ c.o.toNat)
theorem pow15 (o : Nat) (h : o ≤ 15) : 1 ≤ 2 ^ o ∧ 2 ^ o ≤ 32768 :=
 ⟨Nat.one_le_two_pow, Nat.le_trans (Nat.pow_le_pow_right (by decide) h) (by decide)⟩
structure Cut (b o r : Nat) : Prop where
 o15 : o ≤ 15
 b1 : 1 ≤ b
 b2 : b ≤ 65535
 r2 : r ≤ 32
 dv : 2 ^ o * (b / 2 ^ o) = b
 le : r ≤ b / 2 ^ o
theorem Cut.of {b r o : Int} (h : cutOk b r o) : ∃ b' r' o' : Nat, b = b' ∧ r = r' ∧ o = o' ∧ Cut b' o' r' := by
 obtain ⟨h1, h2, h3, h4, h5, h6, h7, h8⟩ := h
 refine ⟨b.toNat, r.toNat, o.toNat, by omega, by omega, by omega, by omega, by omega, by omega, by omega, ?_, ?_⟩
 ·have e : b = (b.toNat : Int) := by omega
  rw [e] at h7
  have : ((b.toNat % 2 ^ o.toNat : Nat) : Int) = 0 := by rw [← h7]; push_cast; rfl
  have := Nat.div_add_mod b.toNat (2 ^ o.toNat)
  omega
 ·have e : b = (b.toNat : Int) := by omega
  rw [e] at h8
  have : (r.toNat : Int) ≤ ((b.toNat / 2 ^ o.toNat : Nat) : Int) := by push_cast; omega
  omega
theorem Cut.ok {b o r : Nat} (h : Cut b o r) : cutOk b r o := by
 refine ⟨by omega, by have := h.o15; omega, by have := h.b1; omega, by have := h.b2; omega, by omega, by have := h.r2; omega, ?_, ?_⟩
 ·have e : (((b % 2 ^ o : Nat)) : Int) = 0 := by
   have := Nat.div_add_mod b (2 ^ o); have := h.dv; omega
  rw [← e]; push_cast; simp
 ·have e : (r : Int) ≤ ((b / 2 ^ o : Nat) : Int) := by have := h.le; omega
  push_cast at e
  simpa using e
theorem frN_mono (b o r i : Nat) : frN b o r i ≤ frN b o r (i + 1) := by
 unfold frN; rw [Nat.add_mul]; omega
theorem frN_le (b o r : Nat) (i j : Nat) (h : i ≤ j) : frN b o r i ≤ frN b o r j := by
 unfold frN; have := Nat.mul_le_mul_right (b / 2 ^ o) h; omega
theorem Cut.total {b o r : Nat} (h : Cut b o r) : frN b o r (2 ^ o) = b - r := by unfold frN; rw [h.dv]
theorem Cut.fr_succ {b o r : Nat} (h : Cut b o r) (i : Nat) : frN b o r (i + 1) + r = (i + 1) * (b / 2 ^ o) := by
 unfold frN; have := h.le; have := Nat.mul_le_mul_right (b / 2 ^ o) (show 1 ≤ i + 1 by omega); omega
theorem Cut.rb {b o r : Nat} (h : Cut b o r) : r ≤ b := Nat.le_trans h.le (Nat.div_le_self _ _)
theorem frN_bound {b o r : Nat} (h : Cut b o r) (i : Nat) (hi : i ≤ 2 ^ o) : frN b o r i ≤ b - r := by rw [← h.total]; exact frN_le b o r i _ hi
theorem partN_length (l : List Int) {b o r : Nat} (h : Cut b o r) (hl : l.length = b - r) (i : Nat) (hi : i < 2 ^ o) : (partN l b o r i).length = frN b o r (i + 1) - frN b o r i := by
 unfold partN; rw [List.length_take, List.length_drop]
 have := frN_bound h (i + 1) hi; have := frN_mono b o r i
 omega
def fitE (k e n : Int) : Prop := if e = -1 then rcwE n k = 0 else if e = 0 then n = 0 else sigE n e = 0
def fitT (k e n : Int) : Bool := if e = -1 then decide (rcwE n k = 0) else if e = 0 then decide (n = 0) else decide (sigE n e = 0)
theorem fitT_iff (k e n : Int) : fitT k e n = true ↔ fitE k e n := by
 unfold fitT fitE
 split
 ·exact decide_eq_true_iff
 ·split
  ·exact decide_eq_true_iff
  ·exact decide_eq_true_iff
theorem bool_no {b : Bool} {P : Prop} (hi : b = true ↔ P) (h : ¬ P) : b = false := by
 cases e : b with
 | false => rfl
 | true => exact absurd (hi.1 e) h
theorem fitT_yes {k e n : Int} (h : fitE k e n) : fitT k e n = true := (fitT_iff k e n).2 h
theorem fitT_no {k e n : Int} (h : ¬ fitE k e n) : fitT k e n = false := bool_no (fitT_iff k e n) h
def allT (k e : Int) (l : List Int) : Bool := l.all (fitT k e)
theorem allT_iff (k e : Int) (l : List Int) : allT k e l = true ↔ ∀ x ∈ l, fitE k e x := by
 unfold allT
 rw [List.all_eq_true]
 exact ⟨fun h x hx => (fitT_iff k e x).1 (h x hx), fun h x hx => (fitT_iff k e x).2 (h x hx)⟩
theorem allT_yes {k e : Int} {l : List Int} (h : ∀ x ∈ l, fitE k e x) : allT k e l = true := (allT_iff k e l).2 h
theorem allT_no {k e : Int} {l : List Int} (h : ¬ ∀ x ∈ l, fitE k e x) : allT k e l = false := bool_no (allT_iff k e l) h
def oneB (k e n : Int) : List Nat := if e = -1 then rcwB n k else if e = 0 then [] else sigB n e
def headB (m k e : Int) : List Nat := if e = -1 then putB k (4 + m) else putB (15 + 16 * m) (4 + m) ++ putB e 5
def numsB (k e : Int) (xs : List Int) : List Nat := xs.flatMap (oneB k e)
def partB (m k e : Int) (xs : List Int) : List Nat := headB m k e ++ numsB k e xs
def partsB (c : Rc) (b o r : Nat) (l : List Int) (n : Nat) : List Nat := (List.range n).flatMap fun i => partB c.m (c.P.getD i 0) (c.E.getD i 0) (partN l b o r i)
def encB (c : Rc) (b r : Nat) (l : List Int) : List Nat := putB c.m 2 ++ putB c.o 4 ++ partsB c b c.o.toNat r l (2 ^ c.o.toNat)
def allFit (c : Rc) (b o r : Nat) (l : List Int) (n : Nat) : Prop := ∀ i, i < n → ∀ x ∈ partN l b o r i, fitE (c.P.getD i 0) (c.E.getD i 0) x
theorem partsB_zero (c : Rc) (b o r : Nat) (l : List Int) : partsB c b o r l 0 = [] := rfl
theorem partsB_succ (c : Rc) (b o r : Nat) (l : List Int) (n : Nat) : partsB c b o r l (n + 1) = partsB c b o r l n ++ partB c.m (c.P.getD n 0) (c.E.getD n 0) (partN l b o r n) := by
 unfold partsB; rw [List.range_succ, List.flatMap_append]; simp
theorem numsB_nil (k e : Int) : numsB k e [] = [] := rfl
theorem numsB_snoc (k e : Int) (xs : List Int) (x : Int) : numsB k e (xs ++ [x]) = numsB k e xs ++ oneB k e x := by
 unfold numsB; rw [List.flatMap_append]; simp
theorem oneB_01 (k e n : Int) : Bits01 (oneB k e n) := by
 unfold oneB; split
 ·exact rcwB_01 _ _
 ·split
  ·exact Bits01.nil
  ·exact sigB_01 _ _
theorem headB_01 (m k e : Int) : Bits01 (headB m k e) := by
 unfold headB; split
 ·exact putB_01 _ _
 ·exact (putB_01 _ _).append (putB_01 _ _)
theorem numsB_01 (k e : Int) (xs : List Int) : Bits01 (numsB k e xs) := by
 induction xs with
 | nil => exact Bits01.nil
 | cons x t ih => exact (oneB_01 k e x).append ih
theorem partB_01 (m k e : Int) (xs : List Int) : Bits01 (partB m k e xs) := (headB_01 _ _ _).append (numsB_01 _ _ _)
theorem partsB_01 (c : Rc) (b o r : Nat) (l : List Int) (n : Nat) : Bits01 (partsB c b o r l n) := by
 induction n with
 | zero => exact Bits01.nil
 | succ n ih => rw [partsB_succ]; exact ih.append (partB_01 _ _ _ _)
theorem encB_01 (c : Rc) (b r : Nat) (l : List Int) : Bits01 (encB c b r l) := ((putB_01 _ _).append (putB_01 _ _)).append (partsB_01 _ _ _ _ _ _)
theorem oneB_len (k e n : Int) : (oneB k e n).length ≤ 17000000 := by
 unfold oneB; split
 ·exact rcwB_len _ _
 ·split
  ·simp
  ·exact sigB_len _ _
theorem putB_short (u k : Int) (hk : k ≤ 64) : (putB u k).length ≤ 64 := by
 unfold putB; split
 ·rw [bitsOf_length]; omega
 ·simp
theorem headB_len (m k e : Int) (hm : m ≤ 1) : (headB m k e).length ≤ 128 := by
 unfold headB; split
 ·have := putB_short k (4 + m) (by omega); omega
 ·rw [List.length_append]
  have := putB_short (15 + 16 * m) (4 + m) (by omega); have := putB_short e 5 (by omega); omega
theorem numsB_len (k e : Int) (xs : List Int) : (numsB k e xs).length ≤ 17000000 * xs.length := by
 induction xs with
 | nil => simp [numsB]
 | cons x t ih =>
  have h1 := oneB_len k e x
  have : (numsB k e (x :: t)).length = (oneB k e x).length + (numsB k e t).length := by simp [numsB]
  rw [this, List.length_cons]; omega
theorem partsB_len (c : Rc) (hm : c.m ≤ 1) {b o r : Nat} (h : Cut b o r) (l : List Int) (hl : l.length = b - r) (n : Nat) (hn : n ≤ 2 ^ o) : (partsB c b o r l n).length ≤ 128 * n + 17000000 * frN b o r n := by
 induction n with
 | zero => simp [partsB]
 | succ n ih =>
  rw [partsB_succ, List.length_append]
  unfold partB; rw [List.length_append]
  have h1 := headB_len c.m (c.P.getD n 0) (c.E.getD n 0) hm
  have h2 := numsB_len (c.P.getD n 0) (c.E.getD n 0) (partN l b o r n)
  rw [partN_length l h hl n (by omega)] at h2
  have h3 := ih (by omega)
  have h4 := frN_mono b o r n
  have : 17000000 * (frN b o r (n + 1) - frN b o r n) = 17000000 * frN b o r (n + 1) - 17000000 * frN b o r n := Nat.mul_sub _ _ _
  have := Nat.mul_le_mul_left 17000000 h4
  omega
theorem parts_room (c : Rc) (hm : c.m ≤ 1) {b o r : Nat} (h : Cut b o r) (l : List Int) (hl : l.length = b - r) (n : Nat) (hn : n ≤ 2 ^ o) (h5 : l.length ≤ 65535) : (partsB c b o r l n).length ≤ 1200000000000 := by
 have h1 := partsB_len c hm h l hl n hn
 have h2 := frN_bound h n hn
 have h3 := pow15 o h.o15; have := h.b2
 omega
structure IntsAt (w : World) (ao : Option Addr) (l : List Int) : Prop where
 len : l.length ≤ 17592186044415
 num : ∀ n ∈ l, -9223372036854775808 ≤ n ∧ n ≤ 9223372036854775807
 lies : 0 < l.length → ∃ b off, ao = some ⟨b, off, none⟩ ∧ ∀ j, j < l.length → w.cell? ⟨b, off + j, none⟩ = some (.int .i64 (l.getD j 0))
theorem lt_cell {w : World} {a : Addr} {v : Value} (h : w.cell? a = some v) : a.block < w.heap.size := World.block_lt_of_cell? w a h
theorem IntsAt.keep {w w' : World} {ao : Option Addr} {l : List Int} (h : IntsAt w ao l) (hb : ∀ k, k < w.heap.size → w'.heap[k]? = w.heap[k]?) : IntsAt w' ao l := by
 refine ⟨h.len, h.num, fun h0 => ?_⟩
 obtain ⟨b, off, e, hc⟩ := h.lies h0
 refine ⟨b, off, e, fun j hj => ?_⟩
 have h1 := hc j hj
 have h2 := lt_cell h1
 rw [← h1]
 exact World.cell?_of_block (w := w) (hb b h2)
theorem IntsAt.below {w w' : World} {ao : Option Addr} {xs : List Int} (h : IntsAt w ao xs) (hb : Below w.heap.size w w') : IntsAt w' ao xs := h.keep hb.block
theorem IntsAt.drewN {w : World} {ao : Option Addr} {xs : List Int} (h : IntsAt w ao xs) (n : Nat) : IntsAt (w.drewN n) ao xs := h.keep fun k _ => by simp
theorem IntsAt.stays {w w' : World} {ao : Option Addr} {xs : List Int} (h : IntsAt w ao xs) {S : Nat → Prop} (hS : Stays S w w') (hn : ∀ b, blockOf ao = some b → ¬ S b) : IntsAt w' ao xs := by
 refine ⟨h.len, h.num, fun h0 => ?_⟩
 obtain ⟨b, off, e, hc⟩ := h.lies h0
 refine ⟨b, off, e, fun j hj => ?_⟩
 have h1 := hc j hj
 have h2 := lt_cell h1
 rw [← h1]
 exact World.cell?_of_block (w := w) (hS.block b h2 (hn b (by rw [e]; rfl)))
theorem IntsAt.get {w : World} {b off : Nat} {l : List Int} (h : IntsAt w (some ⟨b, off, none⟩) l) (j : Nat) (hj : j < l.length) : w.cell? ⟨b, off + j, none⟩ = some (.int .i64 (l.getD j 0)) := by
 obtain ⟨b', off', e, hc⟩ := h.lies (by omega)
 cases e
 exact hc j hj
theorem IntsAt.rng {w : World} {ao : Option Addr} {l : List Int} (h : IntsAt w ao l) (j : Nat) : -9223372036854775808 ≤ l.getD j 0 ∧ l.getD j 0 ≤ 9223372036854775807 := by
 by_cases hj : j < l.length
 ·rw [List.getD_eq_getElem?_getD, List.getElem?_eq_getElem hj]
  exact h.num _ (List.getElem_mem hj)
 ·rw [List.getD_eq_getElem?_getD, List.getElem?_eq_none (by omega)]
  decide
theorem IntsAt.addr {w : World} {ao : Option Addr} {l : List Int} (h : IntsAt w ao l) (h0 : 0 < l.length) : ∃ b off, ao = some ⟨b, off, none⟩ := by
 obtain ⟨b, off, e, _⟩ := h.lies h0
 exact ⟨b, off, e⟩
theorem getD_part (l : List Int) (f n j : Nat) (hj : j < n) : ((l.drop f).take n).getD j 0 = l.getD (f + j) 0 := by
 rw [List.getD_eq_getElem?_getD, List.getD_eq_getElem?_getD, List.getElem?_take_of_lt hj, List.getElem?_drop]
theorem IntsAt.part {w : World} {ao : Option Addr} {l : List Int} (h : IntsAt w ao l) (f n : Nat) (hf : f + n ≤ l.length) (xo : Option Addr) (hx : ∀ b off, ao = some ⟨b, off, none⟩ → 0 < n → xo = some ⟨b, off + f, none⟩) : IntsAt w xo ((l.drop f).take n) := by
 have hl : ((l.drop f).take n).length = n := by rw [List.length_take, List.length_drop]; omega
 refine ⟨by rw [hl]; have := h.len; omega, fun x hx => h.num x (List.mem_of_mem_drop (List.mem_of_mem_take hx)), fun h0 => ?_⟩
 rw [hl] at h0
 obtain ⟨b, off, e, hc⟩ := h.lies (by omega)
 refine ⟨b, off + f, hx b off e h0, fun j hj => ?_⟩
 rw [hl] at hj
 rw [getD_part l f n j hj, show off + f + j = off + (f + j) from by omega]
 exact hc _ (by omega)
def intsC (l : List Int) : List Value := l.map fun n => Value.int .i64 n
theorem intsC_append (l m : List Int) : intsC (l ++ m) = intsC l ++ intsC m := by simp [intsC]
abbrev riceC (c : Rc) (pa : Option Addr) (pc : Nat) (ea : Option Addr) (ec : Nat) : Array Value := #[.int .i64 c.m, .int .i64 c.o, .slice pa c.P.length pc, .slice ea c.E.length ec]
abbrev riceV (c : Rc) (pa : Option Addr) (pc : Nat) (ea : Option Addr) (ec : Nat) : Value := .agg (riceC c pa pc ea ec)
structure RcAt (w : World) (c : Rc) (pa ea : Option Addr) : Prop where
 P : IntsAt w pa c.P
 E : IntsAt w ea c.E
 m1 : -9223372036854775808 ≤ c.m
 m2 : c.m ≤ 9223372036854775807
 o1 : -9223372036854775808 ≤ c.o
 o2 : c.o ≤ 9223372036854775807
theorem RcAt.keep {w w' : World} {c : Rc} {pa ea : Option Addr} (h : RcAt w c pa ea) (hb : ∀ k, k < w.heap.size → w'.heap[k]? = w.heap[k]?) : RcAt w' c pa ea := ⟨h.P.keep hb, h.E.keep hb, h.m1, h.m2, h.o1, h.o2⟩
theorem RcAt.below {w w' : World} {c : Rc} {pa ea : Option Addr} (h : RcAt w c pa ea) (hb : Below w.heap.size w w') : RcAt w' c pa ea := h.keep hb.block
theorem below_drewN (w : World) (n : Nat) : Below w.heap.size w (w.drewN n) := ⟨rfl, rfl, rfl, Nat.le_refl _, fun _ _ => rfl⟩
theorem heap_two (w : World) (A B : Obj) : ((w.alloc A).alloc B).heap[w.heap.size]? = some A := by
 have hb : Below (w.heap.size + 1) (w.alloc A) ((w.alloc A).alloc B) := (Below.refl _ _).alloc (by simp) _
 rw [hb.block _ (by omega)]; exact heap_alloc_new _ _
theorem results_one {fn : Func} {p : Tmp} {ty : TypeId} (h : fn.results = #[.cell p ty]) (tmps : Array Value) (P : Program) (w : World) :
  (results fn tmps).run P w = ((asAddr (tmps.getD p undef)).run P w).andThen fun a w₁ => (loadVar ty a).run P w₁ := by
 simp only [results, h]
 simp [Sem.run_bind, Result.andThen]
theorem results_two {fn : Func} {p t : Tmp} {ty : TypeId} (h : fn.results = #[.cell p ty, .tmp t]) (tmps : Array Value) (P : Program) (w : World) :
  (results fn tmps).run P w = ((asAddr (tmps.getD p undef)).run P w).andThen fun a w₁ => ((loadVar ty a).run P w₁).andThen fun x w₂ => .ok (.tuple #[x, tmps.getD t undef]) w₂ := by
 simp only [results, h]
 simp [Sem.run_bind, Result.andThen]
structure RB (w : World) (c : Rc) (pa : Option Addr) (pc : Nat) (ea : Option Addr) (ec : Nat) (wx : World) : Prop where
 box : wx.heap[w.heap.size]? = some (.cells (riceC c pa pc ea ec) 25 (0, 0))
 below : Below w.heap.size w wx
section
variable {w wx w' : World} {c : Rc} {pa : Option Addr} {pc : Nat} {ea : Option Addr} {ec : Nat}
theorem lt_of_block {w : World} {k : Nat} {o : Obj} (h : w.heap[k]? = some o) : k < w.heap.size := by
 rcases Nat.lt_or_ge k w.heap.size with h1 | h1
 ·exact h1
 ·rw [Array.getElem?_eq_none h1] at h; cases h
theorem RB.new (w : World) (c : Rc) (pa : Option Addr) (pc : Nat) (ea : Option Addr) (ec : Nat) : RB w c pa pc ea ec (w.alloc (.cells (riceC c pa pc ea ec) 25)) :=
 ⟨heap_alloc_new _ _, (Below.refl _ _).alloc (Nat.le_refl _) _⟩
theorem RB.next (h : RB w c pa pc ea ec wx) (hb : Below wx.heap.size wx w') : RB w c pa pc ea ec w' :=
 ⟨by rw [hb.block _ (lt_of_block h.box)]; exact h.box, h.below.trans (hb.mono h.below.size)⟩
theorem RB.c0 (h : RB w c pa pc ea ec wx) : wx.cell? ⟨w.heap.size, 0, none⟩ = some (.int .i64 c.m) := by rw [cell_of_row _ _ _ _ _ _ h.box]; rfl
theorem RB.c1 (h : RB w c pa pc ea ec wx) : wx.cell? ⟨w.heap.size, 1, none⟩ = some (.int .i64 c.o) := by rw [cell_of_row _ _ _ _ _ _ h.box]; rfl
theorem RB.c2 (h : RB w c pa pc ea ec wx) : wx.cell? ⟨w.heap.size, 2, none⟩ = some (.slice pa c.P.length pc) := by rw [cell_of_row _ _ _ _ _ _ h.box]; rfl
theorem RB.c3 (h : RB w c pa pc ea ec wx) : wx.cell? ⟨w.heap.size, 3, none⟩ = some (.slice ea c.E.length ec) := by rw [cell_of_row _ _ _ _ _ _ h.box]; rfl
end
theorem pw_spec (m : Int) (h0 : 0 ≤ m) (h1 : m ≤ 1) (w : World) :
  Calls Tryz.prog 222 #[.int .i64 m] w fun e w' => e = .returned (.int .i64 (4 + m)) ∧ w' = w := by
 rcases (show m = 0 ∨ m = 1 by omega) with rfl | rfl
 ·go_enter Tryz.func222, Tryz.ntmps222
  go_wp2
  go_ret
  exact ⟨rfl, rfl⟩
 ·go_enter Tryz.func222, Tryz.ntmps222
  go_wp2
  go_ret
  exact ⟨rfl, rfl⟩
theorem mark_spec (m : Int) (h0 : 0 ≤ m) (h1 : m ≤ 1) (w : World) :
  Calls Tryz.prog 223 #[.int .i64 m] w fun e w' => e = .returned (.int .i64 (15 + 16 * m)) ∧ w' = w := by
 have KP := fun wx => pw_spec m h0 h1 wx
 rcases (show m = 0 ∨ m = 1 by omega) with rfl | rfl
 ·go_enter Tryz.func223, Tryz.ntmps223
  go_wp2_with (go_at_call 222; refine (KP _).mono ?_; rintro e w' ⟨rfl, rfl⟩)
  go_ret
  exact ⟨rfl, rfl⟩
 ·go_enter Tryz.func223, Tryz.ntmps223
  go_wp2_with (go_at_call 222; refine (KP _).mono ?_; rintro e w' ⟨rfl, rfl⟩)
  go_ret
  exact ⟨rfl, rfl⟩
def areB (b r : Int) : Bool := decide (1 ≤ b ∧ b ≤ 65535 ∧ 0 ≤ r ∧ r ≤ 32)
theorem areOf_spec (b r : Int) (w : World) : Calls Tryz.prog 219 #[.int .i64 b, .int .i64 r] w fun e w' => e = .returned (.bool (areB b r)) ∧ w' = w := by
 by_cases g0 : b < 1
 ·have hd : areB b r = false := decide_eq_false (by omega)
  rw [hd]
  go_enter Tryz.func219, Tryz.ntmps219
  go_wp2
  go_ret
  exact ⟨rfl, rfl⟩
 ·skip
  by_cases g1 : 65535 < b
  ·have hd : areB b r = false := decide_eq_false (by omega)
   rw [hd]
   go_enter Tryz.func219, Tryz.ntmps219
   go_wp2
   go_ret
   exact ⟨rfl, rfl⟩
  ·skip
   by_cases g2 : r < 0
   ·have hd : areB b r = false := decide_eq_false (by omega)
    rw [hd]
    go_enter Tryz.func219, Tryz.ntmps219
    go_wp2
    go_ret
    exact ⟨rfl, rfl⟩
   ·skip
    by_cases g3 : 32 < r
    ·have hd : areB b r = false := decide_eq_false (by omega)
     have hb : decide (r ≤ 32) = false := decide_eq_false (by omega)
     rw [hd]
     go_enter Tryz.func219, Tryz.ntmps219
     go_wp2
     go_ret
     exact ⟨rfl, rfl⟩
    ·skip
     have hd : areB b r = true := decide_eq_true (by omega)
     have hb : decide (r ≤ 32) = true := decide_eq_true (by omega)
     rw [hd]
     go_enter Tryz.func219, Tryz.ntmps219
     go_wp2
     go_ret
     exact ⟨rfl, rfl⟩
theorem mayBe_spec (m k e : Int) (h0 : 0 ≤ m) (h1 : m ≤ 1) (w : World) : Calls Tryz.prog 218 #[.int .i64 m, .int .i64 k, .int .i64 e] w fun en w' => en = .returned (.bool (decide (mayOk m k e))) ∧ w' = w := by
 have KM := fun wx => mark_spec m h0 h1 wx
 by_cases he : e = -1
 ·subst he
  by_cases g0 : k < 0
  ·have hd : decide (mayOk m k (-1)) = false := decide_eq_false (by unfold mayOk; omega)
   rw [hd]
   go_enter Tryz.func218, Tryz.ntmps218
   go_wp2
   go_ret
   exact ⟨rfl, rfl⟩
  ·skip
   by_cases g1 : ¬ k < 15 + 16 * m
   ·have hd : decide (mayOk m k (-1)) = false := decide_eq_false (by unfold mayOk; omega)
    have hb : decide (k < 15 + 16 * m) = false := decide_eq_false (by omega)
    rw [hd]
    go_enter Tryz.func218, Tryz.ntmps218
    go_wp2_with (go_at_call 223; refine (KM _).mono ?_; rintro e w' ⟨rfl, rfl⟩)
    go_ret
    exact ⟨rfl, rfl⟩
   ·skip
    have hd : decide (mayOk m k (-1)) = true := decide_eq_true (by unfold mayOk; omega)
    have hb : decide (k < 15 + 16 * m) = true := decide_eq_true (by omega)
    rw [hd]
    go_enter Tryz.func218, Tryz.ntmps218
    go_wp2_with (go_at_call 223; refine (KM _).mono ?_; rintro e w' ⟨rfl, rfl⟩)
    go_ret
    exact ⟨rfl, rfl⟩
 ·have hbe : (e == -1) = false := by rw [beq_eq_false_iff_ne]; exact he
  by_cases g0 : ¬ k = 0
  ·have hd : decide (mayOk m k e) = false := decide_eq_false (by unfold mayOk; omega)
   have hb : (k == 0) = false := by rw [beq_eq_false_iff_ne]; exact g0
   rw [hd]
   go_enter Tryz.func218, Tryz.ntmps218
   go_wp2
   go_ret
   exact ⟨rfl, rfl⟩
  ·skip
   by_cases g1 : e < 0
   ·have hd : decide (mayOk m k e) = false := decide_eq_false (by unfold mayOk; omega)
    have hk : k = 0 := by omega
    subst hk
    rw [hd]
    go_enter Tryz.func218, Tryz.ntmps218
    go_wp2
    go_ret
    exact ⟨rfl, rfl⟩
   ·skip
    by_cases g2 : 31 < e
    ·have hd : decide (mayOk m k e) = false := decide_eq_false (by unfold mayOk; omega)
     have hb : decide (e ≤ 31) = false := decide_eq_false (by omega)
     have hk : k = 0 := by omega
     subst hk
     rw [hd]
     go_enter Tryz.func218, Tryz.ntmps218
     go_wp2
     go_ret
     exact ⟨rfl, rfl⟩
    ·skip
     have hk : k = 0 := by omega
     subst hk
     have hd : decide (mayOk m 0 e) = true := decide_eq_true (by unfold mayOk; omega)
     have hb : decide (e ≤ 31) = true := decide_eq_true (by omega)
     rw [hd]
     go_enter Tryz.func218, Tryz.ntmps218
     go_wp2
     go_ret
     exact ⟨rfl, rfl⟩
end Go.Proofs.YthgpleelpeacjaaGreatDoor
