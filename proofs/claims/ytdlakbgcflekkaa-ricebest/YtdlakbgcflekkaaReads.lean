/- Own text: what each read answers, as one function for the program's reader and for the document's; a list of deeds in memory. -/
import Derived.Test.YtdlakbgcflekkaaAligns
namespace Go.Proofs.Ytdlakbgcflekkaa
open Go.RowKit
set_option linter.unusedSimpArgs false
set_option linter.unusedVariables false


def getE (s : ByteArray) (a : Nat) (k : Int) : Int := if k < 0 ∨ 64 < k then 11 else if 8 * s.size < a + k.toNat then 10 else 0
def getV (s : ByteArray) (a : Nat) (k : Int) : Int := if getE s a k = 0 then (bitsAt s a k.toNat : Int) else 0
def getA (s : ByteArray) (a : Nat) (k : Int) : Nat := if getE s a k = 0 then a + k.toNat else a

def sgnE (s : ByteArray) (a : Nat) (k : Int) : Int := if k < 1 ∨ 64 < k then 11 else if 8 * s.size < a + k.toNat then 10 else 0
def sgnV (s : ByteArray) (a : Nat) (k : Int) : Int := if sgnE s a k = 0 then sgn (bitsAt s a k.toNat) k.toNat else 0
def sgnA (s : ByteArray) (a : Nat) (k : Int) : Nat := if sgnE s a k = 0 then a + k.toNat else a

def unaE (s : ByteArray) (a : Nat) : Int := if 16777216 < lead (ahead s a) then 11 else if lead (ahead s a) = 8 * s.size - a then 10 else 0
def unaV (s : ByteArray) (a : Nat) : Int := if unaE s a = 0 then (lead (ahead s a) : Int) else 0
def unaA (s : ByteArray) (a : Nat) : Nat := if unaE s a = 0 then a + lead (ahead s a) + 1 else a

def ricE (s : ByteArray) (a : Nat) (k : Int) : Int := if k < 0 ∨ 30 < k then 11 else if unaE s a = 0 then (if 8 * s.size < a + lead (ahead s a) + 1 + k.toNat then 10 else 0) else unaE s a
def ricV (s : ByteArray) (a : Nat) (k : Int) : Int := if ricE s a k = 0 then unfoldN (lead (ahead s a) * 2 ^ k.toNat + bitsAt s (a + lead (ahead s a) + 1) k.toNat) else 0
def ricA (s : ByteArray) (a : Nat) (k : Int) : Nat := if ricE s a k = 0 then a + lead (ahead s a) + 1 + k.toNat else a

theorem only_same {q : Nat} (w : World) : Stays (only q) w w := Stays.refl _ _
theorem only_drewN {q : Nat} (w : World) (n : Nat) : Stays (only q) w (w.drewN n) := (Stays.refl _ _).drewN n

theorem getA_le (s : ByteArray) (a : Nat) (k : Int) (ha : a ≤ 8 * s.size) : getA s a k ≤ 8 * s.size := by
  unfold getA
  by_cases h : getE s a k = 0
  · rw [if_pos h]
    unfold getE at h
    by_cases hk : k < 0 ∨ 64 < k
    · rw [if_pos hk] at h; omega
    · rw [if_neg hk] at h
      by_cases hr : 8 * s.size < a + k.toNat
      · rw [if_pos hr] at h; omega
      · omega
  · rw [if_neg h]; exact ha

theorem sgnA_le (s : ByteArray) (a : Nat) (k : Int) (ha : a ≤ 8 * s.size) : sgnA s a k ≤ 8 * s.size := by
  unfold sgnA
  by_cases h : sgnE s a k = 0
  · rw [if_pos h]
    unfold sgnE at h
    by_cases hk : k < 1 ∨ 64 < k
    · rw [if_pos hk] at h; omega
    · rw [if_neg hk] at h
      by_cases hr : 8 * s.size < a + k.toNat
      · rw [if_pos hr] at h; omega
      · omega
  · rw [if_neg h]; exact ha

theorem lead_room (s : ByteArray) (a : Nat) : lead (ahead s a) ≤ 8 * s.size - a := by
  have := lead_le (ahead s a)
  rwa [ahead_length] at this

theorem unaA_le (s : ByteArray) (a : Nat) (ha : a ≤ 8 * s.size) : unaA s a ≤ 8 * s.size := by
  have hr := lead_room s a
  unfold unaA
  by_cases h : unaE s a = 0
  · rw [if_pos h]
    unfold unaE at h
    by_cases hk : 16777216 < lead (ahead s a)
    · rw [if_pos hk] at h; omega
    · rw [if_neg hk] at h
      by_cases he : lead (ahead s a) = 8 * s.size - a
      · rw [if_pos he] at h; omega
      · omega
  · rw [if_neg h]; exact ha

theorem ricA_le (s : ByteArray) (a : Nat) (k : Int) (ha : a ≤ 8 * s.size) : ricA s a k ≤ 8 * s.size := by
  unfold ricA
  by_cases h : ricE s a k = 0
  · rw [if_pos h]
    unfold ricE at h
    by_cases hk : k < 0 ∨ 30 < k
    · rw [if_pos hk] at h; omega
    · rw [if_neg hk] at h
      by_cases hu : unaE s a = 0
      · rw [if_pos hu] at h
        by_cases hr : 8 * s.size < a + lead (ahead s a) + 1 + k.toNat
        · rw [if_pos hr] at h; omega
        · omega
      · rw [if_neg hu] at h
        exact absurd h hu
  · rw [if_neg h]; exact ha

theorem padA_le (s : ByteArray) (a : Nat) (ha : a ≤ 8 * s.size) : a + padOf a ≤ 8 * s.size := by unfold padOf; omega

theorem get_all (s : ByteArray) (hs : s.size ≤ 1000000000000000000) (a : Nat) (ha : a ≤ 8 * s.size) (w : World) (q : Nat) (k : Int) (h : Rd w q s a) : Calls Try.prog 74 #[.pointer (some ⟨q, 0, none⟩), .int .i64 k] w fun e w' => e = .returned (.tuple #[.int .u64 (getV s a k), .int .i64 (getE s a k)]) ∧ Rd w' q s (getA s a k) ∧ Stays (only q) w w' := by
  by_cases hk : k < 0 ∨ 64 < k
  · have hE : getE s a k = 11 := by unfold getE; rw [if_pos hk]
    have hV : getV s a k = 0 := by unfold getV; rw [hE]; rfl
    have hA : getA s a k = a := by unfold getA; rw [hE]; rfl
    rw [hE, hV, hA]
    exact (get_width q k hk w).mono (fun e w' ⟨he, hw⟩ => ⟨he, by rw [hw]; exact h, by rw [hw]; exact only_same w⟩)
  · obtain ⟨j, rfl⟩ : ∃ j : Nat, k = (j : Int) := ⟨k.toNat, by omega⟩
    by_cases he : 8 * s.size < a + j
    · have hE : getE s a (j : Int) = 10 := by unfold getE; rw [if_neg hk, if_pos (by simpa using he)]
      have hV : getV s a (j : Int) = 0 := by unfold getV; rw [hE]; rfl
      have hA : getA s a (j : Int) = a := by unfold getA; rw [hE]; rfl
      rw [hE, hV, hA]
      exact (get_end q s hs a ha j (by omega) he w h).mono (fun e w' ⟨he, n, hw⟩ => ⟨he, by rw [hw]; exact h.drewN n, by rw [hw]; exact only_drewN w n⟩)
    · have hE : getE s a (j : Int) = 0 := by unfold getE; rw [if_neg hk, if_neg (by simpa using he)]
      have hV : getV s a (j : Int) = (bitsAt s a j : Int) := by unfold getV; rw [hE]; rfl
      have hA : getA s a (j : Int) = a + j := by unfold getA; rw [hE]; rfl
      rw [hE, hV, hA]
      exact get_ok q s hs a j (by omega) (by omega) w h

theorem refget_all (s : ByteArray) (hs : s.size ≤ 1000000000000000000) (a : Nat) (ha : a ≤ 8 * s.size) (w : World) (x : Nat) (k : Int) (h : Rr w x s a) : Calls Try.prog 46 #[.pointer (some ⟨x, 0, none⟩), .int .i64 k] w fun e w' => e = .returned (.tuple #[.int .u64 (getV s a k), .int .i64 (getE s a k)]) ∧ Rr w' x s (getA s a k) ∧ Stays (only x) w w' := by
  by_cases hk : k < 0 ∨ 64 < k
  · have hE : getE s a k = 11 := by unfold getE; rw [if_pos hk]
    have hV : getV s a k = 0 := by unfold getV; rw [hE]; rfl
    have hA : getA s a k = a := by unfold getA; rw [hE]; rfl
    rw [hE, hV, hA]
    exact (refget_width x k hk w).mono (fun e w' ⟨he, hw⟩ => ⟨he, by rw [hw]; exact h, by rw [hw]; exact only_same w⟩)
  · obtain ⟨j, rfl⟩ : ∃ j : Nat, k = (j : Int) := ⟨k.toNat, by omega⟩
    by_cases he : 8 * s.size < a + j
    · have hE : getE s a (j : Int) = 10 := by unfold getE; rw [if_neg hk, if_pos (by simpa using he)]
      have hV : getV s a (j : Int) = 0 := by unfold getV; rw [hE]; rfl
      have hA : getA s a (j : Int) = a := by unfold getA; rw [hE]; rfl
      rw [hE, hV, hA]
      exact (refget_end x s hs a ha j (by omega) he w h).mono (fun e w' ⟨he, n, hw⟩ => ⟨he, by rw [hw]; exact h.drewN n, by rw [hw]; exact only_drewN w n⟩)
    · have hE : getE s a (j : Int) = 0 := by unfold getE; rw [if_neg hk, if_neg (by simpa using he)]
      have hV : getV s a (j : Int) = (bitsAt s a j : Int) := by unfold getV; rw [hE]; rfl
      have hA : getA s a (j : Int) = a + j := by unfold getA; rw [hE]; rfl
      rw [hE, hV, hA]
      exact refget_ok x s hs a j (by omega) (by omega) w h

theorem signed_all (s : ByteArray) (hs : s.size ≤ 1000000000000000000) (a : Nat) (ha : a ≤ 8 * s.size) (w : World) (q : Nat) (k : Int) (h : Rd w q s a) : Calls Try.prog 76 #[.pointer (some ⟨q, 0, none⟩), .int .i64 k] w fun e w' => e = .returned (.tuple #[.int .i64 (sgnV s a k), .int .i64 (sgnE s a k)]) ∧ Rd w' q s (sgnA s a k) ∧ Stays (only q) w w' := by
  by_cases hk : k < 1 ∨ 64 < k
  · have hE : sgnE s a k = 11 := by unfold sgnE; rw [if_pos hk]
    have hV : sgnV s a k = 0 := by unfold sgnV; rw [hE]; rfl
    have hA : sgnA s a k = a := by unfold sgnA; rw [hE]; rfl
    rw [hE, hV, hA]
    exact (signed_width q k hk w).mono (fun e w' ⟨he, hw⟩ => ⟨he, by rw [hw]; exact h, by rw [hw]; exact only_same w⟩)
  · obtain ⟨j, rfl⟩ : ∃ j : Nat, k = (j : Int) := ⟨k.toNat, by omega⟩
    by_cases he : 8 * s.size < a + j
    · have hE : sgnE s a (j : Int) = 10 := by unfold sgnE; rw [if_neg hk, if_pos (by simpa using he)]
      have hV : sgnV s a (j : Int) = 0 := by unfold sgnV; rw [hE]; rfl
      have hA : sgnA s a (j : Int) = a := by unfold sgnA; rw [hE]; rfl
      rw [hE, hV, hA]
      exact (signed_end q s hs a ha j (by omega) (by omega) he w h).mono (fun e w' ⟨he, n, hw⟩ => ⟨he, by rw [hw]; exact h.drewN n, by rw [hw]; exact only_drewN w n⟩)
    · have hE : sgnE s a (j : Int) = 0 := by unfold sgnE; rw [if_neg hk, if_neg (by simpa using he)]
      have hV : sgnV s a (j : Int) = sgn (bitsAt s a j) j := by unfold sgnV; rw [hE]; rfl
      have hA : sgnA s a (j : Int) = a + j := by unfold sgnA; rw [hE]; rfl
      rw [hE, hV, hA]
      exact signed_ok q s hs a j (by omega) (by omega) (by omega) w h

theorem refsigned_all (s : ByteArray) (hs : s.size ≤ 1000000000000000000) (a : Nat) (ha : a ≤ 8 * s.size) (w : World) (x : Nat) (k : Int) (hk64 : k ≤ 64) (h : Rr w x s a) : Calls Try.prog 48 #[.pointer (some ⟨x, 0, none⟩), .int .i64 k] w fun e w' => e = .returned (.tuple #[.int .i64 (sgnV s a k), .int .i64 (sgnE s a k)]) ∧ Rr w' x s (sgnA s a k) ∧ Stays (only x) w w' := by
  by_cases hk : k < 1
  · have hE : sgnE s a k = 11 := by unfold sgnE; rw [if_pos (.inl hk)]
    have hV : sgnV s a k = 0 := by unfold sgnV; rw [hE]; rfl
    have hA : sgnA s a k = a := by unfold sgnA; rw [hE]; rfl
    rw [hE, hV, hA]
    exact (refsigned_low x k hk w).mono (fun e w' ⟨he, hw⟩ => ⟨he, by rw [hw]; exact h, by rw [hw]; exact only_same w⟩)
  · have hk' : ¬ (k < 1 ∨ 64 < k) := by omega
    obtain ⟨j, rfl⟩ : ∃ j : Nat, k = (j : Int) := ⟨k.toNat, by omega⟩
    by_cases he : 8 * s.size < a + j
    · have hE : sgnE s a (j : Int) = 10 := by unfold sgnE; rw [if_neg hk', if_pos (by simpa using he)]
      have hV : sgnV s a (j : Int) = 0 := by unfold sgnV; rw [hE]; rfl
      have hA : sgnA s a (j : Int) = a := by unfold sgnA; rw [hE]; rfl
      rw [hE, hV, hA]
      exact (refsigned_end x s hs a ha j (by omega) (by omega) he w h).mono (fun e w' ⟨he, n, hw⟩ => ⟨he, by rw [hw]; exact h.drewN n, by rw [hw]; exact only_drewN w n⟩)
    · have hE : sgnE s a (j : Int) = 0 := by unfold sgnE; rw [if_neg hk', if_neg (by simpa using he)]
      have hV : sgnV s a (j : Int) = sgn (bitsAt s a j) j := by unfold sgnV; rw [hE]; rfl
      have hA : sgnA s a (j : Int) = a + j := by unfold sgnA; rw [hE]; rfl
      rw [hE, hV, hA]
      exact refsigned_ok x s hs a j (by omega) (by omega) (by omega) w h

theorem unary_all (s : ByteArray) (hs : s.size ≤ 1000000000000000000) (a : Nat) (ha : a ≤ 8 * s.size) (w : World) (q : Nat) (h : Rd w q s a) : Calls Try.prog 79 #[.pointer (some ⟨q, 0, none⟩)] w fun e w' => e = .returned (.tuple #[.int .i64 (unaV s a), .int .i64 (unaE s a)]) ∧ Rd w' q s (unaA s a) ∧ Stays (only q) w w' := by
  by_cases hl : 16777216 < lead (ahead s a)
  · have hE : unaE s a = 11 := by unfold unaE; rw [if_pos hl]
    have hV : unaV s a = 0 := by unfold unaV; rw [hE]; rfl
    have hA : unaA s a = a := by unfold unaA; rw [hE]; rfl
    rw [hE, hV, hA]
    exact (runary_width q s hs a ha hl w h).mono (fun e w' ⟨he, n, hw⟩ => ⟨he, by rw [hw]; exact h.drewN n, by rw [hw]; exact only_drewN w n⟩)
  · by_cases he : lead (ahead s a) = 8 * s.size - a
    · have hE : unaE s a = 10 := by unfold unaE; rw [if_neg hl, if_pos he]
      have hV : unaV s a = 0 := by unfold unaV; rw [hE]; rfl
      have hA : unaA s a = a := by unfold unaA; rw [hE]; rfl
      rw [hE, hV, hA]
      exact (runary_end q s hs a ha (by omega) he w h).mono (fun e w' ⟨he, n, hw⟩ => ⟨he, by rw [hw]; exact h.drewN n, by rw [hw]; exact only_drewN w n⟩)
    · have hr := lead_room s a
      have hE : unaE s a = 0 := by unfold unaE; rw [if_neg hl, if_neg he]
      have hV : unaV s a = (lead (ahead s a) : Int) := by unfold unaV; rw [hE]; rfl
      have hA : unaA s a = a + lead (ahead s a) + 1 := by unfold unaA; rw [hE]; rfl
      rw [hE, hV, hA]
      exact runary_ok q s hs a ha _ rfl (by omega) (by omega) w h

theorem refunary_all (s : ByteArray) (hs : s.size ≤ 1000000000000000000) (a : Nat) (ha : a ≤ 8 * s.size) (w : World) (x : Nat) (h : Rr w x s a) : Calls Try.prog 67 #[.pointer (some ⟨x, 0, none⟩)] w fun e w' => e = .returned (.tuple #[.int .i64 (unaV s a), .int .i64 (unaE s a)]) ∧ Rr w' x s (unaA s a) ∧ Stays (only x) w w' := by
  refine (refunary_spec x s hs a ha w h).mono ?_
  rintro e w' (⟨hl, rfl, rfl⟩ | ⟨hl, he, rfl, rfl⟩ | ⟨hl, he, rfl, hR, hS⟩)
  · have hE : unaE s a = 11 := by unfold unaE; rw [if_pos hl]
    have hV : unaV s a = 0 := by unfold unaV; rw [hE]; rfl
    have hA : unaA s a = a := by unfold unaA; rw [hE]; rfl
    rw [hE, hV, hA]
    exact ⟨rfl, h, only_same _⟩
  · have hE : unaE s a = 10 := by unfold unaE; rw [if_neg (by omega), if_pos he]
    have hV : unaV s a = 0 := by unfold unaV; rw [hE]; rfl
    have hA : unaA s a = a := by unfold unaA; rw [hE]; rfl
    rw [hE, hV, hA]
    exact ⟨rfl, h, only_same _⟩
  · have hE : unaE s a = 0 := by unfold unaE; rw [if_neg (by omega), if_neg (by omega)]
    have hV : unaV s a = (lead (ahead s a) : Int) := by unfold unaV; rw [hE]; rfl
    have hA : unaA s a = a + lead (ahead s a) + 1 := by unfold unaA; rw [hE]; rfl
    rw [hE, hV, hA]
    exact ⟨rfl, hR, hS⟩

theorem rice_all (s : ByteArray) (hs : s.size ≤ 1000000000000000000) (a : Nat) (ha : a ≤ 8 * s.size) (w : World) (q : Nat) (k : Int) (h : Rd w q s a) : Calls Try.prog 75 #[.pointer (some ⟨q, 0, none⟩), .int .i64 k] w fun e w' => e = .returned (.tuple #[.int .i64 (ricV s a k), .int .i64 (ricE s a k)]) ∧ Rd w' q s (ricA s a k) ∧ Stays (only q) w w' := by
  by_cases hk : k < 0 ∨ 30 < k
  · have hE : ricE s a k = 11 := by unfold ricE; rw [if_pos hk]
    have hV : ricV s a k = 0 := by unfold ricV; rw [hE]; rfl
    have hA : ricA s a k = a := by unfold ricA; rw [hE]; rfl
    rw [hE, hV, hA]
    exact (rrice_width q k hk w).mono (fun e w' ⟨he, hw⟩ => ⟨he, by rw [hw]; exact h, by rw [hw]; exact only_same w⟩)
  · obtain ⟨j, rfl⟩ : ∃ j : Nat, k = (j : Int) := ⟨k.toNat, by omega⟩
    by_cases hl : 16777216 < lead (ahead s a)
    · have hU : unaE s a = 11 := by unfold unaE; rw [if_pos hl]
      have hE : ricE s a (j : Int) = 11 := by unfold ricE; rw [if_neg hk, hU]; rfl
      have hV : ricV s a (j : Int) = 0 := by unfold ricV; rw [hE]; rfl
      have hA : ricA s a (j : Int) = a := by unfold ricA; rw [hE]; rfl
      rw [hE, hV, hA]
      exact rrice_uerr q s hs a ha j (by omega) hl w h
    · by_cases he : lead (ahead s a) = 8 * s.size - a
      · have hU : unaE s a = 10 := by unfold unaE; rw [if_neg hl, if_pos he]
        have hE : ricE s a (j : Int) = 10 := by unfold ricE; rw [if_neg hk, hU]; rfl
        have hV : ricV s a (j : Int) = 0 := by unfold ricV; rw [hE]; rfl
        have hA : ricA s a (j : Int) = a := by unfold ricA; rw [hE]; rfl
        rw [hE, hV, hA]
        exact rrice_uend q s hs a ha j (by omega) (by omega) he w h
      · have hr := lead_room s a
        have hU : unaE s a = 0 := by unfold unaE; rw [if_neg hl, if_neg he]
        by_cases hg : 8 * s.size < a + lead (ahead s a) + 1 + j
        · have hE : ricE s a (j : Int) = 10 := by unfold ricE; rw [if_neg hk, if_pos hU, if_pos (by simpa using hg)]
          have hV : ricV s a (j : Int) = 0 := by unfold ricV; rw [hE]; rfl
          have hA : ricA s a (j : Int) = a := by unfold ricA; rw [hE]; rfl
          rw [hE, hV, hA]
          exact rrice_gend q s hs a ha j (by omega) _ rfl (by omega) (by omega) hg w h
        · have hE : ricE s a (j : Int) = 0 := by unfold ricE; rw [if_neg hk, if_pos hU, if_neg (by simpa using hg)]
          have hV : ricV s a (j : Int) = unfoldN (lead (ahead s a) * 2 ^ j + bitsAt s (a + lead (ahead s a) + 1) j) := by unfold ricV; rw [hE]; rfl
          have hA : ricA s a (j : Int) = a + lead (ahead s a) + 1 + j := by unfold ricA; rw [hE]; rfl
          rw [hE, hV, hA]
          exact rrice_ok q s hs a ha j (by omega) _ rfl (by omega) (by omega) w h

theorem refrice_all (s : ByteArray) (hs : s.size ≤ 1000000000000000000) (a : Nat) (ha : a ≤ 8 * s.size) (w : World) (x : Nat) (k : Int) (h : Rr w x s a) : Calls Try.prog 47 #[.pointer (some ⟨x, 0, none⟩), .int .i64 k] w fun e w' => e = .returned (.tuple #[.int .i64 (ricV s a k), .int .i64 (ricE s a k)]) ∧ Rr w' x s (ricA s a k) ∧ Stays (only x) w w' := by
  by_cases hk : k < 0 ∨ 30 < k
  · have hE : ricE s a k = 11 := by unfold ricE; rw [if_pos hk]
    have hV : ricV s a k = 0 := by unfold ricV; rw [hE]; rfl
    have hA : ricA s a k = a := by unfold ricA; rw [hE]; rfl
    rw [hE, hV, hA]
    exact (refrice_width x k hk w).mono (fun e w' ⟨he, hw⟩ => ⟨he, by rw [hw]; exact h, by rw [hw]; exact only_same w⟩)
  · obtain ⟨j, rfl⟩ : ∃ j : Nat, k = (j : Int) := ⟨k.toNat, by omega⟩
    by_cases hl : 16777216 < lead (ahead s a)
    · have hU : unaE s a = 11 := by unfold unaE; rw [if_pos hl]
      have hE : ricE s a (j : Int) = 11 := by unfold ricE; rw [if_neg hk, hU]; rfl
      have hV : ricV s a (j : Int) = 0 := by unfold ricV; rw [hE]; rfl
      have hA : ricA s a (j : Int) = a := by unfold ricA; rw [hE]; rfl
      rw [hE, hV, hA]
      exact (refrice_uerr x s hs a ha j (by omega) hl w h).mono (fun e w' ⟨he, hw⟩ => ⟨he, by rw [hw]; exact h, by rw [hw]; exact only_same w⟩)
    · by_cases he : lead (ahead s a) = 8 * s.size - a
      · have hU : unaE s a = 10 := by unfold unaE; rw [if_neg hl, if_pos he]
        have hE : ricE s a (j : Int) = 10 := by unfold ricE; rw [if_neg hk, hU]; rfl
        have hV : ricV s a (j : Int) = 0 := by unfold ricV; rw [hE]; rfl
        have hA : ricA s a (j : Int) = a := by unfold ricA; rw [hE]; rfl
        rw [hE, hV, hA]
        exact (refrice_uend x s hs a ha j (by omega) (by omega) he w h).mono (fun e w' ⟨he, hw⟩ => ⟨he, by rw [hw]; exact h, by rw [hw]; exact only_same w⟩)
      · have hr := lead_room s a
        have hU : unaE s a = 0 := by unfold unaE; rw [if_neg hl, if_neg he]
        by_cases hg : 8 * s.size < a + lead (ahead s a) + 1 + j
        · have hE : ricE s a (j : Int) = 10 := by unfold ricE; rw [if_neg hk, if_pos hU, if_pos (by simpa using hg)]
          have hV : ricV s a (j : Int) = 0 := by unfold ricV; rw [hE]; rfl
          have hA : ricA s a (j : Int) = a := by unfold ricA; rw [hE]; rfl
          rw [hE, hV, hA]
          exact refrice_gend x s hs a ha j (by omega) _ rfl (by omega) (by omega) hg w h
        · have hE : ricE s a (j : Int) = 0 := by unfold ricE; rw [if_neg hk, if_pos hU, if_neg (by simpa using hg)]
          have hV : ricV s a (j : Int) = unfoldN (lead (ahead s a) * 2 ^ j + bitsAt s (a + lead (ahead s a) + 1) j) := by unfold ricV; rw [hE]; rfl
          have hA : ricA s a (j : Int) = a + lead (ahead s a) + 1 + j := by unfold ricA; rw [hE]; rfl
          rw [hE, hV, hA]
          exact refrice_ok x s hs a ha j (by omega) _ rfl (by omega) (by omega) w h
/-- A list of deeds in memory: kinds, widths, numbers, unsigned numbers. -/
structure Deeds (w : World) (ao : Option Addr) (len : Nat) (b off : Nat) (K W N U : Nat → Int) : Prop where
  addr : 0 < len → ao = some ⟨b, off, none⟩ ∧ b < w.heap.size
  ck : ∀ i, i < len → w.cell? ⟨b, off + i * 4, none⟩ = some (.int .i64 (K i))
  cw : ∀ i, i < len → w.cell? ⟨b, off + i * 4 + 1, none⟩ = some (.int .i64 (W i))
  cn : ∀ i, i < len → w.cell? ⟨b, off + i * 4 + 2, none⟩ = some (.int .i64 (N i))
  cu : ∀ i, i < len → w.cell? ⟨b, off + i * 4 + 3, none⟩ = some (.int .u64 (U i))
  wb : ∀ i, i < len → -9223372036854775808 ≤ W i ∧ W i ≤ 9223372036854775807
  nb : ∀ i, i < len → -9223372036854775808 ≤ N i ∧ N i ≤ 9223372036854775807
  ub : ∀ i, i < len → 0 ≤ U i ∧ U i ≤ 18446744073709551615
end Go.Proofs.Ytdlakbgcflekkaa
