/- Own text: what each read answers, as one function for the program's reader and for the document's; a list of deeds in memory. -/
import Derived.Test.YtfmpiidnemhijaaDoorAligns
namespace Go.Proofs.YtfmpiidnemhijaaDoor
open Go.RowKit
set_option linter.unusedSimpArgs false
set_option linter.unusedVariables false


def getE (s : ByteArray) (a : Nat) (k : Int) : Int := if k < 0 ∨ 64 < k then 11 else if 8 * s.size < a + k.toNat then 10 else 0
def getV (s : ByteArray) (a : Nat) (k : Int) : Int := if getE s a k = 0 then (bitsAt s a k.toNat : Int) else 0
def getA (s : ByteArray) (a : Nat) (k : Int) : Nat := if getE s a k = 0 then a + k.toNat else a

def sgnE (s : ByteArray) (a : Nat) (k : Int) : Int := if k < 1 ∨ 64 < k then 11 else if 8 * s.size < a + k.toNat then 10 else 0
def sgnV (s : ByteArray) (a : Nat) (k : Int) : Int := if sgnE s a k = 0 then sgn (bitsAt s a k.toNat) k.toNat else 0
def sgnA (s : ByteArray) (a : Nat) (k : Int) : Nat := if sgnE s a k = 0 then a + k.toNat else a

def unaE (s : ByteArray) (a : Nat) : Int := if 16777216 < lead (ahead s a) then 11 else if lead (ahead s a) = 8 * s.size - a then 10 else 0
def unaV (s : ByteArray) (a : Nat) : Int := if unaE s a = 0 then (lead (ahead s a) : Int) else 0
def unaA (s : ByteArray) (a : Nat) : Nat := if unaE s a = 0 then a + lead (ahead s a) + 1 else a

def ricE (s : ByteArray) (a : Nat) (k : Int) : Int := if k < 0 ∨ 30 < k then 11 else if unaE s a = 0 then (if 8 * s.size < a + lead (ahead s a) + 1 + k.toNat then 10 else 0) else unaE s a
def ricV (s : ByteArray) (a : Nat) (k : Int) : Int := if ricE s a k = 0 then unfoldN (lead (ahead s a) * 2 ^ k.toNat + bitsAt s (a + lead (ahead s a) + 1) k.toNat) else 0
def ricA (s : ByteArray) (a : Nat) (k : Int) : Nat := if ricE s a k = 0 then a + lead (ahead s a) + 1 + k.toNat else a

theorem only_same {q : Nat} (w : World) : Stays (only q) w w := Stays.refl _ _
theorem only_drewN {q : Nat} (w : World) (n : Nat) : Stays (only q) w (w.drewN n) := (Stays.refl _ _).drewN n

theorem getA_le (s : ByteArray) (a : Nat) (k : Int) (ha : a ≤ 8 * s.size) : getA s a k ≤ 8 * s.size := by
  unfold getA
  by_cases h : getE s a k = 0
  · rw [if_pos h]
    unfold getE at h
    by_cases hk : k < 0 ∨ 64 < k
    · rw [if_pos hk] at h; omega
    · rw [if_neg hk] at h
      by_cases hr : 8 * s.size < a + k.toNat
      · rw [if_pos hr] at h; omega
      · omega
  · rw [if_neg h]; exact ha

theorem sgnA_le (s : ByteArray) (a : Nat) (k : Int) (ha : a ≤ 8 * s.size) : sgnA s a k ≤ 8 * s.size := by
  unfold sgnA
  by_cases h : sgnE s a k = 0
  · rw [if_pos h]
    unfold sgnE at h
    by_cases hk : k < 1 ∨ 64 < k
    · rw [if_pos hk] at h; omega
    · rw [if_neg hk] at h
      by_cases hr : 8 * s.size < a + k.toNat
      · rw [if_pos hr] at h; omega
      · omega
  · rw [if_neg h]; exact ha

theorem lead_room (s : ByteArray) (a : Nat) : lead (ahead s a) ≤ 8 * s.size - a := by
  have := lead_le (ahead s a)
  rwa [ahead_length] at this

theorem unaA_le (s : ByteArray) (a : Nat) (ha : a ≤ 8 * s.size) : unaA s a ≤ 8 * s.size := by
  have hr := lead_room s a
  unfold unaA
  by_cases h : unaE s a = 0
  · rw [if_pos h]
    unfold unaE at h
    by_cases hk : 16777216 < lead (ahead s a)
    · rw [if_pos hk] at h; omega
    · rw [if_neg hk] at h
      by_cases he : lead (ahead s a) = 8 * s.size - a
      · rw [if_pos he] at h; omega
      · omega
  · rw [if_neg h]; exact ha

theorem ricA_le (s : ByteArray) (a : Nat) (k : Int) (ha : a ≤ 8 * s.size) : ricA s a k ≤ 8 * s.size := by
  unfold ricA
  by_cases h : ricE s a k = 0
  · rw [if_pos h]
    unfold ricE at h
    by_cases hk : k < 0 ∨ 30 < k
    · rw [if_pos hk] at h; omega
    · rw [if_neg hk] at h
      by_cases hu : unaE s a = 0
      · rw [if_pos hu] at h
        by_cases hr : 8 * s.size < a + lead (ahead s a) + 1 + k.toNat
        · rw [if_pos hr] at h; omega
        · omega
      · rw [if_neg hu] at h
        exact absurd h hu
  · rw [if_neg h]; exact ha

theorem padA_le (s : ByteArray) (a : Nat) (ha : a ≤ 8 * s.size) : a + padOf a ≤ 8 * s.size := by unfold padOf; omega

theorem get_all (s : ByteArray) (hs : s.size ≤ 1000000000000000000) (a : Nat) (ha : a ≤ 8 * s.size) (w : World) (q : Nat) (k : Int) (h : Rd w q s a) : Calls Tryd.prog 42 #[.pointer (some ⟨q, 0, none⟩), .int .i64 k] w fun e w' => e = .returned (.tuple #[.int .u64 (getV s a k), .int .i64 (getE s a k)]) ∧ Rd w' q s (getA s a k) ∧ Stays (only q) w w' := by
  by_cases hk : k < 0 ∨ 64 < k
  · have hE : getE s a k = 11 := by unfold getE; rw [if_pos hk]
    have hV : getV s a k = 0 := by unfold getV; rw [hE]; rfl
    have hA : getA s a k = a := by unfold getA; rw [hE]; rfl
    rw [hE, hV, hA]
    exact (get_width q k hk w).mono (fun e w' ⟨he, hw⟩ => ⟨he, by rw [hw]; exact h, by rw [hw]; exact only_same w⟩)
  · obtain ⟨j, rfl⟩ : ∃ j : Nat, k = (j : Int) := ⟨k.toNat, by omega⟩
    by_cases he : 8 * s.size < a + j
    · have hE : getE s a (j : Int) = 10 := by unfold getE; rw [if_neg hk, if_pos (by simpa using he)]
      have hV : getV s a (j : Int) = 0 := by unfold getV; rw [hE]; rfl
      have hA : getA s a (j : Int) = a := by unfold getA; rw [hE]; rfl
      rw [hE, hV, hA]
      exact (get_end q s hs a ha j (by omega) he w h).mono (fun e w' ⟨he, n, hw⟩ => ⟨he, by rw [hw]; exact h.drewN n, by rw [hw]; exact only_drewN w n⟩)
    · have hE : getE s a (j : Int) = 0 := by unfold getE; rw [if_neg hk, if_neg (by simpa using he)]
      have hV : getV s a (j : Int) = (bitsAt s a j : Int) := by unfold getV; rw [hE]; rfl
      have hA : getA s a (j : Int) = a + j := by unfold getA; rw [hE]; rfl
      rw [hE, hV, hA]
      exact get_ok q s hs a j (by omega) (by omega) w h

theorem refget_all (s : ByteArray) (hs : s.size ≤ 1000000000000000000) (a : Nat) (ha : a ≤ 8 * s.size) (w : World) (x : Nat) (k : Int) (h : Rr w x s a) : Calls Tryd.prog 22 #[.pointer (some ⟨x, 0, none⟩), .int .i64 k] w fun e w' => e = .returned (.tuple #[.int .u64 (getV s a k), .int .i64 (getE s a k)]) ∧ Rr w' x s (getA s a k) ∧ Stays (only x) w w' := by
  by_cases hk : k < 0 ∨ 64 < k
  · have hE : getE s a k = 11 := by unfold getE; rw [if_pos hk]
    have hV : getV s a k = 0 := by unfold getV; rw [hE]; rfl
    have hA : getA s a k = a := by unfold getA; rw [hE]; rfl
    rw [hE, hV, hA]
    exact (refget_width x k hk w).mono (fun e w' ⟨he, hw⟩ => ⟨he, by rw [hw]; exact h, by rw [hw]; exact only_same w⟩)
  · obtain ⟨j, rfl⟩ : ∃ j : Nat, k = (j : Int) := ⟨k.toNat, by omega⟩
    by_cases he : 8 * s.size < a + j
    · have hE : getE s a (j : Int) = 10 := by unfold getE; rw [if_neg hk, if_pos (by simpa using he)]
      have hV : getV s a (j : Int) = 0 := by unfold getV; rw [hE]; rfl
      have hA : getA s a (j : Int) = a := by unfold getA; rw [hE]; rfl
      rw [hE, hV, hA]
      exact (refget_end x s hs a ha j (by omega) he w h).mono (fun e w' ⟨he, n, hw⟩ => ⟨he, by rw [hw]; exact h.drewN n, by rw [hw]; exact only_drewN w n⟩)
    · have hE : getE s a (j : Int) = 0 := by unfold getE; rw [if_neg hk, if_neg (by simpa using he)]
      have hV : getV s a (j : Int) = (bitsAt s a j : Int) := by unfold getV; rw [hE]; rfl
      have hA : getA s a (j : Int) = a + j := by unfold getA; rw [hE]; rfl
      rw [hE, hV, hA]
      exact refget_ok x s hs a j (by omega) (by omega) w h

/-- A list of deeds in memory: kinds, widths, numbers, unsigned numbers. -/
structure Deeds (w : World) (ao : Option Addr) (len : Nat) (b off : Nat) (K W N U : Nat → Int) : Prop where
  addr : 0 < len → ao = some ⟨b, off, none⟩ ∧ b < w.heap.size
  ck : ∀ i, i < len → w.cell? ⟨b, off + i * 4, none⟩ = some (.int .i64 (K i))
  cw : ∀ i, i < len → w.cell? ⟨b, off + i * 4 + 1, none⟩ = some (.int .i64 (W i))
  cn : ∀ i, i < len → w.cell? ⟨b, off + i * 4 + 2, none⟩ = some (.int .i64 (N i))
  cu : ∀ i, i < len → w.cell? ⟨b, off + i * 4 + 3, none⟩ = some (.int .u64 (U i))
  wb : ∀ i, i < len → -9223372036854775808 ≤ W i ∧ W i ≤ 9223372036854775807
  nb : ∀ i, i < len → -9223372036854775808 ≤ N i ∧ N i ≤ 9223372036854775807
  ub : ∀ i, i < len → 0 ≤ U i ∧ U i ≤ 18446744073709551615
end Go.Proofs.YtfmpiidnemhijaaDoor
