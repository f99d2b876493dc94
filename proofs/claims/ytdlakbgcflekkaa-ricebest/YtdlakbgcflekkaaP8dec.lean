/- Own text: how residuals are read: plain functions. -/
import Derived.Test.YtdlakbgcflekkaaP8plain
namespace Go.Proofs.Ytdlakbgcflekkaa
open Go.RowKit
set_option linter.unusedSimpArgs false
set_option linter.unusedVariables false

def rdE (s : ByteArray) (a : Nat) (k e : Int) : Int := if e = -1 then ricE s a k else if e = 0 then 0 else sgnE s a e
def rdV (s : ByteArray) (a : Nat) (k e : Int) : Int := if e = -1 then ricV s a k else if e = 0 then 0 else sgnV s a e
def rdA (s : ByteArray) (a : Nat) (k e : Int) : Nat := if e = -1 then ricA s a k else if e = 0 then a else sgnA s a e
theorem rdA_le (s : ByteArray) (a : Nat) (k e : Int) (h : a ≤ 8 * s.size) : rdA s a k e ≤ 8 * s.size := by
  unfold rdA; split
  · exact ricA_le s a k h
  · split
    · exact h
    · exact sgnA_le s a e h
/-- so many numbers, from a place on. -/
def rdAll (s : ByteArray) (k e : Int) : Nat → Nat → Option (List Int × Nat)
  | 0, a => some ([], a)
  | n + 1, a => match rdAll s k e n a with
    | none => none
    | some (X, a1) => if rdE s a1 k e = 0 then some (X ++ [rdV s a1 k e], rdA s a1 k e) else none
theorem rdAll_none {s : ByteArray} {k e : Int} {n : Nat} {a : Nat} (m : Nat) (h : rdAll s k e n a = none) (hm : n ≤ m) : rdAll s k e m a = none := by
  induction m with
  | zero => rw [show n = 0 by omega] at h; exact h
  | succ m ih =>
    by_cases e1 : n = m + 1
    · rw [← e1]; exact h
    · unfold rdAll; rw [ih (by omega)]
theorem rdAll_some {s : ByteArray} {k e : Int} {n : Nat} {a a1 : Nat} {X : List Int} (h : rdAll s k e n a = some (X, a1)) (h0 : rdE s a1 k e = 0) : rdAll s k e (n + 1) a = some (X ++ [rdV s a1 k e], rdA s a1 k e) := by
  unfold rdAll; rw [h]; simp only; rw [if_pos h0]
theorem rdAll_stop {s : ByteArray} {k e : Int} {n : Nat} {a a1 : Nat} {X : List Int} (h : rdAll s k e n a = some (X, a1)) (h0 : ¬ rdE s a1 k e = 0) : rdAll s k e (n + 1) a = none := by
  unfold rdAll; rw [h]; simp only; rw [if_neg h0]
theorem rdAll_len {s : ByteArray} {k e : Int} {n : Nat} {a a1 : Nat} {X : List Int} (h : rdAll s k e n a = some (X, a1)) : X.length = n := by
  induction n generalizing X a1 with
  | zero => unfold rdAll at h; cases h; rfl
  | succ n ih =>
    unfold rdAll at h
    cases hq : rdAll s k e n a with
    | none => rw [hq] at h; cases h
    | some p =>
      obtain ⟨Y, a2⟩ := p
      rw [hq] at h
      simp only at h
      split at h
      · cases h; rw [List.length_append, ih hq]; rfl
      · cases h
theorem rdAll_le {s : ByteArray} {k e : Int} {n : Nat} {a a1 : Nat} {X : List Int} (h : rdAll s k e n a = some (X, a1)) (ha : a ≤ 8 * s.size) : a1 ≤ 8 * s.size := by
  induction n generalizing X a1 with
  | zero => unfold rdAll at h; cases h; exact ha
  | succ n ih =>
    unfold rdAll at h
    cases hq : rdAll s k e n a with
    | none => rw [hq] at h; cases h
    | some p =>
      obtain ⟨Y, a2⟩ := p
      rw [hq] at h
      simp only at h
      split at h
      · cases h; exact rdA_le _ _ _ _ (ih hq)
      · cases h
theorem rdAll_zero {s : ByteArray} {k : Int} (n a : Nat) : rdAll s k 0 n a = some (List.replicate n 0, a) := by
  induction n with
  | zero => rfl
  | succ n ih =>
    unfold rdAll
    rw [ih]
    simp only
    have h1 : rdE s a k 0 = 0 := by unfold rdE; rw [if_neg (by decide), if_pos rfl]
    have h2 : rdV s a k 0 = 0 := by unfold rdV; rw [if_neg (by decide), if_pos rfl]
    have h3 : rdA s a k 0 = a := by unfold rdA; rw [if_neg (by decide), if_pos rfl]
    rw [if_pos h1, h2, h3, List.replicate_succ']
/-- what stands ahead of a partition's numbers. -/
def rdHead (s : ByteArray) (a : Nat) (m : Int) : Option (Int × Int × Nat) :=
  if getE s a (4 + m) = 0 then
    if getV s a (4 + m) = 15 + 16 * m then
      (if getE s (getA s a (4 + m)) 5 = 0 then some (0, getV s (getA s a (4 + m)) 5, getA s (getA s a (4 + m)) 5) else none)
    else some (getV s a (4 + m), -1, getA s a (4 + m))
  else none
theorem getV_nat (s : ByteArray) (a : Nat) (k : Int) (h : getE s a k = 0) : getV s a k = (bitsAt s a k.toNat : Int) := by unfold getV; rw [if_pos h]
theorem getV_bound (s : ByteArray) (a : Nat) (k : Int) : 0 ≤ getV s a k ∧ getV s a k < 2 ^ k.toNat := by
  have hp : (0 : Int) < 2 ^ k.toNat := Int.pow_pos (by decide)
  unfold getV; split
  · have h := bitsAt_lt s a k.toNat
    have e : ((2 ^ k.toNat : Nat) : Int) = 2 ^ k.toNat := by simp
    refine ⟨by omega, ?_⟩
    rw [← e]; omega
  · exact ⟨by omega, by omega⟩
theorem getV_m (s : ByteArray) (a : Nat) (m : Int) (h0 : 0 ≤ m) (h1 : m ≤ 1) : 0 ≤ getV s a (4 + m) ∧ getV s a (4 + m) ≤ 15 + 16 * m := by
  have h := getV_bound s a (4 + m)
  have hp4 : (2 : Int) ^ (4 + m).toNat = 16 + 16 * m := by
    rcases (show m = 0 ∨ m = 1 by omega) with e | e <;> rw [e] <;> rfl
  rw [hp4] at h
  omega
theorem getV_5 (s : ByteArray) (a : Nat) : 0 ≤ getV s a 5 ∧ getV s a 5 ≤ 31 := by
  have h := getV_bound s a 5
  have hp : (2 : Int) ^ (5 : Int).toNat = 32 := rfl
  rw [hp] at h; omega
theorem getV_4 (s : ByteArray) (a : Nat) : 0 ≤ getV s a 4 ∧ getV s a 4 ≤ 15 := by
  have h := getV_bound s a 4
  have hp : (2 : Int) ^ (4 : Int).toNat = 16 := rfl
  rw [hp] at h; omega
theorem getV_2 (s : ByteArray) (a : Nat) : 0 ≤ getV s a 2 ∧ getV s a 2 ≤ 3 := by
  have h := getV_bound s a 2
  have hp : (2 : Int) ^ (2 : Int).toNat = 4 := rfl
  rw [hp] at h; omega
theorem rdHead_may {s : ByteArray} {a : Nat} {m k e : Int} {a1 : Nat} (h0 : 0 ≤ m) (h1 : m ≤ 1) (h : rdHead s a m = some (k, e, a1)) : mayOk m k e := by
  have hv := getV_m s a m h0 h1
  unfold rdHead at h
  split at h
  · split at h
    · split at h
      · cases h
        have := getV_5 s (getA s a (4 + m))
        unfold mayOk; omega
      · cases h
    · cases h
      unfold mayOk; omega
  · cases h
theorem rdHead_le {s : ByteArray} {a : Nat} {m k e : Int} {a1 : Nat} (ha : a ≤ 8 * s.size) (h : rdHead s a m = some (k, e, a1)) : a1 ≤ 8 * s.size := by
  unfold rdHead at h
  split at h
  · split at h
    · split at h
      · cases h; exact getA_le _ _ _ (getA_le _ _ _ ha)
      · cases h
    · cases h; exact getA_le _ _ _ ha
  · cases h
structure Dec where
  L : List Int
  P : List Int
  E : List Int
  a : Nat
def rdParts (s : ByteArray) (m : Int) (b o r : Nat) : Nat → Nat → Option Dec
  | 0, a => some ⟨[], [], [], a⟩
  | i + 1, a => match rdParts s m b o r i a with
    | none => none
    | some d => match rdHead s d.a m with
      | none => none
      | some (k, e, a1) => match rdAll s k e (frN b o r (i + 1) - frN b o r i) a1 with
        | none => none
        | some (X, a2) => some ⟨d.L ++ X, d.P ++ [k], d.E ++ [e], a2⟩
section
variable {s : ByteArray} {m : Int} {b o r i a : Nat} {d : Dec}
theorem rdParts_none (n : Nat) (h : rdParts s m b o r i a = none) (hn : i ≤ n) : rdParts s m b o r n a = none := by
  induction n with
  | zero => rw [show i = 0 by omega] at h; exact h
  | succ n ih =>
    by_cases e1 : i = n + 1
    · rw [← e1]; exact h
    · unfold rdParts; rw [ih (by omega)]
theorem rdParts_head (h : rdParts s m b o r i a = some d) (hh : rdHead s d.a m = none) : rdParts s m b o r (i + 1) a = none := by
  unfold rdParts; rw [h]; simp only; rw [hh]
theorem rdParts_nums {k e : Int} {a1 : Nat} (h : rdParts s m b o r i a = some d) (hh : rdHead s d.a m = some (k, e, a1)) (hx : rdAll s k e (frN b o r (i + 1) - frN b o r i) a1 = none) : rdParts s m b o r (i + 1) a = none := by
  unfold rdParts; rw [h]; simp only; rw [hh]; simp only; rw [hx]
theorem rdParts_some {k e : Int} {a1 a2 : Nat} {X : List Int} (h : rdParts s m b o r i a = some d) (hh : rdHead s d.a m = some (k, e, a1)) (hx : rdAll s k e (frN b o r (i + 1) - frN b o r i) a1 = some (X, a2)) : rdParts s m b o r (i + 1) a = some ⟨d.L ++ X, d.P ++ [k], d.E ++ [e], a2⟩ := by
  unfold rdParts; rw [h]; simp only; rw [hh]; simp only; rw [hx]
theorem rdParts_inv (h : rdParts s m b o r (i + 1) a = some d) : ∃ d0 k e a1 X, rdParts s m b o r i a = some d0 ∧ rdHead s d0.a m = some (k, e, a1) ∧ rdAll s k e (frN b o r (i + 1) - frN b o r i) a1 = some (X, d.a) ∧ d.L = d0.L ++ X ∧ d.P = d0.P ++ [k] ∧ d.E = d0.E ++ [e] := by
  unfold rdParts at h
  cases h1 : rdParts s m b o r i a with
  | none => rw [h1] at h; cases h
  | some d0 =>
    rw [h1] at h; simp only at h
    cases h2 : rdHead s d0.a m with
    | none => rw [h2] at h; cases h
    | some q =>
      obtain ⟨k, e, a1⟩ := q
      rw [h2] at h; simp only at h
      cases h3 : rdAll s k e (frN b o r (i + 1) - frN b o r i) a1 with
      | none => rw [h3] at h; cases h
      | some q2 =>
        obtain ⟨X, a2⟩ := q2
        rw [h3] at h
        cases h
        exact ⟨d0, k, e, a1, X, rfl, h2, h3, rfl, rfl, rfl⟩
theorem rdParts_len (h : rdParts s m b o r i a = some d) : d.L.length = frN b o r i ∧ d.P.length = i ∧ d.E.length = i := by
  induction i generalizing d with
  | zero => unfold rdParts at h; cases h; simp [frN_zero]
  | succ i ih =>
    obtain ⟨d0, k, e, a1, X, h1, h2, h3, h4, h5, h6⟩ := rdParts_inv h
    obtain ⟨i1, i2, i3⟩ := ih h1
    have := rdAll_len h3
    have := frN_mono b o r i
    rw [h4, h5, h6]
    simp only [List.length_append, List.length_singleton]
    omega
theorem rdParts_le (ha : a ≤ 8 * s.size) (h : rdParts s m b o r i a = some d) : d.a ≤ 8 * s.size := by
  induction i generalizing d with
  | zero => unfold rdParts at h; cases h; exact ha
  | succ i ih =>
    obtain ⟨d0, k, e, a1, X, h1, h2, h3, h4, h5, h6⟩ := rdParts_inv h
    exact rdAll_le h3 (rdHead_le (ih h1) h2)
end
/-- the method and the order. -/
def rdTop (s : ByteArray) (a : Nat) (b r : Int) : Option (Int × Int × Nat) :=
  if getE s a 2 = 0 ∧ getV s a 2 ≤ 1 then
    (if getE s (getA s a 2) 4 = 0 ∧ cutOk b r (getV s (getA s a 2) 4) then some (getV s a 2, getV s (getA s a 2) 4, getA s (getA s a 2) 4) else none)
  else none
/-- All of Decode behind its arguments. -/
def decP (s : ByteArray) (a : Nat) (b r : Int) : Option (Rc × List Int × Nat) :=
  match rdTop s a b r with
  | none => none
  | some (m, o, a1) => match rdParts s m b.toNat o.toNat r.toNat (2 ^ o.toNat) a1 with
    | none => none
    | some d => some (⟨m, o, d.P, d.E⟩, d.L, d.a)
def argOk (b r : Int) : Prop := 1 ≤ b ∧ b ≤ 65535 ∧ 0 ≤ r ∧ r ≤ 32 ∧ r ≤ b

end Go.Proofs.Ytdlakbgcflekkaa
