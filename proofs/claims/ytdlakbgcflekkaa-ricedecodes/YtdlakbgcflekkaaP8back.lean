/- Own text: residuals that were written are read as they were: the plain part. -/
import Derived.Test.YtdlakbgcflekkaaR8same
namespace Go.Proofs.Ytdlakbgcflekkaa
open Go.RowKit
set_option linter.unusedSimpArgs false
set_option linter.unusedVariables false

theorem ahead_next {s : ByteArray} {a : Nat} {A R : List Nat} (h : ahead s a = A ++ R) : ahead s (a + A.length) = R := by
  rw [← ahead_drop, h, List.drop_left]
theorem one_back (s : ByteArray) (a : Nat) (k e x : Int) (R : List Nat) (h : ahead s a = oneB k e x ++ R) (hl : a + (oneB k e x).length ≤ 8 * s.size) (hf : fitE k e x) :
    rdE s a k e = 0 ∧ rdV s a k e = x ∧ rdA s a k e = a + (oneB k e x).length := by
  unfold oneB at h hl ⊢
  unfold fitE at hf
  unfold rdE rdV rdA
  by_cases e1 : e = -1
  · rw [if_pos e1] at h hl hf ⊢
    rw [if_pos e1, if_pos e1, if_pos e1]
    exact ric_back s a x k R h hl hf
  · rw [if_neg e1] at h hl hf ⊢
    rw [if_neg e1, if_neg e1, if_neg e1]
    by_cases e2 : e = 0
    · rw [if_pos e2] at h hl hf ⊢
      rw [if_pos e2, if_pos e2, if_pos e2]
      exact ⟨rfl, hf.symm, rfl⟩
    · rw [if_neg e2] at h hl hf ⊢
      rw [if_neg e2, if_neg e2, if_neg e2]
      exact sig_back s a x e R h hl hf
theorem nums_split (k e : Int) (X : List Int) (n : Nat) (hn : n < X.length) : numsB k e X = numsB k e (X.take n) ++ (oneB k e (X.getD n 0) ++ numsB k e (X.drop (n + 1))) := by
  conv => lhs; rw [← List.take_append_drop (n + 1) X, take_snoc X n hn]
  unfold numsB
  rw [List.flatMap_append, List.flatMap_append, List.append_assoc]
  simp
theorem nums_back (s : ByteArray) (a : Nat) (k e : Int) (X : List Int) (R : List Nat) (h : ahead s a = numsB k e X ++ R) (hl : a + (numsB k e X).length ≤ 8 * s.size) (hf : ∀ x ∈ X, fitE k e x) (n : Nat) (hn : n ≤ X.length) :
    rdAll s k e n a = some (X.take n, a + (numsB k e (X.take n)).length) := by
  induction n with
  | zero => rfl
  | succ n ih =>
    have h1 := ih (by omega)
    have hs := nums_split k e X n (by omega)
    have h2 : ahead s (a + (numsB k e (X.take n)).length) = oneB k e (X.getD n 0) ++ (numsB k e (X.drop (n + 1)) ++ R) := by
      apply ahead_next
      rw [h, hs]
      simp only [List.append_assoc]
    have hl2 : a + (numsB k e (X.take n)).length + (oneB k e (X.getD n 0)).length ≤ 8 * s.size := by
      rw [hs] at hl
      simp only [List.length_append] at hl
      omega
    obtain ⟨r1, r2, r3⟩ := one_back s _ k e _ _ h2 hl2 (hf _ (getD_mem X n (by omega)))
    rw [rdAll_some h1 r1, r2, r3, take_snoc X n (by omega), numsB_snoc, List.length_append, Nat.add_assoc]
theorem putE_of (u k : Int) (h0 : 0 ≤ k) (h1 : k ≤ 64) (h2 : u < 2 ^ k.toNat) : putE u k = 0 := by unfold putE; rw [if_pos ⟨h0, h1, h2⟩]
theorem pow4m (m : Int) (h0 : 0 ≤ m) (h1 : m ≤ 1) : (2 : Int) ^ (4 + m).toNat = 16 + 16 * m := by
  rcases (show m = 0 ∨ m = 1 by omega) with e | e <;> rw [e] <;> rfl
theorem head_back (s : ByteArray) (a : Nat) (m k e : Int) (h0 : 0 ≤ m) (h1 : m ≤ 1) (hm : mayOk m k e) (R : List Nat) (h : ahead s a = headB m k e ++ R) (hl : a + (headB m k e).length ≤ 8 * s.size) :
    rdHead s a m = some (k, e, a + (headB m k e).length) := by
  have hp := pow4m m h0 h1
  unfold headB at h hl ⊢
  unfold mayOk at hm
  unfold rdHead
  by_cases e1 : e = -1
  · rw [if_pos e1] at h hl ⊢
    obtain ⟨g1, g2, g3⟩ := get_back s a k (4 + m) (by omega) R h hl (putE_of k (4 + m) (by omega) (by omega) (by rw [hp]; omega))
    rw [if_pos g1, g2, if_neg (by omega), g3, e1]
  · rw [if_neg e1] at h hl ⊢
    rw [List.append_assoc] at h
    rw [List.length_append] at hl
    obtain ⟨g1, g2, g3⟩ := get_back s a (15 + 16 * m) (4 + m) (by omega) _ h (by omega) (putE_of _ (4 + m) (by omega) (by omega) (by rw [hp]; omega))
    have h2 := ahead_next h
    have hp5 : (2 : Int) ^ (5 : Int).toNat = 32 := rfl
    obtain ⟨k1, k2, k3⟩ := get_back s (a + (putB (15 + 16 * m) (4 + m)).length) e 5 (by omega) R h2 (by omega) (putE_of e 5 (by omega) (by omega) (by rw [hp5]; omega))
    rw [if_pos g1, if_pos g2, g3, if_pos k1, k2, k3, List.length_append, Nat.add_assoc, show k = 0 by omega]
theorem parts_split (c : Rc) (b o r : Nat) (l : List Int) (n N : Nat) (hn : n < N) : ∃ R, partsB c b o r l N = partsB c b o r l n ++ (headB c.m (c.P.getD n 0) (c.E.getD n 0) ++ (numsB (c.P.getD n 0) (c.E.getD n 0) (partN l b o r n) ++ R)) := by
  induction N with
  | zero => omega
  | succ N ih =>
    by_cases e : n = N
    · subst e
      exact ⟨[], by rw [partsB_succ]; unfold partB; simp⟩
    · obtain ⟨R, hR⟩ := ih (by omega)
      refine ⟨R ++ partB c.m (c.P.getD N 0) (c.E.getD N 0) (partN l b o r N), ?_⟩
      rw [partsB_succ, hR]
      simp only [List.append_assoc]
theorem parts_back (s : ByteArray) (a : Nat) (c : Rc) (b o r : Nat) (hk : Rok c b o r) (l : List Int) (hlen : l.length = b - r) (hfit : allFit c b o r l (2 ^ o)) (R : List Nat) (h : ahead s a = partsB c b o r l (2 ^ o) ++ R) (hl : a + (partsB c b o r l (2 ^ o)).length ≤ 8 * s.size) (n : Nat) (hn : n ≤ 2 ^ o) :
    rdParts s c.m b o r n a = some ⟨l.take (frN b o r n), c.P.take n, c.E.take n, a + (partsB c b o r l n).length⟩ := by
  induction n with
  | zero => rw [frN_zero]; rfl
  | succ n ih =>
    have h1 := ih (by omega)
    obtain ⟨R2, hs⟩ := parts_split c b o r l n (2 ^ o) (by omega)
    have hlt := hl
    rw [hs] at hlt
    simp only [List.length_append] at hlt
    have h2 : ahead s (a + (partsB c b o r l n).length) = headB c.m (c.P.getD n 0) (c.E.getD n 0) ++ (numsB (c.P.getD n 0) (c.E.getD n 0) (partN l b o r n) ++ (R2 ++ R)) := by
      apply ahead_next
      rw [h, hs]
      simp only [List.append_assoc]
    have r1 := head_back s _ c.m _ _ hk.m0 hk.m1 (hk.may n (by omega)) _ h2 (by omega)
    have h3 := ahead_next h2
    have hX := partN_length l hk.cut hlen n (by omega)
    have r2 := nums_back s _ _ _ _ _ h3 (by omega) (hfit n (by omega)) (partN l b o r n).length (Nat.le_refl _)
    rw [List.take_length] at r2
    rw [hX] at r2
    rw [rdParts_some h1 r1 r2, take_part' l b o r n, partsB_succ]
    unfold partB
    have hP := take_snoc c.P n (by rw [hk.lP]; omega)
    have hE := take_snoc c.E n (by rw [hk.lE]; omega)
    rw [hP, hE]
    simp only [List.length_append, Nat.add_assoc]
theorem enc_back (c : Rc) (b o r : Nat) (hk : Rok c b o r) (l : List Int) (hlen : l.length = b - r) (hfit : allFit c b o r l (2 ^ o)) :
    decP (textOf (pack (encB c b r l))) 0 b r = some (c, l, (encB c b r l).length) := by
  have hot : c.o.toNat = o := by have := hk.ho; omega
  have he : encB c b r l = putB c.m 2 ++ putB c.o 4 ++ partsB c b o r l (2 ^ o) := by unfold encB; rw [hot]
  have h01 := encB_01 c b r l
  have hm0 := hk.m0
  have hm1 := hk.m1
  have ho15 := hk.cut.o15
  have hho := hk.ho
  obtain ⟨R1, a1, b1⟩ := ahead_pack (encB c b r l) [] (encB c b r l) [] h01 (by simp)
  generalize hS : textOf (pack (encB c b r l)) = s at *
  simp only [List.length_nil, Nat.zero_add, Nat.add_zero] at a1 b1
  have hL := congrArg List.length he
  simp only [List.length_append] at hL
  rw [he] at a1
  simp only [List.append_assoc] at a1
  have hp2 : (2 : Int) ^ (2 : Int).toNat = 4 := rfl
  have hp4 : (2 : Int) ^ (4 : Int).toNat = 16 := rfl
  obtain ⟨g1, g2, g3⟩ := get_back s 0 c.m 2 hm0 _ a1 (by omega) (putE_of c.m 2 (by omega) (by omega) (by rw [hp2]; omega))
  have a2 := ahead_next a1
  obtain ⟨k1, k2, k3⟩ := get_back s (0 + (putB c.m 2).length) c.o 4 (by omega) _ a2 (by omega) (putE_of c.o 4 (by omega) (by omega) (by rw [hp4]; omega))
  have a3 := ahead_next a2
  have ht : rdTop s 0 b r = some (c.m, c.o, 0 + (putB c.m 2).length + (putB c.o 4).length) := by
    unfold rdTop
    rw [g2, g3, k2, k3, if_pos ⟨g1, hm1⟩, if_pos ⟨k1, by rw [hho]; exact hk.cut.ok⟩]
  have hpb := parts_back s _ c b o r hk l hlen hfit R1 a3 (by omega) (2 ^ o) (Nat.le_refl _)
  unfold decP
  rw [ht]
  simp only [Int.toNat_natCast, hot]
  rw [hpb]
  simp only
  have e1 : l.take (frN b o r (2 ^ o)) = l := List.take_of_length_le (by rw [hk.cut.total]; omega)
  have e2 : c.P.take (2 ^ o) = c.P := List.take_of_length_le (by rw [hk.lP]; omega)
  have e3 : c.E.take (2 ^ o) = c.E := List.take_of_length_le (by rw [hk.lE]; omega)
  rw [e1, e2, e3, hL, Nat.zero_add]

end Go.Proofs.Ytdlakbgcflekkaa
