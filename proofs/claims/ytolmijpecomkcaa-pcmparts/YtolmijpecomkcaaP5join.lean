/- Own text: parts joined, the plain laws. -/
import Derived.Test.YtolmijpecomkcaaP5back3
namespace Go.Proofs.Ytolmijpecomkcaa
open Go.RowKit
set_option linter.unusedSimpArgs false
set_option linter.unusedVariables false

/-- What is wrong with one of the parts. -/
def partE (p0 p : Pcm) : Int := if checkN p = 0 then (if p.rate = p0.rate ∧ p.ch = p0.ch ∧ p.wd = p0.wd then 0 else 280) else checkN p
def partsE (p0 : Pcm) : List Pcm → Int
  | [] => 0
  | p :: t => if partE p0 p = 0 then partsE p0 t else partE p0 p
def sumL : List Pcm → Nat
  | [] => 0
  | p :: t => lenP p + sumL t
/-- Join's error. -/
def joinE : List Pcm → Int
  | [] => 280
  | p0 :: t => if partsE p0 (p0 :: t) = 0 then (if 1048576 < sumL (p0 :: t) then 5 else 0) else partsE p0 (p0 :: t)
def joinL (ps : List Pcm) (k : Nat) : List Int := ps.flatMap fun p => p.pl.getD k []
def joinP (ps : List Pcm) : Pcm := if joinE ps = 0 then ⟨(ps.getD 0 noP).rate, (ps.getD 0 noP).ch, (ps.getD 0 noP).wd, (List.range (ps.getD 0 noP).pl.length).map (joinL ps)⟩ else noP

theorem partsE_zero (p0 : Pcm) : ∀ ps : List Pcm, partsE p0 ps = 0 ↔ ∀ (i : Nat) (p : Pcm), ps[i]? = some p → partE p0 p = 0
  | [] => ⟨fun _ i p h => (by simp at h), fun _ => rfl⟩
  | q :: t => by
    unfold partsE
    by_cases e : partE p0 q = 0
    · rw [if_pos e, partsE_zero p0 t]
      constructor
      · intro h i p hp
        cases i with
        | zero => simp at hp; rw [← hp]; exact e
        | succ i => exact h i p (by simpa using hp)
      · exact fun h i p hp => h (i + 1) p (by simpa using hp)
    · rw [if_neg e]
      exact ⟨fun h => absurd h e, fun h => h 0 q rfl⟩
theorem partsE_first (p0 : Pcm) : ∀ (ps : List Pcm) (i : Nat) (p : Pcm), ps[i]? = some p → partE p0 p ≠ 0 → (∀ (j : Nat) (q : Pcm), j < i → ps[j]? = some q → partE p0 q = 0) → partsE p0 ps = partE p0 p
  | [], i, p, h, _, _ => by simp at h
  | q :: t, 0, p, h, hp, _ => by
    simp at h
    subst h
    unfold partsE
    rw [if_neg hp]
  | q :: t, i + 1, p, h, hp, hj => by
    unfold partsE
    rw [if_pos (hj 0 q (by omega) rfl)]
    exact partsE_first p0 t i p (by simpa using h) hp (fun j r hji hr => hj (j + 1) r (by omega) (by simpa using hr))
theorem sumL_take : ∀ (ps : List Pcm) (i : Nat) (p : Pcm), ps[i]? = some p → sumL (ps.take (i + 1)) = sumL (ps.take i) + lenP p
  | [], i, p, h => by simp at h
  | q :: t, 0, p, h => by
    simp at h
    subst h
    simp [sumL]
  | q :: t, i + 1, p, h => by
    have ih := sumL_take t i p (by simpa using h)
    simp only [List.take_succ_cons, sumL]
    rw [ih]
    omega
theorem sumL_le : ∀ (ps : List Pcm) (m : Nat), (∀ (i : Nat) (p : Pcm), ps[i]? = some p → lenP p ≤ m) → sumL ps ≤ ps.length * m
  | [], m, _ => by simp [sumL]
  | q :: t, m, h => by
    have ih := sumL_le t m (fun i p hp => h (i + 1) p (by simpa using hp))
    have h0 := h 0 q rfl
    simp only [sumL, List.length_cons, Nat.succ_mul]
    omega
theorem joinL_take (ps : List Pcm) (i : Nat) (p : Pcm) (h : ps[i]? = some p) (k : Nat) : joinL (ps.take (i + 1)) k = joinL (ps.take i) k ++ p.pl.getD k [] := by
  obtain ⟨hi, rfl⟩ := List.getElem?_eq_some_iff.1 h
  unfold joinL
  rw [List.take_succ_eq_append_getElem hi, List.flatMap_append]
  simp

theorem cut_len (p : Pcm) (f t : Nat) (h0 : 0 < p.pl.length) (hft : f ≤ t) (ht : t ≤ lenP p) : lenP (cutP p f t) = t - f := by
  unfold lenP cutP
  show ((p.pl.map (cutL f t)).getD 0 []).length = t - f
  rw [getD_map_cut _ _ _ _ h0]
  exact cutL_length f t _ hft ht
theorem cut_check (p : Pcm) (f t : Nat) (hc : checkN p = 0) (hft : f ≤ t) (ht : t ≤ lenP p) : checkN (cutP p f t) = 0 := by
  obtain ⟨hh, hlp, hpl⟩ := check_zero p hc
  obtain ⟨r1, r2, c1, c2, w1, w2, hlen⟩ := head_parts p hh
  have h0 : 0 < p.pl.length := by omega
  have hln := cut_len p f t h0 hft ht
  unfold checkN
  rw [hln, if_pos, if_neg (by omega)]
  rw [Bool.and_eq_true_iff]
  constructor
  · exact decide_eq_true ⟨r1, r2, c1, c2, w1, w2, by show ((p.pl.map (cutL f t)).length : Int) = p.ch; rw [List.length_map]; exact hlen⟩
  · rw [List.all_eq_true]
    intro x hx
    obtain ⟨l, hl, rfl⟩ := List.mem_map.1 (show x ∈ p.pl.map (cutL f t) from hx)
    obtain ⟨k, hk, rfl⟩ := List.getElem_of_mem hl
    have h1 := hpl k hk
    have e : p.pl.getD k [] = p.pl[k] := by rw [List.getD_eq_getElem?_getD, List.getElem?_eq_getElem hk]; rfl
    rw [e] at h1
    unfold planeB at h1 ⊢
    obtain ⟨h2, h3⟩ := Bool.and_eq_true_iff.1 h1
    have h4 := of_decide_eq_true h2
    rw [hln, Bool.and_eq_true_iff]
    refine ⟨decide_eq_true (cutL_length f t _ hft (by omega)), ?_⟩
    rw [List.all_eq_true] at h3 ⊢
    exact fun n hn => h3 n (cutL_mem f t _ n hn)
theorem cut_three (l : List Int) (a b n : Nat) (hab : a ≤ b) (hbn : b ≤ n) (hn : l.length = n) : cutL 0 a l ++ (cutL a b l ++ cutL b n l) = l := by
  unfold cutL
  have e1 : l.take n = l := List.take_of_length_le (by omega)
  have e2 : (l.take b).take a = l.take a := by rw [List.take_take, Nat.min_eq_left hab]
  rw [e1, List.drop_zero, ← List.append_assoc]
  have e3 : l.take a ++ (l.take b).drop a = l.take b := by rw [← e2]; exact List.take_append_drop a (l.take b)
  rw [e3]
  exact List.take_append_drop b l
/-- Cut in three and joined again. -/
theorem join_cuts (p : Pcm) (a b : Nat) (hc : checkN p = 0) (hab : a ≤ b) (hb : b ≤ lenP p) :
    joinE [cutP p 0 a, cutP p a b, cutP p b (lenP p)] = 0 ∧ joinP [cutP p 0 a, cutP p a b, cutP p b (lenP p)] = p := by
  obtain ⟨hh, hlp, hpl⟩ := check_zero p hc
  obtain ⟨r1, r2, c1, c2, w1, w2, hlen⟩ := head_parts p hh
  have h0 : 0 < p.pl.length := by omega
  have k1 := cut_check p 0 a hc (by omega) (by omega)
  have k2 := cut_check p a b hc hab hb
  have k3 := cut_check p b (lenP p) hc hb (Nat.le_refl _)
  have l1 := cut_len p 0 a h0 (by omega) (by omega)
  have l2 := cut_len p a b h0 hab hb
  have l3 := cut_len p b (lenP p) h0 hb (Nat.le_refl _)
  have hp : ∀ f t f' t', checkN (cutP p f t) = 0 → partE (cutP p f' t') (cutP p f t) = 0 := fun f t f' t' h => by
    unfold partE
    rw [if_pos h, if_pos ⟨rfl, rfl, rfl⟩]
  have hE : joinE [cutP p 0 a, cutP p a b, cutP p b (lenP p)] = 0 := by
    have e : partsE (cutP p 0 a) [cutP p 0 a, cutP p a b, cutP p b (lenP p)] = 0 := by
      simp only [partsE]
      rw [if_pos (hp _ _ _ _ k1), if_pos (hp _ _ _ _ k2), if_pos (hp _ _ _ _ k3)]
    show (if partsE (cutP p 0 a) [cutP p 0 a, cutP p a b, cutP p b (lenP p)] = 0 then (if 1048576 < sumL [cutP p 0 a, cutP p a b, cutP p b (lenP p)] then (5 : Int) else 0) else partsE (cutP p 0 a) [cutP p 0 a, cutP p a b, cutP p b (lenP p)]) = 0
    rw [e, if_pos rfl, if_neg]
    simp only [sumL]
    omega
  refine ⟨hE, ?_⟩
  unfold joinP
  rw [if_pos hE]
  have e : (List.range ((([cutP p 0 a, cutP p a b, cutP p b (lenP p)] : List Pcm).getD 0 noP).pl.length)).map (joinL [cutP p 0 a, cutP p a b, cutP p b (lenP p)]) = p.pl := by
    have el : (([cutP p 0 a, cutP p a b, cutP p b (lenP p)] : List Pcm).getD 0 noP).pl.length = p.pl.length := by
      show (p.pl.map (cutL 0 a)).length = _
      rw [List.length_map]
    rw [el]
    refine list_ext _ _ [] (by rw [List.length_map, List.length_range]) (fun k hk => ?_)
    rw [List.length_map, List.length_range] at hk
    rw [List.getD_eq_getElem?_getD, List.getElem?_map, List.getElem?_range hk, Option.map_some, Option.getD_some]
    unfold joinL
    simp only [List.flatMap_cons, List.flatMap_nil, List.append_nil]
    show (p.pl.map (cutL 0 a)).getD k [] ++ ((p.pl.map (cutL a b)).getD k [] ++ (p.pl.map (cutL b (lenP p))).getD k []) = _
    rw [getD_map_cut _ _ _ _ hk, getD_map_cut _ _ _ _ hk, getD_map_cut _ _ _ _ hk]
    have hl : (p.pl.getD k []).length = lenP p := by
      have := hpl k hk
      unfold planeB at this
      exact of_decide_eq_true (Bool.and_eq_true_iff.1 this).1
    exact cut_three _ a b (lenP p) hab hb hl
  rw [e]
  rfl

end Go.Proofs.Ytolmijpecomkcaa
