/- Own text: laces, plainly. -/
import Derived.Test.YtjkamannjgcmiaaDoorP15back
namespace Go.Proofs.YtjkamannjgcmiaaDoor
open Go.RowKit
set_option linter.unusedSimpArgs false
set_option linter.unusedVariables false
/-- A packet's laces. -/
def lcs (n : Nat) : List Int := List.replicate (n / 255) 255 ++ [((n % 255 : Nat) : Int)]
theorem lcs_small (n : Nat) (h : n < 255) : lcs n = [(n : Int)] := by
  unfold lcs
  rw [Nat.div_eq_of_lt h, Nat.mod_eq_of_lt h]
  rfl
theorem lcs_great (n : Nat) (h : 255 ≤ n) : lcs n = 255 :: lcs (n - 255) := by
  unfold lcs
  rw [show n / 255 = (n - 255) / 255 + 1 by omega, List.replicate_succ, show n % 255 = (n - 255) % 255 by omega]
  rfl
/-- A lace behind pages that are full and one that is not. -/
def push1 (m : Nat) (st : List (List Int) × List Int) (x : Int) : List (List Int) × List Int := if st.2.length = m then (st.1 ++ [st.2], [x]) else (st.1, st.2 ++ [x])
def pushN (m n : Nat) (st : List (List Int) × List Int) : List (List Int) × List Int := (lcs n).foldl (push1 m) st
theorem pushN_small (m n : Nat) (st : List (List Int) × List Int) (h : n < 255) : pushN m n st = push1 m st (n : Int) := by unfold pushN; rw [lcs_small n h]; rfl
theorem pushN_great (m n : Nat) (st : List (List Int) × List Int) (h : 255 ≤ n) : pushN m n st = pushN m (n - 255) (push1 m st 255) := by unfold pushN; rw [lcs_great n h]; rfl
def lacR (m : Nat) : List Nat → Bool → List (List Int) × List Int → List (List Int)
  | [], _, st => st.1
  | n :: t, first, st => lacR m t false (if first = true ∨ t = [] then ((pushN m n st).1 ++ [(pushN m n st).2], []) else pushN m n st)
/-- The laces of pages for packets of these sizes. -/
def lacP (m : Nat) (l : List Nat) : List (List Int) := lacR m l true ([], [])
theorem push1_flat (m : Nat) (st : List (List Int) × List Int) (x : Int) : (push1 m st x).1.flatten ++ (push1 m st x).2 = st.1.flatten ++ st.2 ++ [x] := by
  unfold push1
  split
  · simp
  · simp
theorem pushL_flat (m : Nat) : ∀ (l : List Int) (st : List (List Int) × List Int), (l.foldl (push1 m) st).1.flatten ++ (l.foldl (push1 m) st).2 = st.1.flatten ++ st.2 ++ l
  | [], st => by simp
  | x :: t, st => by
    rw [List.foldl_cons, pushL_flat m t, push1_flat]
    simp
/-- Pages that are full, and one that may be. -/
structure LOk (m : Nat) (st : List (List Int) × List Int) : Prop where
  full : ∀ p ∈ st.1, 1 ≤ p.length ∧ p.length ≤ m
  last : st.2.length ≤ m
theorem LOk.push {m : Nat} {st : List (List Int) × List Int} (hm : 1 ≤ m) (h : LOk m st) (x : Int) : LOk m (push1 m st x) ∧ 1 ≤ (push1 m st x).2.length := by
  unfold push1
  split
  · rename_i e
    refine ⟨⟨fun p hp => ?_, hm⟩, by simp⟩
    rcases List.mem_append.1 hp with hp | hp
    · exact h.full p hp
    · rw [List.mem_singleton] at hp
      subst hp
      exact ⟨by omega, by omega⟩
  · rename_i e
    refine ⟨⟨h.full, ?_⟩, by simp⟩
    have := h.last
    rw [List.length_append, List.length_singleton]
    show st.2.length + 1 ≤ m
    omega
theorem LOk.pushL {m : Nat} (hm : 1 ≤ m) : ∀ (l : List Int) (st : List (List Int) × List Int), LOk m st → LOk m (l.foldl (push1 m) st) ∧ (0 < l.length → 1 ≤ (l.foldl (push1 m) st).2.length)
  | [], st, h => ⟨h, fun q => absurd q (by simp)⟩
  | x :: t, st, h => by
    obtain ⟨h1, h2⟩ := h.push hm x
    obtain ⟨g1, g2⟩ := LOk.pushL hm t _ h1
    refine ⟨g1, fun _ => ?_⟩
    cases t with
    | nil => exact h2
    | cons y u => exact g2 (by simp)
theorem lcs_pos (n : Nat) : 0 < (lcs n).length := by unfold lcs; simp
theorem lacR_ok {m : Nat} (hm : 1 ≤ m) : ∀ (l : List Nat) (f : Bool) (st : List (List Int) × List Int), LOk m st → (l = [] → st.2 = []) → (∀ p ∈ lacR m l f st, 1 ≤ p.length ∧ p.length ≤ m) ∧ (lacR m l f st).flatten = st.1.flatten ++ st.2 ++ l.flatMap lcs
  | [], f, st, h, he => by
    refine ⟨h.full, ?_⟩
    rw [he rfl]
    simp [lacR]
  | n :: t, f, st, h, _ => by
    obtain ⟨h1, h2⟩ := LOk.pushL hm (lcs n) st h
    have h2 := h2 (lcs_pos n)
    have hf := pushL_flat m (lcs n) st
    rw [lacR]
    by_cases hc : f = true ∨ t = []
    · rw [if_pos hc]
      obtain ⟨g1, g2⟩ := lacR_ok hm t false ((pushN m n st).1 ++ [(pushN m n st).2], []) ⟨fun p hp => by
        rcases List.mem_append.1 hp with hp | hp
        · exact h1.full p hp
        · rw [List.mem_singleton] at hp
          subst hp
          exact ⟨h2, h1.last⟩, Nat.zero_le _⟩ (fun _ => rfl)
      refine ⟨g1, ?_⟩
      rw [g2, List.flatMap_cons, List.flatten_append]
      have : (pushN m n st).1.flatten ++ (pushN m n st).2 = st.1.flatten ++ st.2 ++ lcs n := hf
      simp only [List.flatten_cons, List.flatten_nil, List.append_nil]
      rw [this, List.append_assoc]
    · rw [if_neg hc]
      obtain ⟨g1, g2⟩ := lacR_ok hm t false (pushN m n st) h1 (fun e => absurd (.inr e) hc)
      refine ⟨g1, ?_⟩
      have : (pushN m n st).1.flatten ++ (pushN m n st).2 = st.1.flatten ++ st.2 ++ lcs n := hf
      rw [g2, this, List.flatMap_cons, List.append_assoc]
theorem lacP_ok {m : Nat} (hm : 1 ≤ m) (l : List Nat) : (∀ p ∈ lacP m l, 1 ≤ p.length ∧ p.length ≤ m) ∧ (lacP m l).flatten = l.flatMap lcs := by
  have := lacR_ok hm l true ([], []) ⟨fun p hp => by simp at hp, Nat.zero_le _⟩ (fun _ => rfl)
  exact ⟨this.1, by rw [show lacP m l = lacR m l true ([], []) from rfl, this.2]; simp⟩
/-- Laces that were made cut the sizes. -/
theorem siz_lcs : ∀ (n a : Nat) (r : List Int), sizL (natL (lcs n ++ r)) a = (a + n) :: sizL (natL r) 0 ∧ opnL (natL (lcs n ++ r)) true = opnL (natL r) false ∧ opnL (natL (lcs n ++ r)) false = opnL (natL r) false := by
  intro n
  induction n using Nat.strongRecOn with
  | ind n ih =>
    intro a r
    by_cases h : n < 255
    · rw [lcs_small n h]
      have e : natL ([(n : Int)] ++ r) = n :: natL r := by unfold natL; rw [List.singleton_append, List.map_cons, Int.toNat_natCast]
      rw [e, sizL, if_neg (by omega)]
      refine ⟨rfl, ?_, ?_⟩
      · rw [opnL, decide_eq_false (by omega)]
      · rw [opnL, decide_eq_false (by omega)]
    · rw [lcs_great n (by omega)]
      obtain ⟨h1, h2, h3⟩ := ih (n - 255) (by omega) (a + 255) r
      have e : natL (255 :: lcs (n - 255) ++ r) = 255 :: natL (lcs (n - 255) ++ r) := by unfold natL; rw [List.cons_append, List.map_cons]; rfl
      rw [e, sizL, if_pos rfl, h1]
      refine ⟨by rw [show a + 255 + (n - 255) = a + n by omega], ?_, ?_⟩
      · rw [opnL]; exact h2
      · rw [opnL]; exact h2
theorem lcs_lac (n : Nat) : lacOk (lcs n) := by
  intro x hx
  unfold lcs at hx
  rcases List.mem_append.1 hx with hx | hx
  · rw [List.eq_of_mem_replicate hx]; exact ⟨by decide, by decide⟩
  · rw [List.mem_singleton] at hx
    omega
theorem siz_all : ∀ (l : List Nat), sizL (natL (l.flatMap lcs)) 0 = l ∧ opnL (natL (l.flatMap lcs)) false = false ∧ lacOk (l.flatMap lcs)
  | [] => ⟨rfl, rfl, fun x hx => by simp at hx⟩
  | n :: t => by
    obtain ⟨h1, h2, h3⟩ := siz_all t
    obtain ⟨g1, g2, g3⟩ := siz_lcs n 0 (t.flatMap lcs)
    rw [List.flatMap_cons]
    refine ⟨by rw [g1, h1, Nat.zero_add], by rw [g3, h2], fun x hx => ?_⟩
    rcases List.mem_append.1 hx with hx | hx
    · exact lcs_lac n x hx
    · exact h3 x hx
theorem lacesL_of : ∀ (O : List (List Int)), lacesL (O.map fun p => ⟨0, 0, 0, 0, p⟩) = O.flatten
  | [] => rfl
  | p :: t => by show p ++ lacesL _ = _; rw [lacesL_of t]; rfl

end Go.Proofs.YtjkamannjgcmiaaDoor
