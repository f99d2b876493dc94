/- Own text: partitions, which recipes may be, the bits of residuals, and how they are read back: plain functions. It speaks of no program. -/
import Derived.Test.YtdlakbgcflekkaaBacklist
namespace Go.Proofs.Ytdlakbgcflekkaa
open Go.RowKit
set_option linter.unusedSimpArgs false
set_option linter.unusedVariables false

/-- where a partition begins and ends. -/
def frN (b o r i : Nat) : Nat := i * (b / 2 ^ o) - r
def partN (l : List Int) (b o r i : Nat) : List Int := (l.drop (frN b o r i)).take (frN b o r (i + 1) - frN b o r i)
abbrev cutOk (b r o : Int) : Prop := 0 ≤ o ∧ o ≤ 15 ∧ 1 ≤ b ∧ b ≤ 65535 ∧ 0 ≤ r ∧ r ≤ 32 ∧ b % 2 ^ o.toNat = 0 ∧ r ≤ b / 2 ^ o.toNat
abbrev mayOk (m k e : Int) : Prop := (e = -1 ∧ 0 ≤ k ∧ k ≤ 14 + 16 * m) ∨ (0 ≤ e ∧ e ≤ 31 ∧ k = 0)
abbrev allMay (m : Int) (P E : List Int) (n : Nat) : Prop := ∀ i, i < n → mayOk m (P.getD i 0) (E.getD i 0)
structure Rc where
  m : Int
  o : Int
  P : List Int
  E : List Int
abbrev chkOk (c : Rc) (b r : Int) : Prop := (0 ≤ c.m ∧ c.m ≤ 1) ∧ cutOk b r c.o ∧ c.P.length = 2 ^ c.o.toNat ∧ c.E.length = 2 ^ c.o.toNat ∧ allMay c.m c.P c.E (2 ^ c.o.toNat)
theorem pow15 (o : Nat) (h : o ≤ 15) : 1 ≤ 2 ^ o ∧ 2 ^ o ≤ 32768 :=
  ⟨Nat.one_le_two_pow, Nat.le_trans (Nat.pow_le_pow_right (by decide) h) (by decide)⟩

/-- The facts of a cut, of natural numbers. -/
structure Cut (b o r : Nat) : Prop where
  o15 : o ≤ 15
  b1 : 1 ≤ b
  b2 : b ≤ 65535
  r2 : r ≤ 32
  dv : 2 ^ o * (b / 2 ^ o) = b
  le : r ≤ b / 2 ^ o
theorem Cut.of {b r o : Int} (h : cutOk b r o) : ∃ b' r' o' : Nat, b = b' ∧ r = r' ∧ o = o' ∧ Cut b' o' r' := by
  obtain ⟨h1, h2, h3, h4, h5, h6, h7, h8⟩ := h
  refine ⟨b.toNat, r.toNat, o.toNat, by omega, by omega, by omega, by omega, by omega, by omega, by omega, ?_, ?_⟩
  · have e : b = (b.toNat : Int) := by omega
    rw [e] at h7
    have : ((b.toNat % 2 ^ o.toNat : Nat) : Int) = 0 := by rw [← h7]; push_cast; rfl
    have := Nat.div_add_mod b.toNat (2 ^ o.toNat)
    omega
  · have e : b = (b.toNat : Int) := by omega
    rw [e] at h8
    have : (r.toNat : Int) ≤ ((b.toNat / 2 ^ o.toNat : Nat) : Int) := by push_cast; omega
    omega
theorem Cut.ok {b o r : Nat} (h : Cut b o r) : cutOk b r o := by
  refine ⟨by omega, by have := h.o15; omega, by have := h.b1; omega, by have := h.b2; omega, by omega, by have := h.r2; omega, ?_, ?_⟩
  · have e : (((b % 2 ^ o : Nat)) : Int) = 0 := by
      have := Nat.div_add_mod b (2 ^ o); have := h.dv; omega
    rw [← e]; push_cast; simp
  · have e : (r : Int) ≤ ((b / 2 ^ o : Nat) : Int) := by have := h.le; omega
    push_cast at e
    simpa using e
theorem frN_zero (b o r : Nat) : frN b o r 0 = 0 := by simp [frN]
theorem frN_mono (b o r i : Nat) : frN b o r i ≤ frN b o r (i + 1) := by
  unfold frN; rw [Nat.add_mul]; omega
theorem frN_le (b o r : Nat) (i j : Nat) (h : i ≤ j) : frN b o r i ≤ frN b o r j := by
  unfold frN; have := Nat.mul_le_mul_right (b / 2 ^ o) h; omega
theorem Cut.total {b o r : Nat} (h : Cut b o r) : frN b o r (2 ^ o) = b - r := by unfold frN; rw [h.dv]
theorem Cut.fr_succ {b o r : Nat} (h : Cut b o r) (i : Nat) : frN b o r (i + 1) + r = (i + 1) * (b / 2 ^ o) := by
  unfold frN; have := h.le; have := Nat.mul_le_mul_right (b / 2 ^ o) (show 1 ≤ i + 1 by omega); omega
theorem Cut.rb {b o r : Nat} (h : Cut b o r) : r ≤ b := Nat.le_trans h.le (Nat.div_le_self _ _)
theorem frN_bound {b o r : Nat} (h : Cut b o r) (i : Nat) (hi : i ≤ 2 ^ o) : frN b o r i ≤ b - r := by rw [← h.total]; exact frN_le b o r i _ hi
theorem partN_length (l : List Int) {b o r : Nat} (h : Cut b o r) (hl : l.length = b - r) (i : Nat) (hi : i < 2 ^ o) : (partN l b o r i).length = frN b o r (i + 1) - frN b o r i := by
  unfold partN; rw [List.length_take, List.length_drop]
  have := frN_bound h (i + 1) hi; have := frN_mono b o r i
  omega
theorem take_part' (l : List Int) (b o r i : Nat) : l.take (frN b o r i) ++ partN l b o r i = l.take (frN b o r (i + 1)) := by
  unfold partN
  have h := frN_mono b o r i
  have e : frN b o r (i + 1) = frN b o r i + (frN b o r (i + 1) - frN b o r i) := by omega
  conv => rhs; rw [e]
  rw [List.take_add]

/-- one residual as bits. -/
def fitE (k e n : Int) : Prop := if e = -1 then rcwE n k = 0 else if e = 0 then n = 0 else sigE n e = 0
def fitT (k e n : Int) : Bool := if e = -1 then decide (rcwE n k = 0) else if e = 0 then decide (n = 0) else decide (sigE n e = 0)
theorem fitT_iff (k e n : Int) : fitT k e n = true ↔ fitE k e n := by
  unfold fitT fitE
  split
  · exact decide_eq_true_iff
  · split
    · exact decide_eq_true_iff
    · exact decide_eq_true_iff
theorem bool_no {b : Bool} {P : Prop} (hi : b = true ↔ P) (h : ¬ P) : b = false := by
  cases e : b with
  | false => rfl
  | true => exact absurd (hi.1 e) h
theorem fitT_yes {k e n : Int} (h : fitE k e n) : fitT k e n = true := (fitT_iff k e n).2 h
theorem fitT_no {k e n : Int} (h : ¬ fitE k e n) : fitT k e n = false := bool_no (fitT_iff k e n) h
def allT (k e : Int) (l : List Int) : Bool := l.all (fitT k e)
theorem allT_iff (k e : Int) (l : List Int) : allT k e l = true ↔ ∀ x ∈ l, fitE k e x := by
  unfold allT
  rw [List.all_eq_true]
  exact ⟨fun h x hx => (fitT_iff k e x).1 (h x hx), fun h x hx => (fitT_iff k e x).2 (h x hx)⟩
theorem allT_yes {k e : Int} {l : List Int} (h : ∀ x ∈ l, fitE k e x) : allT k e l = true := (allT_iff k e l).2 h
theorem allT_no {k e : Int} {l : List Int} (h : ¬ ∀ x ∈ l, fitE k e x) : allT k e l = false := bool_no (allT_iff k e l) h
def oneB (k e n : Int) : List Nat := if e = -1 then rcwB n k else if e = 0 then [] else sigB n e
def headB (m k e : Int) : List Nat := if e = -1 then putB k (4 + m) else putB (15 + 16 * m) (4 + m) ++ putB e 5
def numsB (k e : Int) (xs : List Int) : List Nat := xs.flatMap (oneB k e)
def partB (m k e : Int) (xs : List Int) : List Nat := headB m k e ++ numsB k e xs
def partsB (c : Rc) (b o r : Nat) (l : List Int) (n : Nat) : List Nat := (List.range n).flatMap fun i => partB c.m (c.P.getD i 0) (c.E.getD i 0) (partN l b o r i)
def encB (c : Rc) (b r : Nat) (l : List Int) : List Nat := putB c.m 2 ++ putB c.o 4 ++ partsB c b c.o.toNat r l (2 ^ c.o.toNat)
def allFit (c : Rc) (b o r : Nat) (l : List Int) (n : Nat) : Prop := ∀ i, i < n → ∀ x ∈ partN l b o r i, fitE (c.P.getD i 0) (c.E.getD i 0) x
def encOk (c : Rc) (b r : Int) (l : List Int) : Prop := chkOk c b r ∧ (l.length : Int) = b - r ∧ allFit c b.toNat c.o.toNat r.toNat l (2 ^ c.o.toNat)
theorem partsB_zero (c : Rc) (b o r : Nat) (l : List Int) : partsB c b o r l 0 = [] := rfl
theorem partsB_succ (c : Rc) (b o r : Nat) (l : List Int) (n : Nat) : partsB c b o r l (n + 1) = partsB c b o r l n ++ partB c.m (c.P.getD n 0) (c.E.getD n 0) (partN l b o r n) := by
  unfold partsB; rw [List.range_succ, List.flatMap_append]; simp
theorem numsB_nil (k e : Int) : numsB k e [] = [] := rfl
theorem numsB_snoc (k e : Int) (xs : List Int) (x : Int) : numsB k e (xs ++ [x]) = numsB k e xs ++ oneB k e x := by
  unfold numsB; rw [List.flatMap_append]; simp
theorem oneB_01 (k e n : Int) : Bits01 (oneB k e n) := by
  unfold oneB; split
  · exact rcwB_01 _ _
  · split
    · exact Bits01.nil
    · exact sigB_01 _ _
theorem headB_01 (m k e : Int) : Bits01 (headB m k e) := by
  unfold headB; split
  · exact putB_01 _ _
  · exact (putB_01 _ _).append (putB_01 _ _)
theorem numsB_01 (k e : Int) (xs : List Int) : Bits01 (numsB k e xs) := by
  induction xs with
  | nil => exact Bits01.nil
  | cons x t ih => exact (oneB_01 k e x).append ih
theorem partB_01 (m k e : Int) (xs : List Int) : Bits01 (partB m k e xs) := (headB_01 _ _ _).append (numsB_01 _ _ _)
theorem partsB_01 (c : Rc) (b o r : Nat) (l : List Int) (n : Nat) : Bits01 (partsB c b o r l n) := by
  induction n with
  | zero => exact Bits01.nil
  | succ n ih => rw [partsB_succ]; exact ih.append (partB_01 _ _ _ _)
theorem encB_01 (c : Rc) (b r : Nat) (l : List Int) : Bits01 (encB c b r l) := ((putB_01 _ _).append (putB_01 _ _)).append (partsB_01 _ _ _ _ _ _)
theorem oneB_len (k e n : Int) : (oneB k e n).length ≤ 17000000 := by
  unfold oneB; split
  · exact rcwB_len _ _
  · split
    · simp
    · exact sigB_len _ _
theorem putB_short (u k : Int) (hk : k ≤ 64) : (putB u k).length ≤ 64 := by
  unfold putB; split
  · rw [bitsOf_length]; omega
  · simp
theorem headB_len (m k e : Int) (hm : m ≤ 1) : (headB m k e).length ≤ 128 := by
  unfold headB; split
  · have := putB_short k (4 + m) (by omega); omega
  · rw [List.length_append]
    have := putB_short (15 + 16 * m) (4 + m) (by omega); have := putB_short e 5 (by omega); omega
theorem numsB_len (k e : Int) (xs : List Int) : (numsB k e xs).length ≤ 17000000 * xs.length := by
  induction xs with
  | nil => simp [numsB]
  | cons x t ih =>
    have h1 := oneB_len k e x
    have : (numsB k e (x :: t)).length = (oneB k e x).length + (numsB k e t).length := by simp [numsB]
    rw [this, List.length_cons]; omega
theorem partsB_len (c : Rc) (hm : c.m ≤ 1) {b o r : Nat} (h : Cut b o r) (l : List Int) (hl : l.length = b - r) (n : Nat) (hn : n ≤ 2 ^ o) : (partsB c b o r l n).length ≤ 128 * n + 17000000 * frN b o r n := by
  induction n with
  | zero => simp [partsB]
  | succ n ih =>
    rw [partsB_succ, List.length_append]
    unfold partB; rw [List.length_append]
    have h1 := headB_len c.m (c.P.getD n 0) (c.E.getD n 0) hm
    have h2 := numsB_len (c.P.getD n 0) (c.E.getD n 0) (partN l b o r n)
    rw [partN_length l h hl n (by omega)] at h2
    have h3 := ih (by omega)
    have h4 := frN_mono b o r n
    have : 17000000 * (frN b o r (n + 1) - frN b o r n) = 17000000 * frN b o r (n + 1) - 17000000 * frN b o r n := Nat.mul_sub _ _ _
    have := Nat.mul_le_mul_left 17000000 h4
    omega
/-- any beginning of the bits is short enough for a writer. -/
theorem parts_room (c : Rc) (hm : c.m ≤ 1) {b o r : Nat} (h : Cut b o r) (l : List Int) (hl : l.length = b - r) (n : Nat) (hn : n ≤ 2 ^ o) (h5 : l.length ≤ 5000) : (partsB c b o r l n).length ≤ 90000000000 := by
  have h1 := partsB_len c hm h l hl n hn
  have h2 := frN_bound h n hn
  have h3 := pow15 o h.o15; have := h.b2
  omega

end Go.Proofs.Ytdlakbgcflekkaa
