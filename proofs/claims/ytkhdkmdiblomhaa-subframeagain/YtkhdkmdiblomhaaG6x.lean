/- Own text: partitions, which recipes may be, the bits of residuals, and how they are read back: plain functions. It speaks of no program. lists of numbers and recipes in memory; parts of lists. the walks of the program's small calls. -/
import Derived.Test.YtkhdkmdiblomhaaG5x
import Derived.Below
import Derived.WalkKit
import Derived.Deep.OwnRows
import Derived.Test.YtkhdkmdiblomhaaRows
import Derived.RegionTactic
import Derived.Deep.QuietTactic
import Derived.BigQuiet
import Derived.Outline
import Derived.WalkLawsBesides
import Derived.Deep.RegionHeld
import Derived.Deep.RegionHeld3
import Derived.Deep.CutRange
import Derived.Deep.RegionWith
import Derived.Deep.LoopGhost
namespace Go.Proofs.Ytkhdkmdiblomhaa
open Go.RowKit
set_option linter.unusedSimpArgs false
set_option linter.unusedVariables false

/-- where a partition begins and ends. -/
def frN (b o r i : Nat) : Nat := i * (b / 2 ^ o) - r
def partN (l : List Int) (b o r i : Nat) : List Int := (l.drop (frN b o r i)).take (frN b o r (i + 1) - frN b o r i)
abbrev cutOk (b r o : Int) : Prop := 0 ≤ o ∧ o ≤ 15 ∧ 1 ≤ b ∧ b ≤ 65535 ∧ 0 ≤ r ∧ r ≤ 32 ∧ b % 2 ^ o.toNat = 0 ∧ r ≤ b / 2 ^ o.toNat
abbrev mayOk (m k e : Int) : Prop := (e = -1 ∧ 0 ≤ k ∧ k ≤ 14 + 16 * m) ∨ (0 ≤ e ∧ e ≤ 31 ∧ k = 0)
abbrev allMay (m : Int) (P E : List Int) (n : Nat) : Prop := ∀ i, i < n → mayOk m (P.getD i 0) (E.getD i 0)
structure Rc where
  m : Int
  o : Int
  P : List Int
  E : List Int
abbrev chkOk (c : Rc) (b r : Int) : Prop := (0 ≤ c.m ∧ c.m ≤ 1) ∧ cutOk b r c.o ∧ c.P.length = 2 ^ c.o.toNat ∧ c.E.length = 2 ^ c.o.toNat ∧ allMay c.m c.P c.E (2 ^ c.o.toNat)
theorem pow15 (o : Nat) (h : o ≤ 15) : 1 ≤ 2 ^ o ∧ 2 ^ o ≤ 32768 :=
  ⟨Nat.one_le_two_pow, Nat.le_trans (Nat.pow_le_pow_right (by decide) h) (by decide)⟩

/-- The facts of a cut, of natural numbers. -/
structure Cut (b o r : Nat) : Prop where
  o15 : o ≤ 15
  b1 : 1 ≤ b
  b2 : b ≤ 65535
  r2 : r ≤ 32
  dv : 2 ^ o * (b / 2 ^ o) = b
  le : r ≤ b / 2 ^ o
theorem Cut.of {b r o : Int} (h : cutOk b r o) : ∃ b' r' o' : Nat, b = b' ∧ r = r' ∧ o = o' ∧ Cut b' o' r' := by
  obtain ⟨h1, h2, h3, h4, h5, h6, h7, h8⟩ := h
  refine ⟨b.toNat, r.toNat, o.toNat, by omega, by omega, by omega, by omega, by omega, by omega, by omega, ?_, ?_⟩
  · have e : b = (b.toNat : Int) := by omega
    rw [e] at h7
    have : ((b.toNat % 2 ^ o.toNat : Nat) : Int) = 0 := by rw [← h7]; push_cast; rfl
    have := Nat.div_add_mod b.toNat (2 ^ o.toNat)
    omega
  · have e : b = (b.toNat : Int) := by omega
    rw [e] at h8
    have : (r.toNat : Int) ≤ ((b.toNat / 2 ^ o.toNat : Nat) : Int) := by push_cast; omega
    omega
theorem Cut.ok {b o r : Nat} (h : Cut b o r) : cutOk b r o := by
  refine ⟨by omega, by have := h.o15; omega, by have := h.b1; omega, by have := h.b2; omega, by omega, by have := h.r2; omega, ?_, ?_⟩
  · have e : (((b % 2 ^ o : Nat)) : Int) = 0 := by
      have := Nat.div_add_mod b (2 ^ o); have := h.dv; omega
    rw [← e]; push_cast; simp
  · have e : (r : Int) ≤ ((b / 2 ^ o : Nat) : Int) := by have := h.le; omega
    push_cast at e
    simpa using e
theorem frN_zero (b o r : Nat) : frN b o r 0 = 0 := by simp [frN]
theorem frN_mono (b o r i : Nat) : frN b o r i ≤ frN b o r (i + 1) := by
  unfold frN; rw [Nat.add_mul]; omega
theorem frN_le (b o r : Nat) (i j : Nat) (h : i ≤ j) : frN b o r i ≤ frN b o r j := by
  unfold frN; have := Nat.mul_le_mul_right (b / 2 ^ o) h; omega
theorem Cut.total {b o r : Nat} (h : Cut b o r) : frN b o r (2 ^ o) = b - r := by unfold frN; rw [h.dv]
theorem Cut.fr_succ {b o r : Nat} (h : Cut b o r) (i : Nat) : frN b o r (i + 1) + r = (i + 1) * (b / 2 ^ o) := by
  unfold frN; have := h.le; have := Nat.mul_le_mul_right (b / 2 ^ o) (show 1 ≤ i + 1 by omega); omega
theorem Cut.rb {b o r : Nat} (h : Cut b o r) : r ≤ b := Nat.le_trans h.le (Nat.div_le_self _ _)
theorem frN_bound {b o r : Nat} (h : Cut b o r) (i : Nat) (hi : i ≤ 2 ^ o) : frN b o r i ≤ b - r := by rw [← h.total]; exact frN_le b o r i _ hi
theorem partN_length (l : List Int) {b o r : Nat} (h : Cut b o r) (hl : l.length = b - r) (i : Nat) (hi : i < 2 ^ o) : (partN l b o r i).length = frN b o r (i + 1) - frN b o r i := by
  unfold partN; rw [List.length_take, List.length_drop]
  have := frN_bound h (i + 1) hi; have := frN_mono b o r i
  omega
theorem take_part' (l : List Int) (b o r i : Nat) : l.take (frN b o r i) ++ partN l b o r i = l.take (frN b o r (i + 1)) := by
  unfold partN
  have h := frN_mono b o r i
  have e : frN b o r (i + 1) = frN b o r i + (frN b o r (i + 1) - frN b o r i) := by omega
  conv => rhs; rw [e]
  rw [List.take_add]

/-- one residual as bits. -/
def fitE (k e n : Int) : Prop := if e = -1 then rcwE n k = 0 else if e = 0 then n = 0 else sigE n e = 0
def fitT (k e n : Int) : Bool := if e = -1 then decide (rcwE n k = 0) else if e = 0 then decide (n = 0) else decide (sigE n e = 0)
theorem fitT_iff (k e n : Int) : fitT k e n = true ↔ fitE k e n := by
  unfold fitT fitE
  split
  · exact decide_eq_true_iff
  · split
    · exact decide_eq_true_iff
    · exact decide_eq_true_iff
theorem bool_no {b : Bool} {P : Prop} (hi : b = true ↔ P) (h : ¬ P) : b = false := by
  cases e : b with
  | false => rfl
  | true => exact absurd (hi.1 e) h
theorem fitT_yes {k e n : Int} (h : fitE k e n) : fitT k e n = true := (fitT_iff k e n).2 h
theorem fitT_no {k e n : Int} (h : ¬ fitE k e n) : fitT k e n = false := bool_no (fitT_iff k e n) h
def allT (k e : Int) (l : List Int) : Bool := l.all (fitT k e)
theorem allT_iff (k e : Int) (l : List Int) : allT k e l = true ↔ ∀ x ∈ l, fitE k e x := by
  unfold allT
  rw [List.all_eq_true]
  exact ⟨fun h x hx => (fitT_iff k e x).1 (h x hx), fun h x hx => (fitT_iff k e x).2 (h x hx)⟩
theorem allT_yes {k e : Int} {l : List Int} (h : ∀ x ∈ l, fitE k e x) : allT k e l = true := (allT_iff k e l).2 h
theorem allT_no {k e : Int} {l : List Int} (h : ¬ ∀ x ∈ l, fitE k e x) : allT k e l = false := bool_no (allT_iff k e l) h
def oneB (k e n : Int) : List Nat := if e = -1 then rcwB n k else if e = 0 then [] else sigB n e
def headB (m k e : Int) : List Nat := if e = -1 then putB k (4 + m) else putB (15 + 16 * m) (4 + m) ++ putB e 5
def numsB (k e : Int) (xs : List Int) : List Nat := xs.flatMap (oneB k e)
def partB (m k e : Int) (xs : List Int) : List Nat := headB m k e ++ numsB k e xs
def partsB (c : Rc) (b o r : Nat) (l : List Int) (n : Nat) : List Nat := (List.range n).flatMap fun i => partB c.m (c.P.getD i 0) (c.E.getD i 0) (partN l b o r i)
def encB (c : Rc) (b r : Nat) (l : List Int) : List Nat := putB c.m 2 ++ putB c.o 4 ++ partsB c b c.o.toNat r l (2 ^ c.o.toNat)
def allFit (c : Rc) (b o r : Nat) (l : List Int) (n : Nat) : Prop := ∀ i, i < n → ∀ x ∈ partN l b o r i, fitE (c.P.getD i 0) (c.E.getD i 0) x
def encOk (c : Rc) (b r : Int) (l : List Int) : Prop := chkOk c b r ∧ (l.length : Int) = b - r ∧ allFit c b.toNat c.o.toNat r.toNat l (2 ^ c.o.toNat)
theorem partsB_zero (c : Rc) (b o r : Nat) (l : List Int) : partsB c b o r l 0 = [] := rfl
theorem partsB_succ (c : Rc) (b o r : Nat) (l : List Int) (n : Nat) : partsB c b o r l (n + 1) = partsB c b o r l n ++ partB c.m (c.P.getD n 0) (c.E.getD n 0) (partN l b o r n) := by
  unfold partsB; rw [List.range_succ, List.flatMap_append]; simp
theorem numsB_nil (k e : Int) : numsB k e [] = [] := rfl
theorem numsB_snoc (k e : Int) (xs : List Int) (x : Int) : numsB k e (xs ++ [x]) = numsB k e xs ++ oneB k e x := by
  unfold numsB; rw [List.flatMap_append]; simp
theorem oneB_01 (k e n : Int) : Bits01 (oneB k e n) := by
  unfold oneB; split
  · exact rcwB_01 _ _
  · split
    · exact Bits01.nil
    · exact sigB_01 _ _
theorem headB_01 (m k e : Int) : Bits01 (headB m k e) := by
  unfold headB; split
  · exact putB_01 _ _
  · exact (putB_01 _ _).append (putB_01 _ _)
theorem numsB_01 (k e : Int) (xs : List Int) : Bits01 (numsB k e xs) := by
  induction xs with
  | nil => exact Bits01.nil
  | cons x t ih => exact (oneB_01 k e x).append ih
theorem partB_01 (m k e : Int) (xs : List Int) : Bits01 (partB m k e xs) := (headB_01 _ _ _).append (numsB_01 _ _ _)
theorem partsB_01 (c : Rc) (b o r : Nat) (l : List Int) (n : Nat) : Bits01 (partsB c b o r l n) := by
  induction n with
  | zero => exact Bits01.nil
  | succ n ih => rw [partsB_succ]; exact ih.append (partB_01 _ _ _ _)
theorem encB_01 (c : Rc) (b r : Nat) (l : List Int) : Bits01 (encB c b r l) := ((putB_01 _ _).append (putB_01 _ _)).append (partsB_01 _ _ _ _ _ _)
theorem oneB_len (k e n : Int) : (oneB k e n).length ≤ 17000000 := by
  unfold oneB; split
  · exact rcwB_len _ _
  · split
    · simp
    · exact sigB_len _ _
theorem putB_short (u k : Int) (hk : k ≤ 64) : (putB u k).length ≤ 64 := by
  unfold putB; split
  · rw [bitsOf_length]; omega
  · simp
theorem headB_len (m k e : Int) (hm : m ≤ 1) : (headB m k e).length ≤ 128 := by
  unfold headB; split
  · have := putB_short k (4 + m) (by omega); omega
  · rw [List.length_append]
    have := putB_short (15 + 16 * m) (4 + m) (by omega); have := putB_short e 5 (by omega); omega
theorem numsB_len (k e : Int) (xs : List Int) : (numsB k e xs).length ≤ 17000000 * xs.length := by
  induction xs with
  | nil => simp [numsB]
  | cons x t ih =>
    have h1 := oneB_len k e x
    have : (numsB k e (x :: t)).length = (oneB k e x).length + (numsB k e t).length := by simp [numsB]
    rw [this, List.length_cons]; omega
theorem partsB_len (c : Rc) (hm : c.m ≤ 1) {b o r : Nat} (h : Cut b o r) (l : List Int) (hl : l.length = b - r) (n : Nat) (hn : n ≤ 2 ^ o) : (partsB c b o r l n).length ≤ 128 * n + 17000000 * frN b o r n := by
  induction n with
  | zero => simp [partsB]
  | succ n ih =>
    rw [partsB_succ, List.length_append]
    unfold partB; rw [List.length_append]
    have h1 := headB_len c.m (c.P.getD n 0) (c.E.getD n 0) hm
    have h2 := numsB_len (c.P.getD n 0) (c.E.getD n 0) (partN l b o r n)
    rw [partN_length l h hl n (by omega)] at h2
    have h3 := ih (by omega)
    have h4 := frN_mono b o r n
    have : 17000000 * (frN b o r (n + 1) - frN b o r n) = 17000000 * frN b o r (n + 1) - 17000000 * frN b o r n := Nat.mul_sub _ _ _
    have := Nat.mul_le_mul_left 17000000 h4
    omega
/-- any beginning of the bits is short enough for a writer. -/
theorem parts_room (c : Rc) (hm : c.m ≤ 1) {b o r : Nat} (h : Cut b o r) (l : List Int) (hl : l.length = b - r) (n : Nat) (hn : n ≤ 2 ^ o) (h5 : l.length ≤ 65535) : (partsB c b o r l n).length ≤ 1200000000000 := by
  have h1 := partsB_len c hm h l hl n hn
  have h2 := frN_bound h n hn
  have h3 := pow15 o h.o15; have := h.b2
  omega

end Go.Proofs.Ytkhdkmdiblomhaa

namespace Go.Proofs.Ytkhdkmdiblomhaa
open Go.RowKit
set_option linter.unusedSimpArgs false
set_option linter.unusedVariables false

/-- A list of numbers in memory. -/
structure IntsAt (w : World) (ao : Option Addr) (l : List Int) : Prop where
  len : l.length ≤ 17592186044415
  num : ∀ n ∈ l, -9223372036854775808 ≤ n ∧ n ≤ 9223372036854775807
  lies : 0 < l.length → ∃ b off, ao = some ⟨b, off, none⟩ ∧ ∀ j, j < l.length → w.cell? ⟨b, off + j, none⟩ = some (.int .i64 (l.getD j 0))
theorem lt_cell {w : World} {a : Addr} {v : Value} (h : w.cell? a = some v) : a.block < w.heap.size := World.block_lt_of_cell? w a h
theorem IntsAt.keep {w w' : World} {ao : Option Addr} {l : List Int} (h : IntsAt w ao l) (hb : ∀ k, k < w.heap.size → w'.heap[k]? = w.heap[k]?) : IntsAt w' ao l := by
  refine ⟨h.len, h.num, fun h0 => ?_⟩
  obtain ⟨b, off, e, hc⟩ := h.lies h0
  refine ⟨b, off, e, fun j hj => ?_⟩
  have h1 := hc j hj
  have h2 := lt_cell h1
  rw [← h1]
  exact World.cell?_of_block (w := w) (hb b h2)
theorem IntsAt.below {w w' : World} {ao : Option Addr} {xs : List Int} (h : IntsAt w ao xs) (hb : Below w.heap.size w w') : IntsAt w' ao xs := h.keep hb.block
theorem IntsAt.drewN {w : World} {ao : Option Addr} {xs : List Int} (h : IntsAt w ao xs) (n : Nat) : IntsAt (w.drewN n) ao xs := h.keep fun k _ => by simp
theorem IntsAt.stays {w w' : World} {ao : Option Addr} {xs : List Int} (h : IntsAt w ao xs) {S : Nat → Prop} (hS : Stays S w w') (hn : ∀ b, blockOf ao = some b → ¬ S b) : IntsAt w' ao xs := by
  refine ⟨h.len, h.num, fun h0 => ?_⟩
  obtain ⟨b, off, e, hc⟩ := h.lies h0
  refine ⟨b, off, e, fun j hj => ?_⟩
  have h1 := hc j hj
  have h2 := lt_cell h1
  rw [← h1]
  exact World.cell?_of_block (w := w) (hS.block b h2 (hn b (by rw [e]; rfl)))
theorem IntsAt.get {w : World} {b off : Nat} {l : List Int} (h : IntsAt w (some ⟨b, off, none⟩) l) (j : Nat) (hj : j < l.length) : w.cell? ⟨b, off + j, none⟩ = some (.int .i64 (l.getD j 0)) := by
  obtain ⟨b', off', e, hc⟩ := h.lies (by omega)
  cases e
  exact hc j hj
theorem IntsAt.rng {w : World} {ao : Option Addr} {l : List Int} (h : IntsAt w ao l) (j : Nat) : -9223372036854775808 ≤ l.getD j 0 ∧ l.getD j 0 ≤ 9223372036854775807 := by
  by_cases hj : j < l.length
  · rw [List.getD_eq_getElem?_getD, List.getElem?_eq_getElem hj]
    exact h.num _ (List.getElem_mem hj)
  · rw [List.getD_eq_getElem?_getD, List.getElem?_eq_none (by omega)]
    decide
theorem IntsAt.addr {w : World} {ao : Option Addr} {l : List Int} (h : IntsAt w ao l) (h0 : 0 < l.length) : ∃ b off, ao = some ⟨b, off, none⟩ := by
  obtain ⟨b, off, e, _⟩ := h.lies h0
  exact ⟨b, off, e⟩
theorem getD_part (l : List Int) (f n j : Nat) (hj : j < n) : ((l.drop f).take n).getD j 0 = l.getD (f + j) 0 := by
  rw [List.getD_eq_getElem?_getD, List.getD_eq_getElem?_getD, List.getElem?_take_of_lt hj, List.getElem?_drop]
/-- a part of a list lies in it. -/
theorem IntsAt.part {w : World} {ao : Option Addr} {l : List Int} (h : IntsAt w ao l) (f n : Nat) (hf : f + n ≤ l.length) (xo : Option Addr) (hx : ∀ b off, ao = some ⟨b, off, none⟩ → 0 < n → xo = some ⟨b, off + f, none⟩) : IntsAt w xo ((l.drop f).take n) := by
  have hl : ((l.drop f).take n).length = n := by rw [List.length_take, List.length_drop]; omega
  refine ⟨by rw [hl]; have := h.len; omega, fun x hx => h.num x (List.mem_of_mem_drop (List.mem_of_mem_take hx)), fun h0 => ?_⟩
  rw [hl] at h0
  obtain ⟨b, off, e, hc⟩ := h.lies (by omega)
  refine ⟨b, off + f, hx b off e h0, fun j hj => ?_⟩
  rw [hl] at hj
  rw [getD_part l f n j hj, show off + f + j = off + (f + j) from by omega]
  exact hc _ (by omega)

def intsC (l : List Int) : List Value := l.map fun n => Value.int .i64 n
theorem intsC_length (l : List Int) : (intsC l).length = l.length := by simp [intsC]
theorem intsC_one (l : List Int) : ∀ u ∈ intsC l, u.oneCell' = true := by
  intro u hu
  obtain ⟨n, _, rfl⟩ := List.mem_map.1 hu
  rfl
theorem intsC_append (l m : List Int) : intsC (l ++ m) = intsC l ++ intsC m := by simp [intsC]

abbrev riceC (c : Rc) (pa : Option Addr) (pc : Nat) (ea : Option Addr) (ec : Nat) : Array Value := #[.int .i64 c.m, .int .i64 c.o, .slice pa c.P.length pc, .slice ea c.E.length ec]
abbrev riceV (c : Rc) (pa : Option Addr) (pc : Nat) (ea : Option Addr) (ec : Nat) : Value := .agg (riceC c pa pc ea ec)
/-- A recipe in memory: its lists; its numbers are an int's. -/
structure RcAt (w : World) (c : Rc) (pa ea : Option Addr) : Prop where
  P : IntsAt w pa c.P
  E : IntsAt w ea c.E
  m1 : -9223372036854775808 ≤ c.m
  m2 : c.m ≤ 9223372036854775807
  o1 : -9223372036854775808 ≤ c.o
  o2 : c.o ≤ 9223372036854775807
theorem RcAt.keep {w w' : World} {c : Rc} {pa ea : Option Addr} (h : RcAt w c pa ea) (hb : ∀ k, k < w.heap.size → w'.heap[k]? = w.heap[k]?) : RcAt w' c pa ea := ⟨h.P.keep hb, h.E.keep hb, h.m1, h.m2, h.o1, h.o2⟩
theorem RcAt.below {w w' : World} {c : Rc} {pa ea : Option Addr} (h : RcAt w c pa ea) (hb : Below w.heap.size w w') : RcAt w' c pa ea := h.keep hb.block

theorem below_drewN (w : World) (n : Nat) : Below w.heap.size w (w.drewN n) := ⟨rfl, rfl, rfl, Nat.le_refl _, fun _ _ => rfl⟩
theorem Below.drewN {B : Nat} {a w : World} (h : Below B a w) (n : Nat) : Below B a (w.drewN n) := ⟨h.os, h.tape, h.output, h.size, h.block⟩
theorem heap_two (w : World) (A B : Obj) : ((w.alloc A).alloc B).heap[w.heap.size]? = some A := by
  have hb : Below (w.heap.size + 1) (w.alloc A) ((w.alloc A).alloc B) := (Below.refl _ _).alloc (by simp) _
  rw [hb.block _ (by omega)]; exact heap_alloc_new _ _
theorem results_one {fn : Func} {p : Tmp} {ty : TypeId} (h : fn.results = #[.cell p ty]) (tmps : Array Value) (P : Program) (w : World) :
    (results fn tmps).run P w = ((asAddr (tmps.getD p undef)).run P w).andThen fun a w₁ => (loadVar ty a).run P w₁ := by
  simp only [results, h]
  simp [Sem.run_bind, Result.andThen]
theorem results_two {fn : Func} {p t : Tmp} {ty : TypeId} (h : fn.results = #[.cell p ty, .tmp t]) (tmps : Array Value) (P : Program) (w : World) :
    (results fn tmps).run P w = ((asAddr (tmps.getD p undef)).run P w).andThen fun a w₁ => ((loadVar ty a).run P w₁).andThen fun x w₂ => .ok (.tuple #[x, tmps.getD t undef]) w₂ := by
  simp only [results, h]
  simp [Sem.run_bind, Result.andThen]
/-- A box of a recipe at the end of memory, and all that was there as it was. -/
structure RB (w : World) (c : Rc) (pa : Option Addr) (pc : Nat) (ea : Option Addr) (ec : Nat) (wx : World) : Prop where
  box : wx.heap[w.heap.size]? = some (.cells (riceC c pa pc ea ec) 24 (0, 0))
  below : Below w.heap.size w wx
section
variable {w wx w' : World} {c : Rc} {pa : Option Addr} {pc : Nat} {ea : Option Addr} {ec : Nat}
theorem lt_of_block {w : World} {k : Nat} {o : Obj} (h : w.heap[k]? = some o) : k < w.heap.size := by
  rcases Nat.lt_or_ge k w.heap.size with h1 | h1
  · exact h1
  · rw [Array.getElem?_eq_none h1] at h; cases h
theorem RB.new (w : World) (c : Rc) (pa : Option Addr) (pc : Nat) (ea : Option Addr) (ec : Nat) : RB w c pa pc ea ec (w.alloc (.cells (riceC c pa pc ea ec) 24)) :=
  ⟨heap_alloc_new _ _, (Below.refl _ _).alloc (Nat.le_refl _) _⟩
theorem RB.next (h : RB w c pa pc ea ec wx) (hb : Below wx.heap.size wx w') : RB w c pa pc ea ec w' :=
  ⟨by rw [hb.block _ (lt_of_block h.box)]; exact h.box, h.below.trans (hb.mono h.below.size)⟩
theorem RB.past (h : RB w c pa pc ea ec wx) (hb : Below (w.heap.size + 1) wx w') : RB w c pa pc ea ec w' :=
  ⟨by rw [hb.block _ (by omega)]; exact h.box, h.below.trans (hb.mono (by omega))⟩
theorem RB.drewN (h : RB w c pa pc ea ec wx) (n : Nat) : RB w c pa pc ea ec (wx.drewN n) :=
  ⟨by simpa using h.box, Below.drewN h.below n⟩
theorem RB.c0 (h : RB w c pa pc ea ec wx) : wx.cell? ⟨w.heap.size, 0, none⟩ = some (.int .i64 c.m) := by rw [cell_of_row _ _ _ _ _ _ h.box]; rfl
theorem RB.c1 (h : RB w c pa pc ea ec wx) : wx.cell? ⟨w.heap.size, 1, none⟩ = some (.int .i64 c.o) := by rw [cell_of_row _ _ _ _ _ _ h.box]; rfl
theorem RB.c2 (h : RB w c pa pc ea ec wx) : wx.cell? ⟨w.heap.size, 2, none⟩ = some (.slice pa c.P.length pc) := by rw [cell_of_row _ _ _ _ _ _ h.box]; rfl
theorem RB.c3 (h : RB w c pa pc ea ec wx) : wx.cell? ⟨w.heap.size, 3, none⟩ = some (.slice ea c.E.length ec) := by rw [cell_of_row _ _ _ _ _ _ h.box]; rfl
end

end Go.Proofs.Ytkhdkmdiblomhaa

namespace Go.Proofs.Ytkhdkmdiblomhaa
open Go.RowKit
set_option linter.unusedSimpArgs false
set_option linter.unusedVariables false

set_option maxRecDepth 20000 in
set_option maxHeartbeats 3200000 in
theorem pw_spec (m : Int) (h0 : 0 ≤ m) (h1 : m ≤ 1) (w : World) :
    Calls Try.prog 79 #[.int .i64 m] w fun e w' => e = .returned (.int .i64 (4 + m)) ∧ w' = w := by
  rcases (show m = 0 ∨ m = 1 by omega) with rfl | rfl
  · go_enter Try.func79, Try.ntmps79
    go_wp2
    go_ret
    exact ⟨rfl, rfl⟩
  · go_enter Try.func79, Try.ntmps79
    go_wp2
    go_ret
    exact ⟨rfl, rfl⟩
set_option maxRecDepth 20000 in
set_option maxHeartbeats 3200000 in
theorem mark_spec (m : Int) (h0 : 0 ≤ m) (h1 : m ≤ 1) (w : World) :
    Calls Try.prog 80 #[.int .i64 m] w fun e w' => e = .returned (.int .i64 (15 + 16 * m)) ∧ w' = w := by
  have KP := fun wx => pw_spec m h0 h1 wx
  rcases (show m = 0 ∨ m = 1 by omega) with rfl | rfl
  · go_enter Try.func80, Try.ntmps80
    go_wp2_with (go_at_call 79; refine (KP _).mono ?_; rintro e w' ⟨rfl, rfl⟩)
    go_ret
    exact ⟨rfl, rfl⟩
  · go_enter Try.func80, Try.ntmps80
    go_wp2_with (go_at_call 79; refine (KP _).mono ?_; rintro e w' ⟨rfl, rfl⟩)
    go_ret
    exact ⟨rfl, rfl⟩
def areB (b r : Int) : Bool := decide (1 ≤ b ∧ b ≤ 65535 ∧ 0 ≤ r ∧ r ≤ 32)
set_option maxRecDepth 20000 in
set_option maxHeartbeats 3200000 in
theorem areOf_spec (b r : Int) (w : World) : Calls Try.prog 75 #[.int .i64 b, .int .i64 r] w fun e w' => e = .returned (.bool (areB b r)) ∧ w' = w := by
  by_cases g0 : b < 1
  · have hd : areB b r = false := decide_eq_false (by omega)
    rw [hd]
    go_enter Try.func75, Try.ntmps75
    go_wp2
    go_ret
    exact ⟨rfl, rfl⟩
  · skip
    by_cases g1 : 65535 < b
    · have hd : areB b r = false := decide_eq_false (by omega)
      rw [hd]
      go_enter Try.func75, Try.ntmps75
      go_wp2
      go_ret
      exact ⟨rfl, rfl⟩
    · skip
      by_cases g2 : r < 0
      · have hd : areB b r = false := decide_eq_false (by omega)
        rw [hd]
        go_enter Try.func75, Try.ntmps75
        go_wp2
        go_ret
        exact ⟨rfl, rfl⟩
      · skip
        by_cases g3 : 32 < r
        · have hd : areB b r = false := decide_eq_false (by omega)
          have hb : decide (r ≤ 32) = false := decide_eq_false (by omega)
          rw [hd]
          go_enter Try.func75, Try.ntmps75
          go_wp2
          go_ret
          exact ⟨rfl, rfl⟩
        · skip
          have hd : areB b r = true := decide_eq_true (by omega)
          have hb : decide (r ≤ 32) = true := decide_eq_true (by omega)
          rw [hd]
          go_enter Try.func75, Try.ntmps75
          go_wp2
          go_ret
          exact ⟨rfl, rfl⟩
set_option maxRecDepth 20000 in
set_option maxHeartbeats 3200000 in
theorem mayBe_spec (m k e : Int) (h0 : 0 ≤ m) (h1 : m ≤ 1) (w : World) : Calls Try.prog 74 #[.int .i64 m, .int .i64 k, .int .i64 e] w fun en w' => en = .returned (.bool (decide (mayOk m k e))) ∧ w' = w := by
  have KM := fun wx => mark_spec m h0 h1 wx
  by_cases he : e = -1
  · subst he
    by_cases g0 : k < 0
    · have hd : decide (mayOk m k (-1)) = false := decide_eq_false (by unfold mayOk; omega)
      rw [hd]
      go_enter Try.func74, Try.ntmps74
      go_wp2
      go_ret
      exact ⟨rfl, rfl⟩
    · skip
      by_cases g1 : ¬ k < 15 + 16 * m
      · have hd : decide (mayOk m k (-1)) = false := decide_eq_false (by unfold mayOk; omega)
        have hb : decide (k < 15 + 16 * m) = false := decide_eq_false (by omega)
        rw [hd]
        go_enter Try.func74, Try.ntmps74
        go_wp2_with (go_at_call 80; refine (KM _).mono ?_; rintro e w' ⟨rfl, rfl⟩)
        go_ret
        exact ⟨rfl, rfl⟩
      · skip
        have hd : decide (mayOk m k (-1)) = true := decide_eq_true (by unfold mayOk; omega)
        have hb : decide (k < 15 + 16 * m) = true := decide_eq_true (by omega)
        rw [hd]
        go_enter Try.func74, Try.ntmps74
        go_wp2_with (go_at_call 80; refine (KM _).mono ?_; rintro e w' ⟨rfl, rfl⟩)
        go_ret
        exact ⟨rfl, rfl⟩
  · have hbe : (e == -1) = false := by rw [beq_eq_false_iff_ne]; exact he
    by_cases g0 : ¬ k = 0
    · have hd : decide (mayOk m k e) = false := decide_eq_false (by unfold mayOk; omega)
      have hb : (k == 0) = false := by rw [beq_eq_false_iff_ne]; exact g0
      rw [hd]
      go_enter Try.func74, Try.ntmps74
      go_wp2
      go_ret
      exact ⟨rfl, rfl⟩
    · skip
      by_cases g1 : e < 0
      · have hd : decide (mayOk m k e) = false := decide_eq_false (by unfold mayOk; omega)
        have hk : k = 0 := by omega
        subst hk
        rw [hd]
        go_enter Try.func74, Try.ntmps74
        go_wp2
        go_ret
        exact ⟨rfl, rfl⟩
      · skip
        by_cases g2 : 31 < e
        · have hd : decide (mayOk m k e) = false := decide_eq_false (by unfold mayOk; omega)
          have hb : decide (e ≤ 31) = false := decide_eq_false (by omega)
          have hk : k = 0 := by omega
          subst hk
          rw [hd]
          go_enter Try.func74, Try.ntmps74
          go_wp2
          go_ret
          exact ⟨rfl, rfl⟩
        · skip
          have hk : k = 0 := by omega
          subst hk
          have hd : decide (mayOk m 0 e) = true := decide_eq_true (by unfold mayOk; omega)
          have hb : decide (e ≤ 31) = true := decide_eq_true (by omega)
          rw [hd]
          go_enter Try.func74, Try.ntmps74
          go_wp2
          go_ret
          exact ⟨rfl, rfl⟩

end Go.Proofs.Ytkhdkmdiblomhaa
