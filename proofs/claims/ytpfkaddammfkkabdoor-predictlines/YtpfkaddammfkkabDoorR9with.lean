/- Own text: the document's within; two lists that are made at once. -/
import Derived.Test.YtpfkaddammfkkabDoorR9sh2
namespace Go.Proofs.YtpfkaddammfkkabDoor
open Go.RowKit
set_option linter.unusedSimpArgs false
set_option linter.unusedVariables false
/-- Two lists that the call makes by append. -/
structure Out2 (w : World) (vX vY : Value) (xs ys : List Int) (X : World) : Prop where
  ox : X.ownsRow w.heap.size 3 1 vX xs.length (intsC xs)
  oy : X.ownsRow w.heap.size 3 1 vY ys.length (intsC ys)
  ab : ∀ g, vX.ownBlock = some g → vY.ownBlock ≠ some g
  below : Below w.heap.size w X
section
variable {w X X' : World} {vX vY : Value} {xs ys : List Int}
theorem Out2.nil (w : World) : Out2 w (.slice none 0 0) (.slice none 0 0) [] [] w := ⟨World.ownsRow_nil _ _ _ _, World.ownsRow_nil _ _ _ _, fun g hg => (by cases hg), Below.refl _ _⟩
theorem Out2.low (h : Out2 w vX vY xs ys X) (hb : Below X.heap.size X X') : Out2 w vX vY xs ys X' := ⟨own_low h.ox hb, own_low h.oy hb, h.ab, h.below.trans (hb.mono h.below.size)⟩
theorem Out2.alloc (h : Out2 w vX vY xs ys X) (o : Obj) : Out2 w vX vY xs ys (X.alloc o) := h.low ((Below.refl _ _).alloc (Nat.le_refl _) _)
theorem Out2.pushX (h : Out2 w vX vY xs ys X) {g cap : Nat} {w1 : World} {p : Int} (ho : w1.ownsRow w.heap.size 3 1 (.slice (some ⟨g, 0, none⟩) (xs.length + 1) cap) (xs.length + 1) (intsC xs ++ [.int .i64 p])) (hg : X.grownBy w1 vX.ownBlock) (hat : vX.ownBlock = some g ∨ g = X.heap.size) : Out2 w (.slice (some ⟨g, 0, none⟩) (xs.length + 1) cap) vY (xs ++ [p]) ys w1 := by
  refine ⟨by rw [List.length_append, intsC_append]; exact ho, ?_, fun y hy hz => ?_, h.below.trans ⟨hg.os, hg.tape, hg.output, hg.size, fun k hk => hg.block k (by have := h.below.size; omega) (fun e => by have := (h.ox.lt k e.symm).1; omega)⟩⟩
  · refine h.oy.kept hg ?_
    cases e : vY.ownBlock with
    | none => exact .inl rfl
    | some y => exact .inr (fun e2 => h.ab y e2.symm e)
  · have e : g = y := by simpa [Value.ownBlock] using hy
    subst e
    rcases hat with h1 | h1
    · exact h.ab _ h1 hz
    · have := (h.oy.lt _ hz).2; omega
theorem Out2.pushY (h : Out2 w vX vY xs ys X) {g cap : Nat} {w1 : World} {p : Int} (ho : w1.ownsRow w.heap.size 3 1 (.slice (some ⟨g, 0, none⟩) (ys.length + 1) cap) (ys.length + 1) (intsC ys ++ [.int .i64 p])) (hg : X.grownBy w1 vY.ownBlock) (hat : vY.ownBlock = some g ∨ g = X.heap.size) : Out2 w vX (.slice (some ⟨g, 0, none⟩) (ys.length + 1) cap) xs (ys ++ [p]) w1 := by
  refine ⟨?_, by rw [List.length_append, intsC_append]; exact ho, fun y hy hz => ?_, h.below.trans ⟨hg.os, hg.tape, hg.output, hg.size, fun k hk => hg.block k (by have := h.below.size; omega) (fun e => by have := (h.oy.lt k e.symm).1; omega)⟩⟩
  · refine h.ox.kept hg ?_
    cases e : vX.ownBlock with
    | none => exact .inl rfl
    | some y => exact .inr (fun e2 => h.ab y e e2.symm)
  · have e : g = y := by simpa [Value.ownBlock] using hz
    subst e
    rcases hat with h1 | h1
    · exact h.ab _ hy h1
    · have := (h.ox.lt _ hy).2; omega
theorem Out2.shape (h : Out2 w vX vY xs ys X) : ∃ xa xc ya yc, vX = .slice xa xs.length xc ∧ vY = .slice ya ys.length yc := by
  obtain ⟨xa, xc, h1, _⟩ := owns_shape h.ox
  obtain ⟨ya, yc, h2, _⟩ := owns_shape h.oy
  exact ⟨xa, xc, ya, yc, h1, h2⟩
end
def Ret3 (R : Option (List Int × List Int)) (w : World) (e : Ending) (w' : World) : Prop := ∃ xa xc ya yc, e = .returned (.tuple #[.slice xa (ansL (R.map Prod.fst)).length xc, .slice ya (ansL (R.map Prod.snd)).length yc, .int .i64 (ansE (R.map Prod.fst))]) ∧ IntsAt w' xa (ansL (R.map Prod.fst)) ∧ IntsAt w' ya (ansL (R.map Prod.snd)) ∧ Below w.heap.size w w'
theorem ret3_none {R : Option (List Int × List Int)} (h : R = none) {w w' : World} {e : Ending} (he : e = .returned (.tuple #[.slice none 0 0, .slice none 0 0, .int .i64 1])) (hb : Below w.heap.size w w') : Ret3 R w e w' := by
  subst h; exact ⟨none, 0, none, 0, he, IntsAt.nil w', IntsAt.nil w', hb⟩
theorem ret3_some {R : Option (List Int × List Int)} {L M : List Int} (h : R = some (L, M)) {w w' : World} {e : Ending} {xa ya : Option Addr} {xc yc : Nat} (he : e = .returned (.tuple #[.slice xa L.length xc, .slice ya M.length yc, .int .i64 0])) (hi : IntsAt w' xa L) (hj : IntsAt w' ya M) (hb : Below w.heap.size w w') : Ret3 R w e w' := by
  subst h; exact ⟨xa, xc, ya, yc, he, hi, hj, hb⟩
def stR (m : Int) (a b : List Int) : Option (List Int × List Int) := if (0 ≤ m ∧ m ≤ 3) ∧ a.length = b.length ∧ inB a 1099511627776 = true ∧ inB b 1099511627776 = true then some (zipN (stP m.toNat) a b a.length, zipN (stQ m.toNat) a b a.length) else none
def ustR (m : Int) (a b : List Int) : Option (List Int × List Int) := if (0 ≤ m ∧ m ≤ 3) ∧ a.length = b.length ∧ inB a 4398046511104 = true ∧ inB b 4398046511104 = true then some (zipN (unP m.toNat) a b a.length, zipN (unQ m.toNat) a b a.length) else none
theorem inB_at (l : List Int) (M : Int) (h : inB l M = true) (hM : 0 ≤ M) (j : Nat) : -M ≤ l.getD j 0 ∧ l.getD j 0 ≤ M := by
  rw [inB_iff] at h
  rw [List.getD_eq_getElem?_getD]
  cases e : l[j]? with
  | none => simp; omega
  | some x => exact h x (List.mem_of_getElem? e)
theorem zipN_num (f : Int → Int → Int) (a b : List Int) (M : Int) (hM : 0 ≤ M) (ha : inB a M = true) (hb : inB b M = true) (hf : ∀ p q, -M ≤ p ∧ p ≤ M → -M ≤ q ∧ q ≤ M → -9223372036854775808 ≤ f p q ∧ f p q ≤ 9223372036854775807) (n : Nat) : Rng (zipN f a b n) := by
  induction n with
  | zero => intro x hx; cases hx
  | succ n ih =>
    intro x hx
    rcases List.mem_append.1 hx with hx | hx
    · exact ih x hx
    · rw [List.mem_singleton] at hx; rw [hx]; exact hf _ _ (inB_at a M ha hM n) (inB_at b M hb hM n)

end Go.Proofs.YtpfkaddammfkkabDoor
