/- Own text: what each write answers and adds, as one function for the program's writer and for the document's; the two of them side by side in memory. -/
import Derived.Test.YtfmpiidnemhijaaDoorRefrice
namespace Go.Proofs.YtfmpiidnemhijaaDoor
open Go.RowKit
set_option linter.unusedSimpArgs false
set_option linter.unusedVariables false


def putE (u k : Int) : Int := if 0 ≤ k ∧ k ≤ 64 ∧ u < 2 ^ k.toNat then 0 else 11
def putB (u k : Int) : List Nat := if 0 ≤ k ∧ k ≤ 64 ∧ u < 2 ^ k.toNat then bitsOf u.toNat k.toNat else []
def sigE (n k : Int) : Int := if 1 ≤ k ∧ k ≤ 64 ∧ -2 ^ (k.toNat - 1) ≤ n ∧ n < 2 ^ (k.toNat - 1) then 0 else 11
def sigB (n k : Int) : List Nat := if 1 ≤ k ∧ k ≤ 64 ∧ -2 ^ (k.toNat - 1) ≤ n ∧ n < 2 ^ (k.toNat - 1) then bitsOf (asU n) k.toNat else []
def unrE (n : Int) : Int := if 0 ≤ n ∧ n ≤ 16777216 then 0 else 11
def unrB (n : Int) : List Nat := if 0 ≤ n ∧ n ≤ 16777216 then List.replicate n.toNat 0 ++ [1] else []
def rcwE (n k : Int) : Int := if 0 ≤ k ∧ k ≤ 30 ∧ foldN n / 2 ^ k.toNat ≤ 16777216 then 0 else 11
def rcwB (n k : Int) : List Nat := if 0 ≤ k ∧ k ≤ 30 ∧ foldN n / 2 ^ k.toNat ≤ 16777216 then List.replicate (foldN n / 2 ^ k.toNat) 0 ++ [1] ++ bitsOf (foldN n) k.toNat else []
def aliB (B : List Nat) : List Nat := List.replicate (8 * ((B.length + 7) / 8) - B.length) 0

theorem Bits01.nil : Bits01 [] := by intro b hb; cases hb
theorem Bits01.one : Bits01 [1] := by intro b hb; simp at hb; omega
theorem putB_01 (u k : Int) : Bits01 (putB u k) := by unfold putB; split; exact bitsOf_01 _ _; exact Bits01.nil
theorem sigB_01 (n k : Int) : Bits01 (sigB n k) := by unfold sigB; split; exact bitsOf_01 _ _; exact Bits01.nil
theorem unrB_01 (n : Int) : Bits01 (unrB n) := by unfold unrB; split; exact (Bits01.zeros _).append Bits01.one; exact Bits01.nil
theorem rcwB_01 (n k : Int) : Bits01 (rcwB n k) := by unfold rcwB; split; exact ((Bits01.zeros _).append Bits01.one).append (bitsOf_01 _ _); exact Bits01.nil
theorem aliB_01 (B : List Nat) : Bits01 (aliB B) := Bits01.zeros _
theorem putB_len (u k : Int) : (putB u k).length ≤ 17000000 := by unfold putB; split; (rw [bitsOf_length]; omega); simp
theorem sigB_len (n k : Int) : (sigB n k).length ≤ 17000000 := by unfold sigB; split; (rw [bitsOf_length]; omega); simp
theorem unrB_len (n : Int) : (unrB n).length ≤ 17000000 := by unfold unrB; split; (rw [List.length_append, List.length_replicate, List.length_singleton]; omega); simp
theorem rcwB_len (n k : Int) : (rcwB n k).length ≤ 17000000 := by
  unfold rcwB
  split
  · rw [List.length_append, List.length_append, List.length_replicate, List.length_singleton, bitsOf_length]; omega
  · simp
theorem aliB_len (B : List Nat) : (aliB B).length ≤ 17000000 := by unfold aliB; rw [List.length_replicate]; omega

section
variable (w : World) (ao : Option Addr) (B : List Nat)

theorem wput_all (p : Nat) (u k : Int) (u1 : 0 ≤ u) (u2 : u ≤ 18446744073709551615) (h01 : Bits01 B) (hB : B.length ≤ 700000000000) (hw : WrB w p ao B) :
    Calls Tryd.prog 46 #[.pointer (some ⟨p, 0, none⟩), .int .u64 u, .int .i64 k] w fun e w' => e = .returned (.int .i64 (putE u k)) ∧ ∃ ao', WrB w' p ao' (B ++ putB u k) ∧ Stays (foot p ao) w w' ∧ Moved w.heap.size ao ao' := by
  by_cases h : 0 ≤ k ∧ k ≤ 64 ∧ u < 2 ^ k.toNat
  · unfold putE putB
    rw [if_pos h, if_pos h]
    obtain ⟨j, rfl⟩ : ∃ j : Nat, k = (j : Int) := ⟨k.toNat, by omega⟩
    obtain ⟨v, rfl⟩ : ∃ v : Nat, u = (v : Int) := ⟨u.toNat, by omega⟩
    have hv : v < 2 ^ j := by
      have e := h.2.2
      have e2 : (2 : Int) ^ (j : Int).toNat = ((2 ^ j : Nat) : Int) := by simp
      rw [e2] at e
      omega
    exact put_ok p v j (by omega) hv w ao B h01 (by omega) hw
  · unfold putE putB
    rw [if_neg h, if_neg h]
    refine (put_bad p u k u1 (by omega) (by omega) w).mono ?_
    rintro e w' ⟨rfl, rfl⟩
    exact ⟨rfl, ao, by simpa using hw, Stays.refl _ _, Moved.refl _ _⟩

theorem xput_all (x : Nat) (u k : Int) (u1 : 0 ≤ u) (u2 : u ≤ 18446744073709551615) (hB : B.length ≤ 700000000000) (hw : XwB w x ao B) :
    Calls Tryd.prog 24 #[.pointer (some ⟨x, 0, none⟩), .int .u64 u, .int .i64 k] w fun e w' => e = .returned (.int .i64 (putE u k)) ∧ ∃ ao', XwB w' x ao' (B ++ putB u k) ∧ Stays (foot x ao) w w' ∧ Moved w.heap.size ao ao' := by
  by_cases h : 0 ≤ k ∧ k ≤ 64 ∧ u < 2 ^ k.toNat
  · unfold putE putB
    rw [if_pos h, if_pos h]
    obtain ⟨j, rfl⟩ : ∃ j : Nat, k = (j : Int) := ⟨k.toNat, by omega⟩
    obtain ⟨v, rfl⟩ : ∃ v : Nat, u = (v : Int) := ⟨u.toNat, by omega⟩
    have hv : v < 2 ^ j := by
      have e := h.2.2
      have e2 : (2 : Int) ^ (j : Int).toNat = ((2 ^ j : Nat) : Int) := by simp
      rw [e2] at e
      omega
    exact refput_ok x v j (by omega) hv w ao B (by omega) hw
  · unfold putE putB
    rw [if_neg h, if_neg h]
    refine (refput_bad x u k u1 (by omega) (by omega) w).mono ?_
    rintro e w' ⟨rfl, rfl⟩
    exact ⟨rfl, ao, by simpa using hw, Stays.refl _ _, Moved.refl _ _⟩

end

/-- The two writers side by side, in memory from block N on. -/
structure Pair (N : Nat) (w0 w : World) (p x : Nat) (ao bo : Option Addr) (B1 B2 : List Nat) : Prop where
  wr : WrB w p ao B1
  xw : XwB w x bo B2
  hp : N ≤ p
  hx : N ≤ x
  px : p ≠ x
  aox : blockOf ao ≠ some x
  bop : blockOf bo ≠ some p
  ab : ∀ b, blockOf ao = some b → blockOf bo ≠ some b
  aoN : ∀ b, blockOf ao = some b → N ≤ b
  boN : ∀ b, blockOf bo = some b → N ≤ b
  below : Below N w0 w

section
variable {N : Nat} {w0 w w' : World} {p x : Nat} {ao bo ao' bo' : Option Addr} {B1 B2 B1' B2' : List Nat}

theorem Pair.left (h : Pair N w0 w p x ao bo B1 B2) (hw : WrB w' p ao' B1') (hS : Stays (foot p ao) w w') (hM : Moved w.heap.size ao ao') : Pair N w0 w' p x ao' bo B1' B2 where
  wr := hw
  xw := h.xw.stays hS (fun hf => by rcases hf with hf | hf; exact h.px hf.symm; exact h.aox hf) (fun b hb hf => by
    rcases hf with hf | hf
    · exact h.bop (by rw [hb, hf])
    · exact h.ab b hf hb)
  hp := h.hp
  hx := h.hx
  px := h.px
  aox := fun e => by
    rcases hM x e with h1 | h1
    · exact h.aox h1
    · have := h.xw.lt; omega
  bop := h.bop
  ab := fun b hb hc => by
    rcases hM b hb with h1 | h1
    · exact h.ab b h1 hc
    · have := h.xw.blocks b hc; omega
  aoN := fun b hb => by
    rcases hM b hb with h1 | h1
    · exact h.aoN b h1
    · have := h.wr.lt; have := h.hp; omega
  boN := h.boN
  below := h.below.trans (foot_below hS (by have := h.wr.lt; have := h.hp; omega) h.hp h.aoN)

theorem Pair.right (h : Pair N w0 w p x ao bo B1 B2) (hw : XwB w' x bo' B2') (hS : Stays (foot x bo) w w') (hM : Moved w.heap.size bo bo') : Pair N w0 w' p x ao bo' B1 B2' where
  wr := h.wr.stays hS (fun hf => by rcases hf with hf | hf; exact h.px hf; exact h.bop hf) (fun b hb hf => by
    rcases hf with hf | hf
    · exact h.aox (by rw [hb, hf])
    · exact h.ab b hb hf)
  xw := hw
  hp := h.hp
  hx := h.hx
  px := h.px
  aox := h.aox
  bop := fun e => by
    rcases hM p e with h1 | h1
    · exact h.bop h1
    · have := h.wr.lt; omega
  ab := fun b hb hc => by
    rcases hM b hc with h1 | h1
    · exact h.ab b hb h1
    · have := h.wr.blocks b hb; omega
  aoN := h.aoN
  boN := fun b hb => by
    rcases hM b hb with h1 | h1
    · exact h.boN b h1
    · have := h.xw.lt; have := h.hx; omega
  below := h.below.trans (foot_below hS (by have := h.wr.lt; have := h.hp; omega) h.hx h.boN)

theorem Pair.later (h : Pair N w0 w p x ao bo B1 B2) (hb : Below w.heap.size w w') : Pair N w0 w' p x ao bo B1 B2 where
  wr := h.wr.below hb
  xw := h.xw.stays (Stays.of_below hb (fun _ => False)) (fun h => h) (fun _ _ h => h)
  hp := h.hp
  hx := h.hx
  px := h.px
  aox := h.aox
  bop := h.bop
  ab := h.ab
  aoN := h.aoN
  boN := h.boN
  below := h.below.trans (hb.mono (by have := h.wr.lt; have := h.hp; omega))

/-- A block that is neither's stays as it was. -/
theorem Pair.box1 (h : Pair N w0 w p x ao bo B1 B2) (hS : Stays (foot p ao) w w') {c : Nat} (hc : c < w.heap.size) (h1 : c ≠ p) (h2 : blockOf ao ≠ some c) : w'.heap[c]? = w.heap[c]? :=
  hS.block c hc (fun hf => by rcases hf with hf | hf; exact h1 hf; exact h2 hf)
end
end Go.Proofs.YtfmpiidnemhijaaDoor
