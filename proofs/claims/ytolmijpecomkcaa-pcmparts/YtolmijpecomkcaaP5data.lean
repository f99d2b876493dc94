/- Own text: samples as plain data, and where they lie in memory. -/
import Derived.Below
import Derived.WalkKit
import Derived.Deep.OwnRows
namespace Go.Proofs.Ytolmijpecomkcaa
open Go.RowKit
set_option linter.unusedSimpArgs false
set_option linter.unusedVariables false

/-- Samples: what the document's chapter 5 calls a PCM. -/
structure Pcm where
  rate : Int
  ch : Int
  wd : Int
  pl : List (List Int)

def lenP (p : Pcm) : Nat := (p.pl.getD 0 []).length
def sampB (n w : Int) : Bool := decide (-(2 ^ (w - 1).toNat) ≤ n ∧ n < 2 ^ (w - 1).toNat)
def headB (p : Pcm) : Bool := decide (1 ≤ p.rate ∧ p.rate ≤ 655350 ∧ 1 ≤ p.ch ∧ p.ch ≤ 8 ∧ 4 ≤ p.wd ∧ p.wd ≤ 32 ∧ (p.pl.length : Int) = p.ch)
def planeB (p : Pcm) (l : List Int) : Bool := decide (l.length = lenP p) && l.all (fun n => sampB n p.wd)
/-- Check's answer. -/
def checkN (p : Pcm) : Int := if headB p && p.pl.all (planeB p) then (if 1048576 < lenP p then 5 else 0) else 50
def formatB (f : Int) : Bool := decide (1 ≤ f ∧ f ≤ 5)
def fitB (f w : Int) : Bool := if f = 1 ∨ f = 2 then decide (w % 8 = 0) else if f = 3 ∨ f = 4 then decide (w ≤ 24) else decide (8 ≤ w ∧ w ≤ 24)
/-- Fits' answer. -/
def fitsN (f : Int) (p : Pcm) : Int := if formatB f then (if checkN p = 0 then (if fitB f p.wd then 0 else 4) else checkN p) else 1

/-- A list of numbers in memory. -/
structure IntsAt (w : World) (ao : Option Addr) (l : List Int) : Prop where
  len : l.length ≤ 17592186044415
  num : ∀ n ∈ l, -9223372036854775808 ≤ n ∧ n ≤ 9223372036854775807
  lies : 0 < l.length → ∃ b off, ao = some ⟨b, off, none⟩ ∧ ∀ j, j < l.length → w.cell? ⟨b, off + j, none⟩ = some (.int .i64 (l.getD j 0))

/-- A list of such lists. -/
structure RowsAt (w : World) (ao : Option Addr) (xs : List (List Int)) : Prop where
  len : xs.length ≤ 5864062014805
  lies : 0 < xs.length → ∃ b off, ao = some ⟨b, off, none⟩ ∧ ∀ i, i < xs.length → ∃ a c, w.cell? ⟨b, off + i, none⟩ = some (.slice a (xs.getD i []).length c) ∧ (xs.getD i []).length ≤ c ∧ (a = none → c = 0) ∧ IntsAt w a (xs.getD i [])

/-- Numbers that are an int's. -/
structure Fair (p : Pcm) : Prop where
  r1 : -9223372036854775808 ≤ p.rate
  r2 : p.rate ≤ 9223372036854775807
  c1 : -9223372036854775808 ≤ p.ch
  c2 : p.ch ≤ 9223372036854775807
  w1 : -9223372036854775808 ≤ p.wd
  w2 : p.wd ≤ 9223372036854775807

/-- A PCM's value. -/
abbrev pcmC (p : Pcm) (ao : Option Addr) (cap : Nat) : Array Value := #[.int .i64 p.rate, .int .i64 p.ch, .int .i64 p.wd, .slice ao p.pl.length cap]
abbrev pcmV (p : Pcm) (ao : Option Addr) (cap : Nat) : Value := .agg (pcmC p ao cap)

theorem lt_cell {w : World} {a : Addr} {v : Value} (h : w.cell? a = some v) : a.block < w.heap.size := World.block_lt_of_cell? w a h

theorem IntsAt.keep {w w' : World} {ao : Option Addr} {l : List Int} (h : IntsAt w ao l) (hb : ∀ k, k < w.heap.size → w'.heap[k]? = w.heap[k]?) : IntsAt w' ao l := by
  refine ⟨h.len, h.num, fun h0 => ?_⟩
  obtain ⟨b, off, e, hc⟩ := h.lies h0
  refine ⟨b, off, e, fun j hj => ?_⟩
  have h1 := hc j hj
  have h2 := lt_cell h1
  rw [← h1]
  exact World.cell?_of_block (w := w) (hb b h2)

theorem RowsAt.keep {w w' : World} {ao : Option Addr} {xs : List (List Int)} (h : RowsAt w ao xs) (hb : ∀ k, k < w.heap.size → w'.heap[k]? = w.heap[k]?) : RowsAt w' ao xs := by
  refine ⟨h.len, fun h0 => ?_⟩
  obtain ⟨b, off, e, hc⟩ := h.lies h0
  refine ⟨b, off, e, fun i hi => ?_⟩
  obtain ⟨a, c, h1, h5, h6, h2⟩ := hc i hi
  refine ⟨a, c, ?_, h5, h6, h2.keep hb⟩
  have h3 := lt_cell h1
  rw [← h1]
  exact World.cell?_of_block (w := w) (hb b h3)

theorem RowsAt.below {w w' : World} {ao : Option Addr} {xs : List (List Int)} (h : RowsAt w ao xs) (hb : Below w.heap.size w w') : RowsAt w' ao xs := h.keep hb.block
theorem IntsAt.below {w w' : World} {ao : Option Addr} {xs : List Int} (h : IntsAt w ao xs) (hb : Below w.heap.size w w') : IntsAt w' ao xs := h.keep hb.block

theorem all_false {α : Type} {l : List α} {f : α → Bool} {d : α} {i : Nat} (hi : i < l.length) (h : f (l.getD i d) = false) : l.all f = false := by
  rw [List.all_eq_false]
  refine ⟨l.getD i d, ?_, by rw [h]; decide⟩
  rw [List.getD_eq_getElem?_getD, List.getElem?_eq_getElem hi]
  exact List.getElem_mem hi
theorem all_true {α : Type} {l : List α} {f : α → Bool} {d : α} (h : ∀ i, i < l.length → f (l.getD i d) = true) : l.all f = true := by
  rw [List.all_eq_true]
  intro x hx
  obtain ⟨i, hi, rfl⟩ := List.mem_iff_getElem.1 hx
  have := h i hi
  rwa [List.getD_eq_getElem?_getD, List.getElem?_eq_getElem hi] at this

theorem check_head (p : Pcm) (h : headB p = false) : checkN p = 50 := by unfold checkN; rw [h]; rfl
theorem check_plane (p : Pcm) (i : Nat) (hi : i < p.pl.length) (h : planeB p (p.pl.getD i []) = false) : checkN p = 50 := by
  unfold checkN
  rw [all_false hi h, Bool.and_false]
  rfl
theorem check_all (p : Pcm) (h : headB p = true) (hp : ∀ i, i < p.pl.length → planeB p (p.pl.getD i []) = true) : checkN p = if 1048576 < lenP p then 5 else 0 := by
  unfold checkN
  rw [h, all_true hp]
  rfl
theorem plane_len (p : Pcm) (l : List Int) (h : ¬ l.length = lenP p) : planeB p l = false := by
  unfold planeB
  rw [decide_eq_false h]
  rfl
theorem plane_samp (p : Pcm) (l : List Int) (k : Nat) (hk : k < l.length) (h : sampB (l.getD k 0) p.wd = false) : planeB p l = false := by
  unfold planeB
  rw [all_false hk h, Bool.and_false]
theorem plane_all (p : Pcm) (l : List Int) (h : l.length = lenP p) (hs : ∀ k, k < l.length → sampB (l.getD k 0) p.wd = true) : planeB p l = true := by
  unfold planeB
  rw [decide_eq_true h, all_true hs]
  rfl
theorem head_parts (p : Pcm) (h : headB p = true) : 1 ≤ p.rate ∧ p.rate ≤ 655350 ∧ 1 ≤ p.ch ∧ p.ch ≤ 8 ∧ 4 ≤ p.wd ∧ p.wd ≤ 32 ∧ (p.pl.length : Int) = p.ch := of_decide_eq_true h

end Go.Proofs.Ytolmijpecomkcaa
