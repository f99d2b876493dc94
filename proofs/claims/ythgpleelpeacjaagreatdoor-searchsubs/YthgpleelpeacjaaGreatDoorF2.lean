/- Own text. -/
import Derived.Deep.Draws
import Derived.Test.YthgpleelpeacjaaGreatDoorF0
import Derived.Test.YthgpleelpeacjaaGreatDoorF1
set_option linter.unusedSimpArgs false
set_option linter.unusedVariables false
set_option maxRecDepth 20000
set_option maxHeartbeats 12800000
namespace Go.Proofs.YthgpleelpeacjaaGreatDoor
open Go.RowKit
def byteVals (bs : List Nat) : List Value := bs.map fun (b : Nat) => Value.int .u8 (b : Int)
theorem byteVals_length (bs : List Nat) : (byteVals bs).length = bs.length := by simp [byteVals]
theorem byteVals_append (as bs : List Nat) : byteVals (as ++ bs) = byteVals as ++ byteVals bs := by simp [byteVals]
theorem byteVals_zeros (k : Nat) : byteVals (List.replicate k 0) = List.replicate k (.int .u8 0) := by simp [byteVals]
structure Wr (w : World) (p : Nat) (ao : Option Addr) (cap : Nat) (bs : List Nat) (cnt : Nat) : Prop where
 blk : w.heap[p]? = some (.cells #[.slice ao bs.length cap, .int .i64 (cnt : Int)] 105 (0, 0))
 own : w.ownsRow 0 5 1 (.slice ao bs.length cap) bs.length (byteVals bs)
 ne : blockOf ao ≠ some p
section
variable {w w' : World} {p : Nat} {ao : Option Addr} {cap : Nat} {bs : List Nat} {cnt : Nat}
theorem block_setCell (w : World) (p i : Nat) (cs : Array Value) (t : TypeId) (u : Value) (h : w.heap[p]? = some (.cells cs t (0, 0))) :
  (w.setCell ⟨p, i, none⟩ u).heap[p]? = some (.cells (cs.setIfInBounds i u) t (0, 0)) := heap_setCell_same w p i cs t u h
end
theorem owns_drewN {w : World} {base e size : Nat} {v : Value} {n : Nat} {xs : List Value} (h : w.ownsRow base e size v n xs) (k : Nat) : (w.drewN k).ownsRow base e size v n xs := h
def foot (p : Nat) (ao : Option Addr) : Nat → Prop := fun k => k = p ∨ blockOf ao = some k
def WrB (w : World) (p : Nat) (ao : Option Addr) (B : List Nat) : Prop := ∃ cap, Wr w p ao cap (pack B) B.length
theorem Stays.foot {p : Nat} {ao ao' : Option Addr} {a b c : World} (h : Stays (foot p ao) a b) (k : Stays (foot p ao') b c) (hm : Moved a.heap.size ao ao') : Stays (foot p ao) a c :=
 h.trans k (fun i hi ht => by
  rcases ht with ht | ht
  ·exact .inl ht
  ·rcases hm i ht with h1 | h1
   ·exact .inr h1
   ·omega)
theorem WrB.step {wx : World} {p g cap l t : Nat} {B : List Nat} (h : Wr wx p (some ⟨g, 0, none⟩) cap (packN B l) B.length) (h0 : 0 < l) (h1 : 8 * l ≤ B.length + 8) (ht : 0 < t) (h2 : B.length + t ≤ 8 * l)
  (x : Nat) (c : Int) (hc : c = ((B.length + t : Nat) : Int)) : WrB ((wx.setCell ⟨g, l - 1, none⟩ (.int .u8 ((byteOf B (l - 1) + x % 2 ^ t * 2 ^ (8 * l - B.length - t) : Nat) : Int))).setCell ⟨p, 1, none⟩ (.int .i64 c)) p (some ⟨g, 0, none⟩) (B ++ bitsOf x t) := by
 subst hc
 refine ⟨cap, ?_⟩
 have hs := (h.setByte (l - 1) (byteOf B (l - 1) + x % 2 ^ t * 2 ^ (8 * l - B.length - t))).setCount (B.length + t)
 have e := packN_step B (bitsOf x t) (l - 1) (by omega) (by rw [bitsOf_length]; omega)
 rw [num_bitsOf, bitsOf_length, show l - 1 + 1 = l from by omega, show 8 * (l - 1) + 8 = 8 * l from by omega] at e
 rw [← e] at hs
 unfold pack
 rw [List.length_append, bitsOf_length, show (B.length + t + 7) / 8 = l from by omega]
 exact hs
theorem WrB.step1 {wx : World} {p g cap l : Nat} {B : List Nat} (h : Wr wx p (some ⟨g, 0, none⟩) cap (packN B l) B.length) (h0 : 0 < l) (h1 : 8 * l ≤ B.length + 8) (h2 : B.length < 8 * l)
  (x : Nat) (c : Int) (hc : c = ((8 * l : Nat) : Int)) : WrB ((wx.setCell ⟨g, l - 1, none⟩ (.int .u8 ((byteOf B (l - 1) + x % 2 ^ (8 * l - B.length) : Nat) : Int))).setCell ⟨p, 1, none⟩ (.int .i64 c)) p (some ⟨g, 0, none⟩) (B ++ bitsOf x (8 * l - B.length)) := by
 have hs := WrB.step h h0 h1 (show 0 < 8 * l - B.length by omega) (by omega) x c (by rw [hc]; omega)
 rw [Nat.sub_self, Nat.pow_zero, Nat.mul_one] at hs
 exact hs
theorem packN_full (B : List Nat) (h : B.length = 8 * (pack B).length) : packN B ((pack B).length + 1) = pack B ++ [0] := by
 rw [pack_length] at h ⊢
 rw [packN_past B _ 1 (by omega)]
 rfl
end Go.Proofs.YthgpleelpeacjaaGreatDoor
