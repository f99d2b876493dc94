/- Own text. -/
import Derived.Deep.Draws
import Derived.Test.YthgpleelpeacjaaGreatDoorH0
import Derived.Test.YthgpleelpeacjaaGreatDoorH1
set_option linter.unusedSimpArgs false
set_option linter.unusedVariables false
set_option maxRecDepth 20000
set_option maxHeartbeats 12800000
namespace Go.Proofs.YthgpleelpeacjaaGreatDoor
open Go.RowKit
def byteVals (bs : List Nat) : List Value := bs.map fun (b : Nat) => Value.int .u8 (b : Int)
theorem byteVals_length (bs : List Nat) : (byteVals bs).length = bs.length := by simp [byteVals]
theorem byteVals_append (as bs : List Nat) : byteVals (as ++ bs) = byteVals as ++ byteVals bs := by simp [byteVals]
section
variable {w w' : World} {p : Nat} {ao : Option Addr} {cap : Nat} {bs : List Nat} {cnt : Nat}
theorem block_setCell (w : World) (p i : Nat) (cs : Array Value) (t : TypeId) (u : Value) (h : w.heap[p]? = some (.cells cs t (0, 0))) :
  (w.setCell ⟨p, i, none⟩ u).heap[p]? = some (.cells (cs.setIfInBounds i u) t (0, 0)) := heap_setCell_same w p i cs t u h
end
def foot (p : Nat) (ao : Option Addr) : Nat → Prop := fun k => k = p ∨ blockOf ao = some k
theorem Stays.foot {p : Nat} {ao ao' : Option Addr} {a b c : World} (h : Stays (foot p ao) a b) (k : Stays (foot p ao') b c) (hm : Moved a.heap.size ao ao') : Stays (foot p ao) a c :=
 h.trans k (fun i hi ht => by
  rcases ht with ht | ht
  ·exact .inl ht
  ·rcases hm i ht with h1 | h1
   ·exact .inr h1
   ·omega)
end Go.Proofs.YthgpleelpeacjaaGreatDoor
