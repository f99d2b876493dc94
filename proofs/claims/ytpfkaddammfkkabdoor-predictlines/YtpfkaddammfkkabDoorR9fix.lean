/- Own text: the document's Fixed, Unfixed, Lpc and Unlpc. -/
import Derived.Test.YtpfkaddammfkkabDoorR9whole
namespace Go.Proofs.YtpfkaddammfkkabDoor
open Go.RowKit
set_option linter.unusedSimpArgs false
set_option linter.unusedVariables false

def fixR (o : Int) (l : List Int) : Option (List Int) := if 0 ≤ o ∧ o ≤ 4 ∧ o ≤ (l.length : Int) then some (leftN (wF o.toNat) 0 l (l.length - o.toNat)) else none
def unfR (o : Int) (warm l : List Int) : Option (List Int) := if 0 ≤ o ∧ o ≤ 4 ∧ (warm.length : Int) = o then some (wholeN (wF o.toNat) 0 warm l l.length) else none
def mayB (C : List Int) (sh : Int) : Bool := decide (1 ≤ C.length) && decide (C.length ≤ 32) && decide (0 ≤ sh) && decide (sh ≤ 31)
def lpcR (C : List Int) (sh : Int) (l : List Int) : Option (List Int) := if mayB C sh = true ∧ C.length ≤ l.length then some (leftN C sh.toNat l (l.length - C.length)) else none
def unlR (C : List Int) (sh : Int) (warm l : List Int) : Option (List Int) := if mayB C sh = true ∧ warm.length = C.length then some (wholeN C sh.toNat warm l l.length) else none
theorem ret_none {R : Option (List Int)} (h : R = none) {w w' : World} {e : Ending} (he : e = .returned (.tuple #[.slice none 0 0, .int .i64 1])) (hb : Below w.heap.size w w') : Ret2 R w e w' := by
  subst h; exact ⟨none, 0, he, IntsAt.nil w', hb⟩
theorem ret_some {R : Option (List Int)} {L : List Int} (h : R = some L) {w w' : World} {e : Ending} {la : Option Addr} {lc : Nat} (he : e = .returned (.tuple #[.slice la L.length lc, .int .i64 0])) (hi : IntsAt w' la L) (hb : Below w.heap.size w w') : Ret2 R w e w' := by
  subst h; exact ⟨la, lc, he, hi, hb⟩
theorem mayB_iff (C : List Int) (sh : Int) : mayB C sh = true ↔ 1 ≤ C.length ∧ C.length ≤ 32 ∧ 0 ≤ sh ∧ sh ≤ 31 := by unfold mayB; simp [and_assoc]
end Go.Proofs.YtpfkaddammfkkabDoor
