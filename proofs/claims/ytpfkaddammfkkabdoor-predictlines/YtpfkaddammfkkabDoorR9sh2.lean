/- Own text: the document's Shift and Unshift. -/
import Derived.Test.YtpfkaddammfkkabDoorR9was
namespace Go.Proofs.YtpfkaddammfkkabDoor
open Go.RowKit
set_option linter.unusedSimpArgs false
set_option linter.unusedVariables false

def shfR (l : List Int) (k : Int) : Option (List Int) := if (0 ≤ k ∧ k ≤ 31) ∧ dvB l k.toNat = true then some (shrL l k.toNat) else none
def unsR (l : List Int) (k : Int) : Option (List Int) := if 0 ≤ k ∧ k ≤ 31 then some (shlL l k.toNat) else none
theorem map_next (f : Int → Int) (l : List Int) (i : Nat) (h : i < l.length) : (l.take (i + 1)).map f = (l.take i).map f ++ [f (l.getD i 0)] := by
  rw [← take_next l i h, List.map_append]; rfl
theorem shrL_rng (l : List Int) (k : Nat) (h : Rng l) : Rng (shrL l k) := by
  intro x hx
  obtain ⟨n, hn, rfl⟩ := List.mem_map.1 hx
  exact shr_rng n k (h n hn)
theorem shlL_rng (l : List Int) (k : Nat) : Rng (shlL l k) := by
  intro x hx
  obtain ⟨n, hn, rfl⟩ := List.mem_map.1 hx
  exact wrap_rng _
end Go.Proofs.YtpfkaddammfkkabDoor
