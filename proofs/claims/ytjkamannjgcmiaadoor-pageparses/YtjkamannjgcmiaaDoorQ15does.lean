/- Own text: what the program's calls of package page must do; the example of the law. -/
import Derived.Test.YtjkamannjgcmiaaDoorR15bld
import Derived.Test.YtjkamannjgcmiaaDoorR15lace
import Derived.Test.YtjkamannjgcmiaaDoorG7x
import Derived.Test.YtjkamannjgcmiaaDoorP15spo
namespace Go.Proofs.YtjkamannjgcmiaaDoor
open Go.RowKit
set_option linter.unusedSimpArgs false
set_option linter.unusedVariables false

/-- What the program's calls of package page do (L: what lies in memory for the sums). -/
structure Does15 (L : World → Prop) : Prop where
  keep : ∀ w w', L w → Below w.heap.size w w' → L w'
  prs : ∀ s : ByteArray, s.size ≤ 140737488351232 → ∀ w, L w → Calls Tryd.prog 8 #[.string s] w fun e w' => PrsE (prsP (bytesOf s)) e w' ∧ Below w.heap.size w w'
  bld : ∀ (l : List Pg) (pk : List ByteArray) (a b : Option Addr) (c d : Nat) (w : World), L w → PgsAt w a l → StrsAt w b pk → l.length ≤ 1048576 → (lacesL l).length ≤ 1048576 → pk.length ≤ 1048576 → (pk.map bytesOf).flatten.length ≤ 4194304 → (∀ p ∈ l, p.gr ≤ 9223372036854775807) → pk.length ≤ d → Calls Tryd.prog 13 #[.slice a l.length c, .slice b pk.length d] w fun e w' => BldE l pk e ∧ Below w.heap.size w w'
  pkt : ∀ (l : List Pg) (a : Option Addr) (c : Nat) (w : World), PgsAt w a l → l.length ≤ 1000000000000 → (lacesL l).length ≤ 1000000000000 → Calls Tryd.prog 15 #[.slice a l.length c] w fun e w' => (∃ ao cap, e = .returned (.tuple #[.slice ao (pktL (lacesL l)).length cap, .int .i64 (pktE (lacesL l))]) ∧ IntsAt w' ao (pktL (lacesL l)) ∧ (pktL (lacesL l)).length ≤ cap ∧ (ao = none → cap = 0)) ∧ Below w.heap.size w w'
  lac : ∀ (l : List Int) (a : Option Addr) (c : Nat) (mo : Int) (w : World), IntsAt w a l → l.length ≤ c → l.length ≤ 60 → (∀ x ∈ l, x ≤ 70000) → Calls Tryd.prog 18 #[.slice a l.length c, .int .i64 mo] w fun e w' => (∃ ao cap, e = .returned (.slice ao (lacP (mostN mo) (szN l)).length cap) ∧ RowsAt w' ao (lacP (mostN mo) (szN l)) ∧ (lacP (mostN mo) (szN l)).length ≤ cap ∧ (ao = none → cap = 0)) ∧ Below w.heap.size w w'
abbrev pg0 : Pg := ⟨6, 1, 0, -1, [1, 2]⟩
abbrev pk0 : List ByteArray := [⟨#[97]⟩, ⟨#[98, 99]⟩]
theorem ex_prs : (prsP (layAll [pg0] [97, 98, 99])).1 = 0 := by decide +kernel
theorem ex_ogg : prsP (bytesOf ⟨#[79, 103, 103, 83]⟩) = (2, [], []) := rfl
theorem ex_lac : lacP (mostN 255) (szN [510, 3]) = [[255, 255, 0], [3]] := by decide +kernel
theorem ex_ok : bldOk [pg0] pk0 := by
  refine ⟨⟨?_, by decide, by decide⟩, ?_, ex_prs⟩
  · intro x hx
    have : x = 1 ∨ x = 2 := by simpa [lacesL] using hx
    omega
  · intro p hp
    rw [List.mem_singleton] at hp
    subst hp
    decide
theorem ex_bld : bldP [pg0] (pk0.map bytesOf) = (0, layAll [pg0] [97, 98, 99]) := by
  unfold bldP
  rw [if_pos ex_ok]
  rfl
theorem ex_len : (layAll [pg0] [97, 98, 99]).length = 32 := by
  show (layP pg0 _ ++ []).length = 32
  rw [List.append_nil, layP_length]
  rfl

end Go.Proofs.YtjkamannjgcmiaaDoor
