/-
  No cell of these rows narrows 'for every input' (looked for: loops, veiled, ifaces, maps, wideKeys, modest, calm, conditions, laid).
  DERIVED. THE GIVEN ROWS OF THIS SEAT. 3 by the template 'for every input the law returns true; each argument reads behind the call as it read before'; 0 by the template 'total and deterministic' (their statements: YtkhdkmdiblomhaaTotals.lean).
  GIVEN WITH THE SEED: the statements are not yours to turn. If you find one false, say at which input.
  Laid BY PROGRAM, IN A SANDBOX (cutbox-rows.mjs): the forced cells as the released guide's own fill.sh prints them over the translation ff831119bde74a89… (all of the seat's roots in one cut). By AI agents, Wed Nov 11 2026. No macro, syntax, notation, axiom, sorry.
-/
import Derived.Test.YtkhdkmdiblomhaaChecked
import GoSem.Claim
import GoSem.ClaimJoined
import GoSem.ClaimMapViews
import Derived.JoinedTies
import Derived.KernelRfl
namespace Go.Proofs.Ytkhdkmdiblomhaa
/- THE CELL 'sum', in the pinned program and in every row, IS THE sha256 OF THE DUMP (.gsa) THAT YtkhdkmdiblomhaaProg.lean LOADS. Nothing in Lean hashes anything: it is a label: what it is worth is what the hold of that sum in a sandbox is worth. -/
noncomputable def Try.pinned : Pinned := { name := "ytkhdkmdiblomhaa", sum := "ff831119bde74a89bec9fe64481052b58464166bea8b9a396f5cfe27d0ef6970", checked := Try.checked }
namespace Rows
def none {H : Type} : Left H := { results := [], args := [] }

/-- 'lacquerlaw10.SubframeBack': WHATEVER THE INPUT: true; the input reads as it did. -/
def subframeBackSpec : ChangeSpec := { name := "subframeBack", fn := fun _ => fun
  | [d1, d2, d3] => { results := [.lit (.bool true)], args := [d1, d2, d3] }
  | _ => none }
def subframeBackRow : OpenClaim := { program := "ytkhdkmdiblomhaa", sum := "ff831119bde74a89bec9fe64481052b58464166bea8b9a396f5cfe27d0ef6970", func := "lacquer/lacquerlaw10.SubframeBack", spec := "subframeBack", unfollowed := true, recurses := true, apart := false }
def SubframeBackSaid : Prop := subframeBackRow.holds Try.pinned (OpenSpec.ofChange subframeBackSpec)

/-- ITS FALSE NEIGHBOUR: 'it returns false'. Refute it at one input. -/
def subframeBackWrong : ChangeSpec := { name := "subframeBack", fn := fun _ => fun
  | [d1, d2, d3] => { results := [.lit (.bool false)], args := [d1, d2, d3] }
  | _ => none }
def SubframeBackWrongFalsely : Prop := subframeBackRow.holds Try.pinned (OpenSpec.ofChange subframeBackWrong)

/-- 'lacquerlaw10.SubframeAgain': WHATEVER THE INPUT: true; the input reads as it did. -/
def subframeAgainSpec : ChangeSpec := { name := "subframeAgain", fn := fun _ => fun
  | [d1, d2, d3] => { results := [.lit (.bool true)], args := [d1, d2, d3] }
  | _ => none }
def subframeAgainRow : OpenClaim := { program := "ytkhdkmdiblomhaa", sum := "ff831119bde74a89bec9fe64481052b58464166bea8b9a396f5cfe27d0ef6970", func := "lacquer/lacquerlaw10.SubframeAgain", spec := "subframeAgain", unfollowed := true, recurses := true, apart := false }
def SubframeAgainSaid : Prop := subframeAgainRow.holds Try.pinned (OpenSpec.ofChange subframeAgainSpec)

/-- ITS FALSE NEIGHBOUR: 'it returns false'. Refute it at one input. -/
def subframeAgainWrong : ChangeSpec := { name := "subframeAgain", fn := fun _ => fun
  | [d1, d2, d3] => { results := [.lit (.bool false)], args := [d1, d2, d3] }
  | _ => none }
def SubframeAgainWrongFalsely : Prop := subframeAgainRow.holds Try.pinned (OpenSpec.ofChange subframeAgainWrong)

/-- 'lacquerlaw10.SubframeVerbatim': WHATEVER THE INPUT: true; the input reads as it did. -/
def subframeVerbatimSpec : ChangeSpec := { name := "subframeVerbatim", fn := fun _ => fun
  | [d1, d2] => { results := [.lit (.bool true)], args := [d1, d2] }
  | _ => none }
def subframeVerbatimRow : OpenClaim := { program := "ytkhdkmdiblomhaa", sum := "ff831119bde74a89bec9fe64481052b58464166bea8b9a396f5cfe27d0ef6970", func := "lacquer/lacquerlaw10.SubframeVerbatim", spec := "subframeVerbatim", unfollowed := true, recurses := true, apart := false }
def SubframeVerbatimSaid : Prop := subframeVerbatimRow.holds Try.pinned (OpenSpec.ofChange subframeVerbatimSpec)

/-- ITS FALSE NEIGHBOUR: 'it returns false'. Refute it at one input. -/
def subframeVerbatimWrong : ChangeSpec := { name := "subframeVerbatim", fn := fun _ => fun
  | [d1, d2] => { results := [.lit (.bool false)], args := [d1, d2] }
  | _ => none }
def SubframeVerbatimWrongFalsely : Prop := subframeVerbatimRow.holds Try.pinned (OpenSpec.ofChange subframeVerbatimWrong)

/- THE SECOND FORM. 'bulk': how many values and letters a reading holds, each counted each time it is reached (what is shared counts as often as it is met; a slice's spare places count too). A statement '..UptoSaid' is the law's where the arguments, and the package variables that the reading takes, are together of bulk at most 1048576: NARROWER than '..Said'. Prove '..Said' where nothing that the law and all that it calls make is longer than what came in: it says more and counts as full. Else prove '..UptoSaid'. A law counts once. -/
mutual
def uptoBulk {H : Type} : DataW H → Nat
  | .lit (.string bytes) => bytes.length + 1
  | .lit _ => 1
  | .nil => 1
  | .ptr d => uptoBulk d + 1
  | .slice elems spare => uptoBulkAll elems + uptoBulkAll spare + 1
  | .agg parts => uptoBulkAll parts + 1
  | .iface _ d => uptoBulk d + 1
  | .map entries => uptoBulkEntries entries + 1
  | .held _ => 1
def uptoBulkAll {H : Type} : List (DataW H) → Nat
  | [] => 0
  | d :: r => uptoBulk d + uptoBulkAll r
def uptoBulkEntries {H : Type} : List (Lit × DataW H) → Nat
  | [] => 0
  | x :: r => uptoBulkEntry x + uptoBulkEntries r
def uptoBulkEntry {H : Type} : Lit × DataW H → Nat
  | (.string bytes, d) => bytes.length + uptoBulk d + 1
  | (_, d) => uptoBulk d + 1
 end
def uptoSmall : (H : Type) → List (DataW H) → Bool := fun _ ds => decide (uptoBulkAll ds ≤ 1048576)
def OpenSpec.upto (s : _root_.Go.ChangeSpec) : _root_.Go.OpenSpec := { _root_.Go.OpenSpec.ofChange s with cond := some uptoSmall }

/-- 'lacquerlaw10.SubframeBack', WHERE WHAT IT READS IS OF BULK AT MOST 1048576: true; the input reads as it did. -/
def subframeBackUptoRow : OpenClaim := { program := "ytkhdkmdiblomhaa", sum := "ff831119bde74a89bec9fe64481052b58464166bea8b9a396f5cfe27d0ef6970", func := "lacquer/lacquerlaw10.SubframeBack", spec := "subframeBack", unfollowed := true, recurses := true, apart := false, narrowed := true }
def SubframeBackUptoSaid : Prop := subframeBackUptoRow.holds Try.pinned (OpenSpec.upto subframeBackSpec)

/-- 'lacquerlaw10.SubframeAgain', WHERE WHAT IT READS IS OF BULK AT MOST 1048576: true; the input reads as it did. -/
def subframeAgainUptoRow : OpenClaim := { program := "ytkhdkmdiblomhaa", sum := "ff831119bde74a89bec9fe64481052b58464166bea8b9a396f5cfe27d0ef6970", func := "lacquer/lacquerlaw10.SubframeAgain", spec := "subframeAgain", unfollowed := true, recurses := true, apart := false, narrowed := true }
def SubframeAgainUptoSaid : Prop := subframeAgainUptoRow.holds Try.pinned (OpenSpec.upto subframeAgainSpec)

/-- 'lacquerlaw10.SubframeVerbatim', WHERE WHAT IT READS IS OF BULK AT MOST 1048576: true; the input reads as it did. -/
def subframeVerbatimUptoRow : OpenClaim := { program := "ytkhdkmdiblomhaa", sum := "ff831119bde74a89bec9fe64481052b58464166bea8b9a396f5cfe27d0ef6970", func := "lacquer/lacquerlaw10.SubframeVerbatim", spec := "subframeVerbatim", unfollowed := true, recurses := true, apart := false, narrowed := true }
def SubframeVerbatimUptoSaid : Prop := subframeVerbatimUptoRow.holds Try.pinned (OpenSpec.upto subframeVerbatimSpec)

end Rows
end Go.Proofs.Ytkhdkmdiblomhaa
