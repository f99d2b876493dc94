/-
  No cell of these rows narrows 'for every input' (looked for: loops, veiled, ifaces, maps, wideKeys, modest, calm, conditions, laid).
  DERIVED. THE GIVEN ROWS OF THIS SEAT. 5 by the template 'for every input the law returns true; each argument reads behind the call as it read before'; 0 by the template 'total and deterministic' (their statements: YtolmijpecomkcaaTotals.lean).
  GIVEN WITH THE SEED: the statements are not yours to turn. If you find one false, say at which input.
  Laid BY PROGRAM, IN A SANDBOX (cutbox-rows.mjs): the forced cells as the released guide's own fill.sh prints them over the translation 7465301d601bb75d… (all of the seat's roots in one cut). By AI agents, Wed Nov 11 2026. No macro, syntax, notation, axiom, sorry.
-/
import Derived.Test.YtolmijpecomkcaaChecked
import GoSem.Claim
import GoSem.ClaimJoined
import GoSem.ClaimMapViews
import Derived.JoinedTies
import Derived.KernelRfl
namespace Go.Proofs.Ytolmijpecomkcaa
/- THE CELL 'sum', in the pinned program and in every row, IS THE sha256 OF THE DUMP (.gsa) THAT YtolmijpecomkcaaProg.lean LOADS. Nothing in Lean hashes anything: it is a label: what it is worth is what the hold of that sum in a sandbox is worth. -/
noncomputable def Try.pinned : Pinned := { name := "ytolmijpecomkcaa", sum := "7465301d601bb75d7731df610529f611f09b66796520600867dbc30f87a9ab75", checked := Try.checked }
namespace Rows
def none {H : Type} : Left H := { results := [], args := [] }

/-- 'lacquerlaw05.PcmChecks': WHATEVER THE INPUT: true; the input reads as it did. -/
def pcmChecksSpec : ChangeSpec := { name := "pcmChecks", fn := fun _ => fun
  | [d1, d2] => { results := [.lit (.bool true)], args := [d1, d2] }
  | _ => none }
def pcmChecksRow : OpenClaim := { program := "ytolmijpecomkcaa", sum := "7465301d601bb75d7731df610529f611f09b66796520600867dbc30f87a9ab75", func := "lacquer/lacquerlaw05.PcmChecks", spec := "pcmChecks", inPlace := ["internal/abi.NoEscape", "internal/bytealg.MakeNoZero"], unfollowed := true, recurses := true, apart := false }
def PcmChecksSaid : Prop := pcmChecksRow.holds Try.pinned (OpenSpec.ofChange pcmChecksSpec)

/-- ITS FALSE NEIGHBOUR: 'it returns false'. Refute it at one input. -/
def pcmChecksWrong : ChangeSpec := { name := "pcmChecks", fn := fun _ => fun
  | [d1, d2] => { results := [.lit (.bool false)], args := [d1, d2] }
  | _ => none }
def PcmChecksWrongFalsely : Prop := pcmChecksRow.holds Try.pinned (OpenSpec.ofChange pcmChecksWrong)

/-- 'lacquerlaw05.PcmUnpacks': WHATEVER THE INPUT: true; the input reads as it did. -/
def pcmUnpacksSpec : ChangeSpec := { name := "pcmUnpacks", fn := fun _ => fun
  | [d1, d2, d3] => { results := [.lit (.bool true)], args := [d1, d2, d3] }
  | _ => none }
def pcmUnpacksRow : OpenClaim := { program := "ytolmijpecomkcaa", sum := "7465301d601bb75d7731df610529f611f09b66796520600867dbc30f87a9ab75", func := "lacquer/lacquerlaw05.PcmUnpacks", spec := "pcmUnpacks", inPlace := ["internal/abi.NoEscape", "internal/bytealg.MakeNoZero"], unfollowed := true, recurses := true, apart := false }
def PcmUnpacksSaid : Prop := pcmUnpacksRow.holds Try.pinned (OpenSpec.ofChange pcmUnpacksSpec)

/-- ITS FALSE NEIGHBOUR: 'it returns false'. Refute it at one input. -/
def pcmUnpacksWrong : ChangeSpec := { name := "pcmUnpacks", fn := fun _ => fun
  | [d1, d2, d3] => { results := [.lit (.bool false)], args := [d1, d2, d3] }
  | _ => none }
def PcmUnpacksWrongFalsely : Prop := pcmUnpacksRow.holds Try.pinned (OpenSpec.ofChange pcmUnpacksWrong)

/-- 'lacquerlaw05.PcmBack': WHATEVER THE INPUT: true; the input reads as it did. -/
def pcmBackSpec : ChangeSpec := { name := "pcmBack", fn := fun _ => fun
  | [d1, d2, d3] => { results := [.lit (.bool true)], args := [d1, d2, d3] }
  | _ => none }
def pcmBackRow : OpenClaim := { program := "ytolmijpecomkcaa", sum := "7465301d601bb75d7731df610529f611f09b66796520600867dbc30f87a9ab75", func := "lacquer/lacquerlaw05.PcmBack", spec := "pcmBack", inPlace := ["internal/abi.NoEscape", "internal/bytealg.MakeNoZero"], unfollowed := true, recurses := true, apart := false }
def PcmBackSaid : Prop := pcmBackRow.holds Try.pinned (OpenSpec.ofChange pcmBackSpec)

/-- ITS FALSE NEIGHBOUR: 'it returns false'. Refute it at one input. -/
def pcmBackWrong : ChangeSpec := { name := "pcmBack", fn := fun _ => fun
  | [d1, d2, d3] => { results := [.lit (.bool false)], args := [d1, d2, d3] }
  | _ => none }
def PcmBackWrongFalsely : Prop := pcmBackRow.holds Try.pinned (OpenSpec.ofChange pcmBackWrong)

/-- 'lacquerlaw05.PcmParts': WHATEVER THE INPUT: true; the input reads as it did. -/
def pcmPartsSpec : ChangeSpec := { name := "pcmParts", fn := fun _ => fun
  | [d1, d2, d3] => { results := [.lit (.bool true)], args := [d1, d2, d3] }
  | _ => none }
def pcmPartsRow : OpenClaim := { program := "ytolmijpecomkcaa", sum := "7465301d601bb75d7731df610529f611f09b66796520600867dbc30f87a9ab75", func := "lacquer/lacquerlaw05.PcmParts", spec := "pcmParts", inPlace := ["internal/abi.NoEscape", "internal/bytealg.MakeNoZero"], unfollowed := true, recurses := true, apart := false }
def PcmPartsSaid : Prop := pcmPartsRow.holds Try.pinned (OpenSpec.ofChange pcmPartsSpec)

/-- ITS FALSE NEIGHBOUR: 'it returns false'. Refute it at one input. -/
def pcmPartsWrong : ChangeSpec := { name := "pcmParts", fn := fun _ => fun
  | [d1, d2, d3] => { results := [.lit (.bool false)], args := [d1, d2, d3] }
  | _ => none }
def PcmPartsWrongFalsely : Prop := pcmPartsRow.holds Try.pinned (OpenSpec.ofChange pcmPartsWrong)

/-- 'lacquerlaw05.PcmCuts': WHATEVER THE INPUT: true; the input reads as it did. -/
def pcmCutsSpec : ChangeSpec := { name := "pcmCuts", fn := fun _ => fun
  | [d1, d2, d3] => { results := [.lit (.bool true)], args := [d1, d2, d3] }
  | _ => none }
def pcmCutsRow : OpenClaim := { program := "ytolmijpecomkcaa", sum := "7465301d601bb75d7731df610529f611f09b66796520600867dbc30f87a9ab75", func := "lacquer/lacquerlaw05.PcmCuts", spec := "pcmCuts", inPlace := ["internal/abi.NoEscape", "internal/bytealg.MakeNoZero"], unfollowed := true, recurses := true, apart := false }
def PcmCutsSaid : Prop := pcmCutsRow.holds Try.pinned (OpenSpec.ofChange pcmCutsSpec)

/-- ITS FALSE NEIGHBOUR: 'it returns false'. Refute it at one input. -/
def pcmCutsWrong : ChangeSpec := { name := "pcmCuts", fn := fun _ => fun
  | [d1, d2, d3] => { results := [.lit (.bool false)], args := [d1, d2, d3] }
  | _ => none }
def PcmCutsWrongFalsely : Prop := pcmCutsRow.holds Try.pinned (OpenSpec.ofChange pcmCutsWrong)

/- THE SECOND FORM. 'bulk': how many values and letters a reading holds, each counted each time it is reached (what is shared counts as often as it is met; a slice's spare places count too). A statement '..UptoSaid' is the law's where the arguments, and the package variables that the reading takes, are together of bulk at most 1048576: NARROWER than '..Said'. Prove '..Said' where nothing that the law and all that it calls make is longer than what came in: it says more and counts as full. Else prove '..UptoSaid'. A law counts once. -/
mutual
def uptoBulk {H : Type} : DataW H → Nat
  | .lit (.string bytes) => bytes.length + 1
  | .lit _ => 1
  | .nil => 1
  | .ptr d => uptoBulk d + 1
  | .slice elems spare => uptoBulkAll elems + uptoBulkAll spare + 1
  | .agg parts => uptoBulkAll parts + 1
  | .iface _ d => uptoBulk d + 1
  | .map entries => uptoBulkEntries entries + 1
  | .held _ => 1
def uptoBulkAll {H : Type} : List (DataW H) → Nat
  | [] => 0
  | d :: r => uptoBulk d + uptoBulkAll r
def uptoBulkEntries {H : Type} : List (Lit × DataW H) → Nat
  | [] => 0
  | x :: r => uptoBulkEntry x + uptoBulkEntries r
def uptoBulkEntry {H : Type} : Lit × DataW H → Nat
  | (.string bytes, d) => bytes.length + uptoBulk d + 1
  | (_, d) => uptoBulk d + 1
 end
def uptoSmall : (H : Type) → List (DataW H) → Bool := fun _ ds => decide (uptoBulkAll ds ≤ 1048576)
def OpenSpec.upto (s : _root_.Go.ChangeSpec) : _root_.Go.OpenSpec := { _root_.Go.OpenSpec.ofChange s with cond := some uptoSmall }

/-- 'lacquerlaw05.PcmChecks', WHERE WHAT IT READS IS OF BULK AT MOST 1048576: true; the input reads as it did. -/
def pcmChecksUptoRow : OpenClaim := { program := "ytolmijpecomkcaa", sum := "7465301d601bb75d7731df610529f611f09b66796520600867dbc30f87a9ab75", func := "lacquer/lacquerlaw05.PcmChecks", spec := "pcmChecks", inPlace := ["internal/abi.NoEscape", "internal/bytealg.MakeNoZero"], unfollowed := true, recurses := true, apart := false, narrowed := true }
def PcmChecksUptoSaid : Prop := pcmChecksUptoRow.holds Try.pinned (OpenSpec.upto pcmChecksSpec)

/-- 'lacquerlaw05.PcmUnpacks', WHERE WHAT IT READS IS OF BULK AT MOST 1048576: true; the input reads as it did. -/
def pcmUnpacksUptoRow : OpenClaim := { program := "ytolmijpecomkcaa", sum := "7465301d601bb75d7731df610529f611f09b66796520600867dbc30f87a9ab75", func := "lacquer/lacquerlaw05.PcmUnpacks", spec := "pcmUnpacks", inPlace := ["internal/abi.NoEscape", "internal/bytealg.MakeNoZero"], unfollowed := true, recurses := true, apart := false, narrowed := true }
def PcmUnpacksUptoSaid : Prop := pcmUnpacksUptoRow.holds Try.pinned (OpenSpec.upto pcmUnpacksSpec)

/-- 'lacquerlaw05.PcmBack', WHERE WHAT IT READS IS OF BULK AT MOST 1048576: true; the input reads as it did. -/
def pcmBackUptoRow : OpenClaim := { program := "ytolmijpecomkcaa", sum := "7465301d601bb75d7731df610529f611f09b66796520600867dbc30f87a9ab75", func := "lacquer/lacquerlaw05.PcmBack", spec := "pcmBack", inPlace := ["internal/abi.NoEscape", "internal/bytealg.MakeNoZero"], unfollowed := true, recurses := true, apart := false, narrowed := true }
def PcmBackUptoSaid : Prop := pcmBackUptoRow.holds Try.pinned (OpenSpec.upto pcmBackSpec)

/-- 'lacquerlaw05.PcmParts', WHERE WHAT IT READS IS OF BULK AT MOST 1048576: true; the input reads as it did. -/
def pcmPartsUptoRow : OpenClaim := { program := "ytolmijpecomkcaa", sum := "7465301d601bb75d7731df610529f611f09b66796520600867dbc30f87a9ab75", func := "lacquer/lacquerlaw05.PcmParts", spec := "pcmParts", inPlace := ["internal/abi.NoEscape", "internal/bytealg.MakeNoZero"], unfollowed := true, recurses := true, apart := false, narrowed := true }
def PcmPartsUptoSaid : Prop := pcmPartsUptoRow.holds Try.pinned (OpenSpec.upto pcmPartsSpec)

/-- 'lacquerlaw05.PcmCuts', WHERE WHAT IT READS IS OF BULK AT MOST 1048576: true; the input reads as it did. -/
def pcmCutsUptoRow : OpenClaim := { program := "ytolmijpecomkcaa", sum := "7465301d601bb75d7731df610529f611f09b66796520600867dbc30f87a9ab75", func := "lacquer/lacquerlaw05.PcmCuts", spec := "pcmCuts", inPlace := ["internal/abi.NoEscape", "internal/bytealg.MakeNoZero"], unfollowed := true, recurses := true, apart := false, narrowed := true }
def PcmCutsUptoSaid : Prop := pcmCutsUptoRow.holds Try.pinned (OpenSpec.upto pcmCutsSpec)

end Rows
end Go.Proofs.Ytolmijpecomkcaa
