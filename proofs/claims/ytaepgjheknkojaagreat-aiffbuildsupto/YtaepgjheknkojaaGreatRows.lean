/-
  No cell of these rows narrows 'for every input' (looked for: loops, veiled, ifaces, maps, wideKeys, modest, calm, conditions, laid).
  DERIVED. THE GIVEN ROWS OF THIS SEAT. 3 by the template 'for every input the law returns true; each argument reads behind the call as it read before'; 0 by the template 'total and deterministic' (their statements: YtaepgjheknkojaaGreatTotals.lean).
  GIVEN WITH THE SEED: the statements are not yours to turn. If you find one false, say at which input.
  Laid BY PROGRAM, IN A SANDBOX (cutbox-rows.mjs): the forced cells as the released guide's own fill.sh prints them over the translation 5d85572464c95382… (all of the seat's roots in one cut). By AI agents, Wed Nov 11 2026. No macro, syntax, notation, axiom, sorry.
-/
import Derived.Test.YtaepgjheknkojaaGreatChecked
import GoSem.Claim
import GoSem.ClaimJoined
import GoSem.ClaimMapViews
import Derived.JoinedTies
import Derived.KernelRfl
namespace Go.Proofs.YtaepgjheknkojaaGreat
/- THE CELL 'sum', in the pinned program and in every row, IS THE sha256 OF THE DUMP (.gsa) THAT YtaepgjheknkojaaGreatProg.lean LOADS. Nothing in Lean hashes anything: it is a label: what it is worth is what the hold of that sum in a sandbox is worth. -/
noncomputable def Tryz.pinned : Pinned := { name := "ytaepgjheknkojaagreat", sum := "5d85572464c95382c327da0aa44d5732cd471cc409e0d75c44ce42956948ddb5", checked := Tryz.checked }
namespace Rows
def none {H : Type} : Left H := { results := [], args := [] }

/-- 'lacquerlaw07.AiffParses': WHATEVER THE INPUT: true; the input reads as it did. -/
def aiffParsesSpec : ChangeSpec := { name := "aiffParses", fn := fun _ => fun
  | [d] => { results := [.lit (.bool true)], args := [d] }
  | _ => none }
def aiffParsesRow : OpenClaim := { program := "ytaepgjheknkojaagreat", sum := "5d85572464c95382c327da0aa44d5732cd471cc409e0d75c44ce42956948ddb5", func := "lacquer/lacquerlaw07.AiffParses", spec := "aiffParses", inPlace := ["internal/abi.NoEscape", "internal/bytealg.MakeNoZero"], unfollowed := true, recurses := true, apart := false }
def AiffParsesSaid : Prop := aiffParsesRow.holds Tryz.pinned (OpenSpec.ofChange aiffParsesSpec)

/-- ITS FALSE NEIGHBOUR: 'it returns false'. Refute it at one input. -/
def aiffParsesWrong : ChangeSpec := { name := "aiffParses", fn := fun _ => fun
  | [d] => { results := [.lit (.bool false)], args := [d] }
  | _ => none }
def AiffParsesWrongFalsely : Prop := aiffParsesRow.holds Tryz.pinned (OpenSpec.ofChange aiffParsesWrong)

/-- 'lacquerlaw07.AiffBuilds': WHATEVER THE INPUT: true; the input reads as it did. -/
def aiffBuildsSpec : ChangeSpec := { name := "aiffBuilds", fn := fun _ => fun
  | [d1, d2] => { results := [.lit (.bool true)], args := [d1, d2] }
  | _ => none }
def aiffBuildsRow : OpenClaim := { program := "ytaepgjheknkojaagreat", sum := "5d85572464c95382c327da0aa44d5732cd471cc409e0d75c44ce42956948ddb5", func := "lacquer/lacquerlaw07.AiffBuilds", spec := "aiffBuilds", inPlace := ["internal/abi.NoEscape", "internal/bytealg.MakeNoZero"], unfollowed := true, recurses := true, apart := false }
def AiffBuildsSaid : Prop := aiffBuildsRow.holds Tryz.pinned (OpenSpec.ofChange aiffBuildsSpec)

/-- ITS FALSE NEIGHBOUR: 'it returns false'. Refute it at one input. -/
def aiffBuildsWrong : ChangeSpec := { name := "aiffBuilds", fn := fun _ => fun
  | [d1, d2] => { results := [.lit (.bool false)], args := [d1, d2] }
  | _ => none }
def AiffBuildsWrongFalsely : Prop := aiffBuildsRow.holds Tryz.pinned (OpenSpec.ofChange aiffBuildsWrong)

/-- 'lacquerlaw07.AiffPlain': WHATEVER THE INPUT: true; the input reads as it did. -/
def aiffPlainSpec : ChangeSpec := { name := "aiffPlain", fn := fun _ => fun
  | [d] => { results := [.lit (.bool true)], args := [d] }
  | _ => none }
def aiffPlainRow : OpenClaim := { program := "ytaepgjheknkojaagreat", sum := "5d85572464c95382c327da0aa44d5732cd471cc409e0d75c44ce42956948ddb5", func := "lacquer/lacquerlaw07.AiffPlain", spec := "aiffPlain", inPlace := ["internal/abi.NoEscape", "internal/bytealg.MakeNoZero"], unfollowed := true, recurses := true, apart := false }
def AiffPlainSaid : Prop := aiffPlainRow.holds Tryz.pinned (OpenSpec.ofChange aiffPlainSpec)

/-- ITS FALSE NEIGHBOUR: 'it returns false'. Refute it at one input. -/
def aiffPlainWrong : ChangeSpec := { name := "aiffPlain", fn := fun _ => fun
  | [d] => { results := [.lit (.bool false)], args := [d] }
  | _ => none }
def AiffPlainWrongFalsely : Prop := aiffPlainRow.holds Tryz.pinned (OpenSpec.ofChange aiffPlainWrong)

/- THE SECOND FORM. 'bulk': how many values and letters a reading holds, each counted each time it is reached (what is shared counts as often as it is met; a slice's spare places count too). A statement '..UptoSaid' is the law's where the arguments, and the package variables that the reading takes, are together of bulk at most 1048576: NARROWER than '..Said'. Prove '..Said' where nothing that the law and all that it calls make is longer than what came in: it says more and counts as full. Else prove '..UptoSaid'. A law counts once. -/
mutual
def uptoBulk {H : Type} : DataW H → Nat
  | .lit (.string bytes) => bytes.length + 1
  | .lit _ => 1
  | .nil => 1
  | .ptr d => uptoBulk d + 1
  | .slice elems spare => uptoBulkAll elems + uptoBulkAll spare + 1
  | .agg parts => uptoBulkAll parts + 1
  | .iface _ d => uptoBulk d + 1
  | .map entries => uptoBulkEntries entries + 1
  | .held _ => 1
def uptoBulkAll {H : Type} : List (DataW H) → Nat
  | [] => 0
  | d :: r => uptoBulk d + uptoBulkAll r
def uptoBulkEntries {H : Type} : List (Lit × DataW H) → Nat
  | [] => 0
  | x :: r => uptoBulkEntry x + uptoBulkEntries r
def uptoBulkEntry {H : Type} : Lit × DataW H → Nat
  | (.string bytes, d) => bytes.length + uptoBulk d + 1
  | (_, d) => uptoBulk d + 1
 end
def uptoSmall : (H : Type) → List (DataW H) → Bool := fun _ ds => decide (uptoBulkAll ds ≤ 1048576)
def OpenSpec.upto (s : _root_.Go.ChangeSpec) : _root_.Go.OpenSpec := { _root_.Go.OpenSpec.ofChange s with cond := some uptoSmall }

/-- 'lacquerlaw07.AiffParses', WHERE WHAT IT READS IS OF BULK AT MOST 1048576: true; the input reads as it did. -/
def aiffParsesUptoRow : OpenClaim := { program := "ytaepgjheknkojaagreat", sum := "5d85572464c95382c327da0aa44d5732cd471cc409e0d75c44ce42956948ddb5", func := "lacquer/lacquerlaw07.AiffParses", spec := "aiffParses", inPlace := ["internal/abi.NoEscape", "internal/bytealg.MakeNoZero"], unfollowed := true, recurses := true, apart := false, narrowed := true }
def AiffParsesUptoSaid : Prop := aiffParsesUptoRow.holds Tryz.pinned (OpenSpec.upto aiffParsesSpec)

/-- 'lacquerlaw07.AiffBuilds', WHERE WHAT IT READS IS OF BULK AT MOST 1048576: true; the input reads as it did. -/
def aiffBuildsUptoRow : OpenClaim := { program := "ytaepgjheknkojaagreat", sum := "5d85572464c95382c327da0aa44d5732cd471cc409e0d75c44ce42956948ddb5", func := "lacquer/lacquerlaw07.AiffBuilds", spec := "aiffBuilds", inPlace := ["internal/abi.NoEscape", "internal/bytealg.MakeNoZero"], unfollowed := true, recurses := true, apart := false, narrowed := true }
def AiffBuildsUptoSaid : Prop := aiffBuildsUptoRow.holds Tryz.pinned (OpenSpec.upto aiffBuildsSpec)

/-- 'lacquerlaw07.AiffPlain', WHERE WHAT IT READS IS OF BULK AT MOST 1048576: true; the input reads as it did. -/
def aiffPlainUptoRow : OpenClaim := { program := "ytaepgjheknkojaagreat", sum := "5d85572464c95382c327da0aa44d5732cd471cc409e0d75c44ce42956948ddb5", func := "lacquer/lacquerlaw07.AiffPlain", spec := "aiffPlain", inPlace := ["internal/abi.NoEscape", "internal/bytealg.MakeNoZero"], unfollowed := true, recurses := true, apart := false, narrowed := true }
def AiffPlainUptoSaid : Prop := aiffPlainUptoRow.holds Tryz.pinned (OpenSpec.upto aiffPlainSpec)

end Rows
end Go.Proofs.YtaepgjheknkojaaGreat
