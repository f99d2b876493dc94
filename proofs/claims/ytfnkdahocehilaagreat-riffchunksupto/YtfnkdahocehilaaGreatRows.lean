/-
  No cell of these rows narrows 'for every input' (looked for: loops, veiled, ifaces, maps, wideKeys, modest, calm, conditions, laid).
  DERIVED. THE GIVEN ROWS OF THIS SEAT. 3 by the template 'for every input the law returns true; each argument reads behind the call as it read before'; 0 by the template 'total and deterministic' (their statements: YtfnkdahocehilaaGreatTotals.lean).
  GIVEN WITH THE SEED: the statements are not yours to turn. If you find one false, say at which input.
  Laid BY PROGRAM, IN A SANDBOX (cutbox-rows.mjs): the forced cells as the released guide's own fill.sh prints them over the translation 4294cd0bad81431c… (all of the seat's roots in one cut). By AI agents, Wed Nov 11 2026. No macro, syntax, notation, axiom, sorry.
-/
import Derived.Test.YtfnkdahocehilaaGreatChecked
import GoSem.Claim
import GoSem.ClaimJoined
import GoSem.ClaimMapViews
import Derived.JoinedTies
import Derived.KernelRfl
namespace Go.Proofs.YtfnkdahocehilaaGreat
/- THE CELL 'sum', in the pinned program and in every row, IS THE sha256 OF THE DUMP (.gsa) THAT YtfnkdahocehilaaGreatProg.lean LOADS. Nothing in Lean hashes anything: it is a label: what it is worth is what the hold of that sum in a sandbox is worth. -/
noncomputable def Tryz.pinned : Pinned := { name := "ytfnkdahocehilaagreat", sum := "4294cd0bad81431c2edcf482006706bba2b5105e4f09e56241c5628d38351d27", checked := Tryz.checked }
namespace Rows
def none {H : Type} : Left H := { results := [], args := [] }

/-- 'lacquerlaw06.RiffChunks': WHATEVER THE INPUT: true; the input reads as it did. -/
def riffChunksSpec : ChangeSpec := { name := "riffChunks", fn := fun _ => fun
  | [d1, d2, d3] => { results := [.lit (.bool true)], args := [d1, d2, d3] }
  | _ => none }
def riffChunksRow : OpenClaim := { program := "ytfnkdahocehilaagreat", sum := "4294cd0bad81431c2edcf482006706bba2b5105e4f09e56241c5628d38351d27", func := "lacquer/lacquerlaw06.RiffChunks", spec := "riffChunks", inPlace := ["internal/abi.NoEscape", "internal/bytealg.MakeNoZero"], unfollowed := true, recurses := true, apart := false }
def RiffChunksSaid : Prop := riffChunksRow.holds Tryz.pinned (OpenSpec.ofChange riffChunksSpec)

/-- ITS FALSE NEIGHBOUR: 'it returns false'. Refute it at one input. -/
def riffChunksWrong : ChangeSpec := { name := "riffChunks", fn := fun _ => fun
  | [d1, d2, d3] => { results := [.lit (.bool false)], args := [d1, d2, d3] }
  | _ => none }
def RiffChunksWrongFalsely : Prop := riffChunksRow.holds Tryz.pinned (OpenSpec.ofChange riffChunksWrong)

/-- 'lacquerlaw06.RiffParses': WHATEVER THE INPUT: true; the input reads as it did. -/
def riffParsesSpec : ChangeSpec := { name := "riffParses", fn := fun _ => fun
  | [d] => { results := [.lit (.bool true)], args := [d] }
  | _ => none }
def riffParsesRow : OpenClaim := { program := "ytfnkdahocehilaagreat", sum := "4294cd0bad81431c2edcf482006706bba2b5105e4f09e56241c5628d38351d27", func := "lacquer/lacquerlaw06.RiffParses", spec := "riffParses", inPlace := ["internal/abi.NoEscape", "internal/bytealg.MakeNoZero"], unfollowed := true, recurses := true, apart := false }
def RiffParsesSaid : Prop := riffParsesRow.holds Tryz.pinned (OpenSpec.ofChange riffParsesSpec)

/-- ITS FALSE NEIGHBOUR: 'it returns false'. Refute it at one input. -/
def riffParsesWrong : ChangeSpec := { name := "riffParses", fn := fun _ => fun
  | [d] => { results := [.lit (.bool false)], args := [d] }
  | _ => none }
def RiffParsesWrongFalsely : Prop := riffParsesRow.holds Tryz.pinned (OpenSpec.ofChange riffParsesWrong)

/-- 'lacquerlaw06.RiffBuilds': WHATEVER THE INPUT: true; the input reads as it did. -/
def riffBuildsSpec : ChangeSpec := { name := "riffBuilds", fn := fun _ => fun
  | [d1, d2] => { results := [.lit (.bool true)], args := [d1, d2] }
  | _ => none }
def riffBuildsRow : OpenClaim := { program := "ytfnkdahocehilaagreat", sum := "4294cd0bad81431c2edcf482006706bba2b5105e4f09e56241c5628d38351d27", func := "lacquer/lacquerlaw06.RiffBuilds", spec := "riffBuilds", inPlace := ["internal/abi.NoEscape", "internal/bytealg.MakeNoZero"], unfollowed := true, recurses := true, apart := false }
def RiffBuildsSaid : Prop := riffBuildsRow.holds Tryz.pinned (OpenSpec.ofChange riffBuildsSpec)

/-- ITS FALSE NEIGHBOUR: 'it returns false'. Refute it at one input. -/
def riffBuildsWrong : ChangeSpec := { name := "riffBuilds", fn := fun _ => fun
  | [d1, d2] => { results := [.lit (.bool false)], args := [d1, d2] }
  | _ => none }
def RiffBuildsWrongFalsely : Prop := riffBuildsRow.holds Tryz.pinned (OpenSpec.ofChange riffBuildsWrong)

/- THE SECOND FORM. 'bulk': how many values and letters a reading holds, each counted each time it is reached (what is shared counts as often as it is met; a slice's spare places count too). A statement '..UptoSaid' is the law's where the arguments, and the package variables that the reading takes, are together of bulk at most 1048576: NARROWER than '..Said'. Prove '..Said' where nothing that the law and all that it calls make is longer than what came in: it says more and counts as full. Else prove '..UptoSaid'. A law counts once. -/
mutual
def uptoBulk {H : Type} : DataW H → Nat
  | .lit (.string bytes) => bytes.length + 1
  | .lit _ => 1
  | .nil => 1
  | .ptr d => uptoBulk d + 1
  | .slice elems spare => uptoBulkAll elems + uptoBulkAll spare + 1
  | .agg parts => uptoBulkAll parts + 1
  | .iface _ d => uptoBulk d + 1
  | .map entries => uptoBulkEntries entries + 1
  | .held _ => 1
def uptoBulkAll {H : Type} : List (DataW H) → Nat
  | [] => 0
  | d :: r => uptoBulk d + uptoBulkAll r
def uptoBulkEntries {H : Type} : List (Lit × DataW H) → Nat
  | [] => 0
  | x :: r => uptoBulkEntry x + uptoBulkEntries r
def uptoBulkEntry {H : Type} : Lit × DataW H → Nat
  | (.string bytes, d) => bytes.length + uptoBulk d + 1
  | (_, d) => uptoBulk d + 1
 end
def uptoSmall : (H : Type) → List (DataW H) → Bool := fun _ ds => decide (uptoBulkAll ds ≤ 1048576)
def OpenSpec.upto (s : _root_.Go.ChangeSpec) : _root_.Go.OpenSpec := { _root_.Go.OpenSpec.ofChange s with cond := some uptoSmall }

/-- 'lacquerlaw06.RiffChunks', WHERE WHAT IT READS IS OF BULK AT MOST 1048576: true; the input reads as it did. -/
def riffChunksUptoRow : OpenClaim := { program := "ytfnkdahocehilaagreat", sum := "4294cd0bad81431c2edcf482006706bba2b5105e4f09e56241c5628d38351d27", func := "lacquer/lacquerlaw06.RiffChunks", spec := "riffChunks", inPlace := ["internal/abi.NoEscape", "internal/bytealg.MakeNoZero"], unfollowed := true, recurses := true, apart := false, narrowed := true }
def RiffChunksUptoSaid : Prop := riffChunksUptoRow.holds Tryz.pinned (OpenSpec.upto riffChunksSpec)

/-- 'lacquerlaw06.RiffParses', WHERE WHAT IT READS IS OF BULK AT MOST 1048576: true; the input reads as it did. -/
def riffParsesUptoRow : OpenClaim := { program := "ytfnkdahocehilaagreat", sum := "4294cd0bad81431c2edcf482006706bba2b5105e4f09e56241c5628d38351d27", func := "lacquer/lacquerlaw06.RiffParses", spec := "riffParses", inPlace := ["internal/abi.NoEscape", "internal/bytealg.MakeNoZero"], unfollowed := true, recurses := true, apart := false, narrowed := true }
def RiffParsesUptoSaid : Prop := riffParsesUptoRow.holds Tryz.pinned (OpenSpec.upto riffParsesSpec)

/-- 'lacquerlaw06.RiffBuilds', WHERE WHAT IT READS IS OF BULK AT MOST 1048576: true; the input reads as it did. -/
def riffBuildsUptoRow : OpenClaim := { program := "ytfnkdahocehilaagreat", sum := "4294cd0bad81431c2edcf482006706bba2b5105e4f09e56241c5628d38351d27", func := "lacquer/lacquerlaw06.RiffBuilds", spec := "riffBuilds", inPlace := ["internal/abi.NoEscape", "internal/bytealg.MakeNoZero"], unfollowed := true, recurses := true, apart := false, narrowed := true }
def RiffBuildsUptoSaid : Prop := riffBuildsUptoRow.holds Tryz.pinned (OpenSpec.upto riffBuildsSpec)

end Rows
end Go.Proofs.YtfnkdahocehilaaGreat
