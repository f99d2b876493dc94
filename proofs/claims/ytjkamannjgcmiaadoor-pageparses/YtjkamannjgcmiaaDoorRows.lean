/-
  NARROWER THAN 'FOR EVERY INPUT', by the rows' own cells (each row's printed sentence says how): PageParses: laid · PageBuilds: laid · PageBack: laid · PageLaces: laid · PageSpoilt: laid.
  DERIVED. THE GIVEN ROWS OF THIS SEAT. 5 by the template 'for every input the law returns true; each argument reads behind the call as it read before'; 0 by the template 'total and deterministic' (their statements: YtjkamannjgcmiaaDoorTotals.lean).
  GIVEN WITH THE SEED: the statements are not yours to turn. If you find one false, say at which input.
  Laid BY PROGRAM, IN A SANDBOX (cutbox-rows.mjs): the forced cells as the released guide's own fill.sh prints them over the translation d1849e2b86e770af… (all of the seat's roots in one cut). By AI agents, Wed Nov 11 2026. No macro, syntax, notation, axiom, sorry.
-/
import Derived.Test.YtjkamannjgcmiaaDoorChecked
import GoSem.Claim
import GoSem.ClaimJoined
import GoSem.ClaimMapViews
import Derived.JoinedTies
import Derived.KernelRfl
namespace Go.Proofs.YtjkamannjgcmiaaDoor
/- THE CELL 'sum', in the pinned program and in every row, IS THE sha256 OF THE DUMP (.gsa) THAT YtjkamannjgcmiaaDoorProg.lean LOADS. Nothing in Lean hashes anything: it is a label: what it is worth is what the hold of that sum in a sandbox is worth. -/
noncomputable def Tryd.pinned : Pinned := { name := "ytjkamannjgcmiaadoor", sum := "d1849e2b86e770af03e0aeafb4152e96e04b1129479acafa82edda45bb2dbd20", checked := Tryd.checked }
namespace Rows
def none {H : Type} : Left H := { results := [], args := [] }

/- WHAT THE LISTED PACKAGE-LEVEL VARIABLES READ AS WHEN THE CALL BEGINS. Each datum BY PROGRAM (the guide's laid-datum.mjs) off the statement by which the dump's own 'gosem.cut.vars' lays the variable. In a bare row this is a premise. The card (YtjkamannjgcmiaaDoorCards.lean) ties it to the program's text. -/
def laid_lacquer_sums_rules {H : Type} : DataW H := .agg [.agg [.lit (.int .i64 8), .lit (.int .i64 8), .lit (.int .u32 7), .lit (.bool false), .lit (.int .u32 0)], .agg [.lit (.int .i64 16), .lit (.int .i64 16), .lit (.int .u32 32773), .lit (.bool false), .lit (.int .u32 0)], .agg [.lit (.int .i64 32), .lit (.int .i64 32), .lit (.int .u32 79764919), .lit (.bool false), .lit (.int .u32 0)], .agg [.lit (.int .i64 33), .lit (.int .i64 32), .lit (.int .u32 3988292384), .lit (.bool true), .lit (.int .u32 4294967295)]]

/-- 'lacquerlaw15.PageParses': WHATEVER THE INPUT: true; the input reads as it did. -/
def pageParsesSpec : ChangeSpec := { name := "pageParses", fn := fun _ => fun
  | [d] => { results := [.lit (.bool true)], args := [d] }
  | _ => none }
def pageParsesRow : OpenClaim := { program := "ytjkamannjgcmiaadoor", sum := "d1849e2b86e770af03e0aeafb4152e96e04b1129479acafa82edda45bb2dbd20", func := "lacquer/lacquerlaw15.PageParses", spec := "pageParses", inPlace := ["internal/abi.NoEscape", "internal/bytealg.MakeNoZero"], unfollowed := true, recurses := true, named := ["lacquer/sums.rules"], apart := false, laid := [("lacquer/sums.rules", laid_lacquer_sums_rules)] }
def PageParsesSaid : Prop := pageParsesRow.holds Tryd.pinned (OpenSpec.ofChange pageParsesSpec)

/-- ITS FALSE NEIGHBOUR: 'it returns false'. Refute it at one input. -/
def pageParsesWrong : ChangeSpec := { name := "pageParses", fn := fun _ => fun
  | [d] => { results := [.lit (.bool false)], args := [d] }
  | _ => none }
def PageParsesWrongFalsely : Prop := pageParsesRow.holds Tryd.pinned (OpenSpec.ofChange pageParsesWrong)

/-- 'lacquerlaw15.PageBuilds': WHATEVER THE INPUT: true; the input reads as it did. -/
def pageBuildsSpec : ChangeSpec := { name := "pageBuilds", fn := fun _ => fun
  | [d1, d2] => { results := [.lit (.bool true)], args := [d1, d2] }
  | _ => none }
def pageBuildsRow : OpenClaim := { program := "ytjkamannjgcmiaadoor", sum := "d1849e2b86e770af03e0aeafb4152e96e04b1129479acafa82edda45bb2dbd20", func := "lacquer/lacquerlaw15.PageBuilds", spec := "pageBuilds", inPlace := ["internal/abi.NoEscape", "internal/bytealg.MakeNoZero"], unfollowed := true, recurses := true, named := ["lacquer/sums.rules"], apart := false, laid := [("lacquer/sums.rules", laid_lacquer_sums_rules)] }
def PageBuildsSaid : Prop := pageBuildsRow.holds Tryd.pinned (OpenSpec.ofChange pageBuildsSpec)

/-- ITS FALSE NEIGHBOUR: 'it returns false'. Refute it at one input. -/
def pageBuildsWrong : ChangeSpec := { name := "pageBuilds", fn := fun _ => fun
  | [d1, d2] => { results := [.lit (.bool false)], args := [d1, d2] }
  | _ => none }
def PageBuildsWrongFalsely : Prop := pageBuildsRow.holds Tryd.pinned (OpenSpec.ofChange pageBuildsWrong)

/-- 'lacquerlaw15.PageBack': WHATEVER THE INPUT: true; the input reads as it did. -/
def pageBackSpec : ChangeSpec := { name := "pageBack", fn := fun _ => fun
  | [d1, d2, d3] => { results := [.lit (.bool true)], args := [d1, d2, d3] }
  | _ => none }
def pageBackRow : OpenClaim := { program := "ytjkamannjgcmiaadoor", sum := "d1849e2b86e770af03e0aeafb4152e96e04b1129479acafa82edda45bb2dbd20", func := "lacquer/lacquerlaw15.PageBack", spec := "pageBack", inPlace := ["internal/abi.NoEscape", "internal/bytealg.MakeNoZero"], unfollowed := true, recurses := true, named := ["lacquer/sums.rules"], apart := false, laid := [("lacquer/sums.rules", laid_lacquer_sums_rules)] }
def PageBackSaid : Prop := pageBackRow.holds Tryd.pinned (OpenSpec.ofChange pageBackSpec)

/-- ITS FALSE NEIGHBOUR: 'it returns false'. Refute it at one input. -/
def pageBackWrong : ChangeSpec := { name := "pageBack", fn := fun _ => fun
  | [d1, d2, d3] => { results := [.lit (.bool false)], args := [d1, d2, d3] }
  | _ => none }
def PageBackWrongFalsely : Prop := pageBackRow.holds Tryd.pinned (OpenSpec.ofChange pageBackWrong)

/-- 'lacquerlaw15.PageLaces': WHATEVER THE INPUT: true; the input reads as it did. -/
def pageLacesSpec : ChangeSpec := { name := "pageLaces", fn := fun _ => fun
  | [d1, d2] => { results := [.lit (.bool true)], args := [d1, d2] }
  | _ => none }
def pageLacesRow : OpenClaim := { program := "ytjkamannjgcmiaadoor", sum := "d1849e2b86e770af03e0aeafb4152e96e04b1129479acafa82edda45bb2dbd20", func := "lacquer/lacquerlaw15.PageLaces", spec := "pageLaces", inPlace := ["internal/abi.NoEscape", "internal/bytealg.MakeNoZero"], unfollowed := true, recurses := true, named := ["lacquer/sums.rules"], apart := false, laid := [("lacquer/sums.rules", laid_lacquer_sums_rules)] }
def PageLacesSaid : Prop := pageLacesRow.holds Tryd.pinned (OpenSpec.ofChange pageLacesSpec)

/-- ITS FALSE NEIGHBOUR: 'it returns false'. Refute it at one input. -/
def pageLacesWrong : ChangeSpec := { name := "pageLaces", fn := fun _ => fun
  | [d1, d2] => { results := [.lit (.bool false)], args := [d1, d2] }
  | _ => none }
def PageLacesWrongFalsely : Prop := pageLacesRow.holds Tryd.pinned (OpenSpec.ofChange pageLacesWrong)

/-- 'lacquerlaw15.PageSpoilt': WHATEVER THE INPUT: true; the input reads as it did. -/
def pageSpoiltSpec : ChangeSpec := { name := "pageSpoilt", fn := fun _ => fun
  | [d1, d2, d3] => { results := [.lit (.bool true)], args := [d1, d2, d3] }
  | _ => none }
def pageSpoiltRow : OpenClaim := { program := "ytjkamannjgcmiaadoor", sum := "d1849e2b86e770af03e0aeafb4152e96e04b1129479acafa82edda45bb2dbd20", func := "lacquer/lacquerlaw15.PageSpoilt", spec := "pageSpoilt", inPlace := ["internal/abi.NoEscape", "internal/bytealg.MakeNoZero"], unfollowed := true, recurses := true, named := ["lacquer/sums.rules"], apart := false, laid := [("lacquer/sums.rules", laid_lacquer_sums_rules)] }
def PageSpoiltSaid : Prop := pageSpoiltRow.holds Tryd.pinned (OpenSpec.ofChange pageSpoiltSpec)

/-- ITS FALSE NEIGHBOUR: 'it returns false'. Refute it at one input. -/
def pageSpoiltWrong : ChangeSpec := { name := "pageSpoilt", fn := fun _ => fun
  | [d1, d2, d3] => { results := [.lit (.bool false)], args := [d1, d2, d3] }
  | _ => none }
def PageSpoiltWrongFalsely : Prop := pageSpoiltRow.holds Tryd.pinned (OpenSpec.ofChange pageSpoiltWrong)

/- THE SECOND FORM. 'bulk': how many values and letters a reading holds, each counted each time it is reached (what is shared counts as often as it is met; a slice's spare places count too). A statement '..UptoSaid' is the law's where the arguments, and the package variables that the reading takes, are together of bulk at most 1048576: NARROWER than '..Said'. Prove '..Said' where nothing that the law and all that it calls make is longer than what came in: it says more and counts as full. Else prove '..UptoSaid'. A law counts once. -/
mutual
def uptoBulk {H : Type} : DataW H → Nat
  | .lit (.string bytes) => bytes.length + 1
  | .lit _ => 1
  | .nil => 1
  | .ptr d => uptoBulk d + 1
  | .slice elems spare => uptoBulkAll elems + uptoBulkAll spare + 1
  | .agg parts => uptoBulkAll parts + 1
  | .iface _ d => uptoBulk d + 1
  | .map entries => uptoBulkEntries entries + 1
  | .held _ => 1
def uptoBulkAll {H : Type} : List (DataW H) → Nat
  | [] => 0
  | d :: r => uptoBulk d + uptoBulkAll r
def uptoBulkEntries {H : Type} : List (Lit × DataW H) → Nat
  | [] => 0
  | x :: r => uptoBulkEntry x + uptoBulkEntries r
def uptoBulkEntry {H : Type} : Lit × DataW H → Nat
  | (.string bytes, d) => bytes.length + uptoBulk d + 1
  | (_, d) => uptoBulk d + 1
 end
def uptoSmall : (H : Type) → List (DataW H) → Bool := fun _ ds => decide (uptoBulkAll ds ≤ 1048576)
def OpenSpec.upto (s : _root_.Go.ChangeSpec) : _root_.Go.OpenSpec := { _root_.Go.OpenSpec.ofChange s with cond := some uptoSmall }

/-- 'lacquerlaw15.PageParses', WHERE WHAT IT READS IS OF BULK AT MOST 1048576: true; the input reads as it did. -/
def pageParsesUptoRow : OpenClaim := { program := "ytjkamannjgcmiaadoor", sum := "d1849e2b86e770af03e0aeafb4152e96e04b1129479acafa82edda45bb2dbd20", func := "lacquer/lacquerlaw15.PageParses", spec := "pageParses", inPlace := ["internal/abi.NoEscape", "internal/bytealg.MakeNoZero"], unfollowed := true, recurses := true, named := ["lacquer/sums.rules"], apart := false, laid := [("lacquer/sums.rules", laid_lacquer_sums_rules)], narrowed := true }
def PageParsesUptoSaid : Prop := pageParsesUptoRow.holds Tryd.pinned (OpenSpec.upto pageParsesSpec)

/-- 'lacquerlaw15.PageBuilds', WHERE WHAT IT READS IS OF BULK AT MOST 1048576: true; the input reads as it did. -/
def pageBuildsUptoRow : OpenClaim := { program := "ytjkamannjgcmiaadoor", sum := "d1849e2b86e770af03e0aeafb4152e96e04b1129479acafa82edda45bb2dbd20", func := "lacquer/lacquerlaw15.PageBuilds", spec := "pageBuilds", inPlace := ["internal/abi.NoEscape", "internal/bytealg.MakeNoZero"], unfollowed := true, recurses := true, named := ["lacquer/sums.rules"], apart := false, laid := [("lacquer/sums.rules", laid_lacquer_sums_rules)], narrowed := true }
def PageBuildsUptoSaid : Prop := pageBuildsUptoRow.holds Tryd.pinned (OpenSpec.upto pageBuildsSpec)

/-- 'lacquerlaw15.PageBack', WHERE WHAT IT READS IS OF BULK AT MOST 1048576: true; the input reads as it did. -/
def pageBackUptoRow : OpenClaim := { program := "ytjkamannjgcmiaadoor", sum := "d1849e2b86e770af03e0aeafb4152e96e04b1129479acafa82edda45bb2dbd20", func := "lacquer/lacquerlaw15.PageBack", spec := "pageBack", inPlace := ["internal/abi.NoEscape", "internal/bytealg.MakeNoZero"], unfollowed := true, recurses := true, named := ["lacquer/sums.rules"], apart := false, laid := [("lacquer/sums.rules", laid_lacquer_sums_rules)], narrowed := true }
def PageBackUptoSaid : Prop := pageBackUptoRow.holds Tryd.pinned (OpenSpec.upto pageBackSpec)

/-- 'lacquerlaw15.PageLaces', WHERE WHAT IT READS IS OF BULK AT MOST 1048576: true; the input reads as it did. -/
def pageLacesUptoRow : OpenClaim := { program := "ytjkamannjgcmiaadoor", sum := "d1849e2b86e770af03e0aeafb4152e96e04b1129479acafa82edda45bb2dbd20", func := "lacquer/lacquerlaw15.PageLaces", spec := "pageLaces", inPlace := ["internal/abi.NoEscape", "internal/bytealg.MakeNoZero"], unfollowed := true, recurses := true, named := ["lacquer/sums.rules"], apart := false, laid := [("lacquer/sums.rules", laid_lacquer_sums_rules)], narrowed := true }
def PageLacesUptoSaid : Prop := pageLacesUptoRow.holds Tryd.pinned (OpenSpec.upto pageLacesSpec)

/-- 'lacquerlaw15.PageSpoilt', WHERE WHAT IT READS IS OF BULK AT MOST 1048576: true; the input reads as it did. -/
def pageSpoiltUptoRow : OpenClaim := { program := "ytjkamannjgcmiaadoor", sum := "d1849e2b86e770af03e0aeafb4152e96e04b1129479acafa82edda45bb2dbd20", func := "lacquer/lacquerlaw15.PageSpoilt", spec := "pageSpoilt", inPlace := ["internal/abi.NoEscape", "internal/bytealg.MakeNoZero"], unfollowed := true, recurses := true, named := ["lacquer/sums.rules"], apart := false, laid := [("lacquer/sums.rules", laid_lacquer_sums_rules)], narrowed := true }
def PageSpoiltUptoSaid : Prop := pageSpoiltUptoRow.holds Tryd.pinned (OpenSpec.upto pageSpoiltSpec)

end Rows
end Go.Proofs.YtjkamannjgcmiaaDoor
