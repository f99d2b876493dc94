/-
  NARROWER THAN 'FOR EVERY INPUT', by the rows' own cells (each row's printed sentence says how): SearchSubs: laid · SearchFrames: laid · SearchBuilds: laid · SearchLess: laid.
  DERIVED. THE GIVEN ROWS OF THIS SEAT. 4 by the template 'for every input the law returns true; each argument reads behind the call as it read before'; 0 by the template 'total and deterministic' (their statements: YthgpleelpeacjaaGreatDoorTotals.lean).
  GIVEN WITH THE SEED: the statements are not yours to turn. If you find one false, say at which input.
  Laid BY PROGRAM, IN A SANDBOX (cutbox-rows.mjs): the forced cells as the released guide's own fill.sh prints them over the translation a5cc977002b0946c… (all of the seat's roots in one cut). By AI agents, Wed Nov 11 2026. No macro, syntax, notation, axiom, sorry.
-/
import Derived.Test.YthgpleelpeacjaaGreatDoorChecked
import GoSem.Claim
import GoSem.ClaimJoined
import GoSem.ClaimMapViews
import Derived.JoinedTies
import Derived.KernelRfl
namespace Go.Proofs.YthgpleelpeacjaaGreatDoor
/- THE CELL 'sum', in the pinned program and in every row, IS THE sha256 OF THE DUMP (.gsa) THAT YthgpleelpeacjaaGreatDoorProg.lean LOADS. Nothing in Lean hashes anything: it is a label: what it is worth is what the hold of that sum in a sandbox is worth. -/
noncomputable def Tryz.pinned : Pinned := { name := "ythgpleelpeacjaagreatdoor", sum := "a5cc977002b0946c1fe0be3dee54ab5d9f6cb95bfbf6d24075e24b7c8451fa23", checked := Tryz.checked }
namespace Rows
def none {H : Type} : Left H := { results := [], args := [] }

/- WHAT THE LISTED PACKAGE-LEVEL VARIABLES READ AS WHEN THE CALL BEGINS. Each datum BY PROGRAM (the guide's laid-datum.mjs) off the statement by which the dump's own 'gosem.cut.vars' lays the variable. In a bare row this is a premise. The card (YthgpleelpeacjaaGreatDoorCards.lean) ties it to the program's text. -/
def laid_math_bits_deBruijn32tab {H : Type} : DataW H := .agg [.lit (.int .u8 0), .lit (.int .u8 1), .lit (.int .u8 28), .lit (.int .u8 2), .lit (.int .u8 29), .lit (.int .u8 14), .lit (.int .u8 24), .lit (.int .u8 3), .lit (.int .u8 30), .lit (.int .u8 22), .lit (.int .u8 20), .lit (.int .u8 15), .lit (.int .u8 25), .lit (.int .u8 17), .lit (.int .u8 4), .lit (.int .u8 8), .lit (.int .u8 31), .lit (.int .u8 27), .lit (.int .u8 13), .lit (.int .u8 23), .lit (.int .u8 21), .lit (.int .u8 19), .lit (.int .u8 16), .lit (.int .u8 7), .lit (.int .u8 26), .lit (.int .u8 12), .lit (.int .u8 18), .lit (.int .u8 6), .lit (.int .u8 11), .lit (.int .u8 5), .lit (.int .u8 10), .lit (.int .u8 9)]
def laid_math_bits_deBruijn64tab {H : Type} : DataW H := .agg [.lit (.int .u8 0), .lit (.int .u8 1), .lit (.int .u8 56), .lit (.int .u8 2), .lit (.int .u8 57), .lit (.int .u8 49), .lit (.int .u8 28), .lit (.int .u8 3), .lit (.int .u8 61), .lit (.int .u8 58), .lit (.int .u8 42), .lit (.int .u8 50), .lit (.int .u8 38), .lit (.int .u8 29), .lit (.int .u8 17), .lit (.int .u8 4), .lit (.int .u8 62), .lit (.int .u8 47), .lit (.int .u8 59), .lit (.int .u8 36), .lit (.int .u8 45), .lit (.int .u8 43), .lit (.int .u8 51), .lit (.int .u8 22), .lit (.int .u8 53), .lit (.int .u8 39), .lit (.int .u8 33), .lit (.int .u8 30), .lit (.int .u8 24), .lit (.int .u8 18), .lit (.int .u8 12), .lit (.int .u8 5), .lit (.int .u8 63), .lit (.int .u8 55), .lit (.int .u8 48), .lit (.int .u8 27), .lit (.int .u8 60), .lit (.int .u8 41), .lit (.int .u8 37), .lit (.int .u8 16), .lit (.int .u8 46), .lit (.int .u8 35), .lit (.int .u8 44), .lit (.int .u8 21), .lit (.int .u8 52), .lit (.int .u8 32), .lit (.int .u8 23), .lit (.int .u8 11), .lit (.int .u8 54), .lit (.int .u8 26), .lit (.int .u8 40), .lit (.int .u8 15), .lit (.int .u8 34), .lit (.int .u8 20), .lit (.int .u8 31), .lit (.int .u8 10), .lit (.int .u8 25), .lit (.int .u8 14), .lit (.int .u8 19), .lit (.int .u8 9), .lit (.int .u8 13), .lit (.int .u8 8), .lit (.int .u8 7), .lit (.int .u8 6)]
def laid_lacquer_frame_sizes {H : Type} : DataW H := .agg [.lit (.int .i64 0), .lit (.int .i64 192), .lit (.int .i64 576), .lit (.int .i64 1152), .lit (.int .i64 2304), .lit (.int .i64 4608), .lit (.int .i64 0), .lit (.int .i64 0), .lit (.int .i64 256), .lit (.int .i64 512), .lit (.int .i64 1024), .lit (.int .i64 2048), .lit (.int .i64 4096), .lit (.int .i64 8192), .lit (.int .i64 16384), .lit (.int .i64 32768)]
def laid_lacquer_frame_rates {H : Type} : DataW H := .agg [.lit (.int .i64 0), .lit (.int .i64 88200), .lit (.int .i64 176400), .lit (.int .i64 192000), .lit (.int .i64 8000), .lit (.int .i64 16000), .lit (.int .i64 22050), .lit (.int .i64 24000), .lit (.int .i64 32000), .lit (.int .i64 44100), .lit (.int .i64 48000), .lit (.int .i64 96000), .lit (.int .i64 0), .lit (.int .i64 0), .lit (.int .i64 0), .lit (.int .i64 0)]
def laid_lacquer_frame_widths {H : Type} : DataW H := .agg [.lit (.int .i64 0), .lit (.int .i64 8), .lit (.int .i64 12), .lit (.int .i64 0), .lit (.int .i64 16), .lit (.int .i64 20), .lit (.int .i64 24), .lit (.int .i64 0)]
def laid_lacquer_sums_rules {H : Type} : DataW H := .agg [.agg [.lit (.int .i64 8), .lit (.int .i64 8), .lit (.int .u32 7), .lit (.bool false), .lit (.int .u32 0)], .agg [.lit (.int .i64 16), .lit (.int .i64 16), .lit (.int .u32 32773), .lit (.bool false), .lit (.int .u32 0)], .agg [.lit (.int .i64 32), .lit (.int .i64 32), .lit (.int .u32 79764919), .lit (.bool false), .lit (.int .u32 0)], .agg [.lit (.int .i64 33), .lit (.int .i64 32), .lit (.int .u32 3988292384), .lit (.bool true), .lit (.int .u32 4294967295)]]

/-- 'lacquerlaw12.SearchSubs': WHATEVER THE INPUT: true; the input reads as it did. -/
def searchSubsSpec : ChangeSpec := { name := "searchSubs", fn := fun _ => fun
  | [d1, d2, d3] => { results := [.lit (.bool true)], args := [d1, d2, d3] }
  | _ => none }
def searchSubsRow : OpenClaim := { program := "ythgpleelpeacjaagreatdoor", sum := "a5cc977002b0946c1fe0be3dee54ab5d9f6cb95bfbf6d24075e24b7c8451fa23", func := "lacquer/lacquerlaw12.SearchSubs", spec := "searchSubs", unfollowed := true, recurses := true, named := ["math/bits.deBruijn32tab", "math/bits.deBruijn64tab", "lacquer/frame.sizes", "lacquer/frame.rates", "lacquer/frame.widths"], apart := false, laid := [("math/bits.deBruijn32tab", laid_math_bits_deBruijn32tab), ("math/bits.deBruijn64tab", laid_math_bits_deBruijn64tab), ("lacquer/frame.sizes", laid_lacquer_frame_sizes), ("lacquer/frame.rates", laid_lacquer_frame_rates), ("lacquer/frame.widths", laid_lacquer_frame_widths)] }
def SearchSubsSaid : Prop := searchSubsRow.holds Tryz.pinned (OpenSpec.ofChange searchSubsSpec)

/-- ITS FALSE NEIGHBOUR: 'it returns false'. Refute it at one input. -/
def searchSubsWrong : ChangeSpec := { name := "searchSubs", fn := fun _ => fun
  | [d1, d2, d3] => { results := [.lit (.bool false)], args := [d1, d2, d3] }
  | _ => none }
def SearchSubsWrongFalsely : Prop := searchSubsRow.holds Tryz.pinned (OpenSpec.ofChange searchSubsWrong)

/-- 'lacquerlaw12.SearchFrames': WHATEVER THE INPUT: true; the input reads as it did. -/
def searchFramesSpec : ChangeSpec := { name := "searchFrames", fn := fun _ => fun
  | [d1, d2, d3] => { results := [.lit (.bool true)], args := [d1, d2, d3] }
  | _ => none }
def searchFramesRow : OpenClaim := { program := "ythgpleelpeacjaagreatdoor", sum := "a5cc977002b0946c1fe0be3dee54ab5d9f6cb95bfbf6d24075e24b7c8451fa23", func := "lacquer/lacquerlaw12.SearchFrames", spec := "searchFrames", unfollowed := true, recurses := true, named := ["math/bits.deBruijn32tab", "math/bits.deBruijn64tab", "lacquer/frame.sizes", "lacquer/frame.rates", "lacquer/frame.widths"], apart := false, laid := [("math/bits.deBruijn32tab", laid_math_bits_deBruijn32tab), ("math/bits.deBruijn64tab", laid_math_bits_deBruijn64tab), ("lacquer/frame.sizes", laid_lacquer_frame_sizes), ("lacquer/frame.rates", laid_lacquer_frame_rates), ("lacquer/frame.widths", laid_lacquer_frame_widths)] }
def SearchFramesSaid : Prop := searchFramesRow.holds Tryz.pinned (OpenSpec.ofChange searchFramesSpec)

/-- ITS FALSE NEIGHBOUR: 'it returns false'. Refute it at one input. -/
def searchFramesWrong : ChangeSpec := { name := "searchFrames", fn := fun _ => fun
  | [d1, d2, d3] => { results := [.lit (.bool false)], args := [d1, d2, d3] }
  | _ => none }
def SearchFramesWrongFalsely : Prop := searchFramesRow.holds Tryz.pinned (OpenSpec.ofChange searchFramesWrong)

/-- 'lacquerlaw12.SearchBuilds': WHATEVER THE INPUT: true; the input reads as it did. -/
def searchBuildsSpec : ChangeSpec := { name := "searchBuilds", fn := fun _ => fun
  | [d1, d2, d3] => { results := [.lit (.bool true)], args := [d1, d2, d3] }
  | _ => none }
def searchBuildsRow : OpenClaim := { program := "ythgpleelpeacjaagreatdoor", sum := "a5cc977002b0946c1fe0be3dee54ab5d9f6cb95bfbf6d24075e24b7c8451fa23", func := "lacquer/lacquerlaw12.SearchBuilds", spec := "searchBuilds", unfollowed := true, recurses := true, named := ["math/bits.deBruijn32tab", "math/bits.deBruijn64tab", "lacquer/frame.sizes", "lacquer/frame.rates", "lacquer/frame.widths", "lacquer/sums.rules"], apart := false, laid := [("lacquer/sums.rules", laid_lacquer_sums_rules), ("math/bits.deBruijn32tab", laid_math_bits_deBruijn32tab), ("math/bits.deBruijn64tab", laid_math_bits_deBruijn64tab), ("lacquer/frame.sizes", laid_lacquer_frame_sizes), ("lacquer/frame.rates", laid_lacquer_frame_rates), ("lacquer/frame.widths", laid_lacquer_frame_widths)] }
def SearchBuildsSaid : Prop := searchBuildsRow.holds Tryz.pinned (OpenSpec.ofChange searchBuildsSpec)

/-- ITS FALSE NEIGHBOUR: 'it returns false'. Refute it at one input. -/
def searchBuildsWrong : ChangeSpec := { name := "searchBuilds", fn := fun _ => fun
  | [d1, d2, d3] => { results := [.lit (.bool false)], args := [d1, d2, d3] }
  | _ => none }
def SearchBuildsWrongFalsely : Prop := searchBuildsRow.holds Tryz.pinned (OpenSpec.ofChange searchBuildsWrong)

/-- 'lacquerlaw12.SearchLess': WHATEVER THE INPUT: true; the input reads as it did. -/
def searchLessSpec : ChangeSpec := { name := "searchLess", fn := fun _ => fun
  | [d1, d2] => { results := [.lit (.bool true)], args := [d1, d2] }
  | _ => none }
def searchLessRow : OpenClaim := { program := "ythgpleelpeacjaagreatdoor", sum := "a5cc977002b0946c1fe0be3dee54ab5d9f6cb95bfbf6d24075e24b7c8451fa23", func := "lacquer/lacquerlaw12.SearchLess", spec := "searchLess", unfollowed := true, recurses := true, named := ["math/bits.deBruijn32tab", "math/bits.deBruijn64tab", "lacquer/frame.sizes", "lacquer/frame.rates", "lacquer/frame.widths"], apart := false, laid := [("math/bits.deBruijn32tab", laid_math_bits_deBruijn32tab), ("math/bits.deBruijn64tab", laid_math_bits_deBruijn64tab), ("lacquer/frame.sizes", laid_lacquer_frame_sizes), ("lacquer/frame.rates", laid_lacquer_frame_rates), ("lacquer/frame.widths", laid_lacquer_frame_widths)] }
def SearchLessSaid : Prop := searchLessRow.holds Tryz.pinned (OpenSpec.ofChange searchLessSpec)

/-- ITS FALSE NEIGHBOUR: 'it returns false'. Refute it at one input. -/
def searchLessWrong : ChangeSpec := { name := "searchLess", fn := fun _ => fun
  | [d1, d2] => { results := [.lit (.bool false)], args := [d1, d2] }
  | _ => none }
def SearchLessWrongFalsely : Prop := searchLessRow.holds Tryz.pinned (OpenSpec.ofChange searchLessWrong)

/- THE SECOND FORM. 'bulk': how many values and letters a reading holds, each counted each time it is reached (what is shared counts as often as it is met; a slice's spare places count too). A statement '..UptoSaid' is the law's where the arguments, and the package variables that the reading takes, are together of bulk at most 1048576: NARROWER than '..Said'. Prove '..Said' where nothing that the law and all that it calls make is longer than what came in: it says more and counts as full. Else prove '..UptoSaid'. A law counts once. -/
mutual
def uptoBulk {H : Type} : DataW H → Nat
  | .lit (.string bytes) => bytes.length + 1
  | .lit _ => 1
  | .nil => 1
  | .ptr d => uptoBulk d + 1
  | .slice elems spare => uptoBulkAll elems + uptoBulkAll spare + 1
  | .agg parts => uptoBulkAll parts + 1
  | .iface _ d => uptoBulk d + 1
  | .map entries => uptoBulkEntries entries + 1
  | .held _ => 1
def uptoBulkAll {H : Type} : List (DataW H) → Nat
  | [] => 0
  | d :: r => uptoBulk d + uptoBulkAll r
def uptoBulkEntries {H : Type} : List (Lit × DataW H) → Nat
  | [] => 0
  | x :: r => uptoBulkEntry x + uptoBulkEntries r
def uptoBulkEntry {H : Type} : Lit × DataW H → Nat
  | (.string bytes, d) => bytes.length + uptoBulk d + 1
  | (_, d) => uptoBulk d + 1
 end
def uptoSmall : (H : Type) → List (DataW H) → Bool := fun _ ds => decide (uptoBulkAll ds ≤ 1048576)
def OpenSpec.upto (s : _root_.Go.ChangeSpec) : _root_.Go.OpenSpec := { _root_.Go.OpenSpec.ofChange s with cond := some uptoSmall }

/-- 'lacquerlaw12.SearchSubs', WHERE WHAT IT READS IS OF BULK AT MOST 1048576: true; the input reads as it did. -/
def searchSubsUptoRow : OpenClaim := { program := "ythgpleelpeacjaagreatdoor", sum := "a5cc977002b0946c1fe0be3dee54ab5d9f6cb95bfbf6d24075e24b7c8451fa23", func := "lacquer/lacquerlaw12.SearchSubs", spec := "searchSubs", unfollowed := true, recurses := true, named := ["math/bits.deBruijn32tab", "math/bits.deBruijn64tab", "lacquer/frame.sizes", "lacquer/frame.rates", "lacquer/frame.widths"], apart := false, laid := [("math/bits.deBruijn32tab", laid_math_bits_deBruijn32tab), ("math/bits.deBruijn64tab", laid_math_bits_deBruijn64tab), ("lacquer/frame.sizes", laid_lacquer_frame_sizes), ("lacquer/frame.rates", laid_lacquer_frame_rates), ("lacquer/frame.widths", laid_lacquer_frame_widths)], narrowed := true }
def SearchSubsUptoSaid : Prop := searchSubsUptoRow.holds Tryz.pinned (OpenSpec.upto searchSubsSpec)

/-- 'lacquerlaw12.SearchFrames', WHERE WHAT IT READS IS OF BULK AT MOST 1048576: true; the input reads as it did. -/
def searchFramesUptoRow : OpenClaim := { program := "ythgpleelpeacjaagreatdoor", sum := "a5cc977002b0946c1fe0be3dee54ab5d9f6cb95bfbf6d24075e24b7c8451fa23", func := "lacquer/lacquerlaw12.SearchFrames", spec := "searchFrames", unfollowed := true, recurses := true, named := ["math/bits.deBruijn32tab", "math/bits.deBruijn64tab", "lacquer/frame.sizes", "lacquer/frame.rates", "lacquer/frame.widths"], apart := false, laid := [("math/bits.deBruijn32tab", laid_math_bits_deBruijn32tab), ("math/bits.deBruijn64tab", laid_math_bits_deBruijn64tab), ("lacquer/frame.sizes", laid_lacquer_frame_sizes), ("lacquer/frame.rates", laid_lacquer_frame_rates), ("lacquer/frame.widths", laid_lacquer_frame_widths)], narrowed := true }
def SearchFramesUptoSaid : Prop := searchFramesUptoRow.holds Tryz.pinned (OpenSpec.upto searchFramesSpec)

/-- 'lacquerlaw12.SearchBuilds', WHERE WHAT IT READS IS OF BULK AT MOST 1048576: true; the input reads as it did. -/
def searchBuildsUptoRow : OpenClaim := { program := "ythgpleelpeacjaagreatdoor", sum := "a5cc977002b0946c1fe0be3dee54ab5d9f6cb95bfbf6d24075e24b7c8451fa23", func := "lacquer/lacquerlaw12.SearchBuilds", spec := "searchBuilds", unfollowed := true, recurses := true, named := ["math/bits.deBruijn32tab", "math/bits.deBruijn64tab", "lacquer/frame.sizes", "lacquer/frame.rates", "lacquer/frame.widths", "lacquer/sums.rules"], apart := false, laid := [("lacquer/sums.rules", laid_lacquer_sums_rules), ("math/bits.deBruijn32tab", laid_math_bits_deBruijn32tab), ("math/bits.deBruijn64tab", laid_math_bits_deBruijn64tab), ("lacquer/frame.sizes", laid_lacquer_frame_sizes), ("lacquer/frame.rates", laid_lacquer_frame_rates), ("lacquer/frame.widths", laid_lacquer_frame_widths)], narrowed := true }
def SearchBuildsUptoSaid : Prop := searchBuildsUptoRow.holds Tryz.pinned (OpenSpec.upto searchBuildsSpec)

/-- 'lacquerlaw12.SearchLess', WHERE WHAT IT READS IS OF BULK AT MOST 1048576: true; the input reads as it did. -/
def searchLessUptoRow : OpenClaim := { program := "ythgpleelpeacjaagreatdoor", sum := "a5cc977002b0946c1fe0be3dee54ab5d9f6cb95bfbf6d24075e24b7c8451fa23", func := "lacquer/lacquerlaw12.SearchLess", spec := "searchLess", unfollowed := true, recurses := true, named := ["math/bits.deBruijn32tab", "math/bits.deBruijn64tab", "lacquer/frame.sizes", "lacquer/frame.rates", "lacquer/frame.widths"], apart := false, laid := [("math/bits.deBruijn32tab", laid_math_bits_deBruijn32tab), ("math/bits.deBruijn64tab", laid_math_bits_deBruijn64tab), ("lacquer/frame.sizes", laid_lacquer_frame_sizes), ("lacquer/frame.rates", laid_lacquer_frame_rates), ("lacquer/frame.widths", laid_lacquer_frame_widths)], narrowed := true }
def SearchLessUptoSaid : Prop := searchLessUptoRow.holds Tryz.pinned (OpenSpec.upto searchLessSpec)

end Rows
end Go.Proofs.YthgpleelpeacjaaGreatDoor
