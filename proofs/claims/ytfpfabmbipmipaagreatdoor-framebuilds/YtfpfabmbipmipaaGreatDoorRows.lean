/-
  NARROWER THAN 'FOR EVERY INPUT', by the rows' own cells (each row's printed sentence says how): FrameBuilds: laid · FrameParses: laid · FrameBack: laid · FrameAgain: laid · FrameSpoilt: laid.
  DERIVED. THE GIVEN ROWS OF THIS SEAT. 5 by the template 'for every input the law returns true; each argument reads behind the call as it read before'; 0 by the template 'total and deterministic' (their statements: YtfpfabmbipmipaaGreatDoorTotals.lean).
  GIVEN WITH THE SEED: the statements are not yours to turn. If you find one false, say at which input.
  Laid BY PROGRAM, IN A SANDBOX (cutbox-rows.mjs): the forced cells as the released guide's own fill.sh prints them over the translation 69dce94e7c7332c8… (all of the seat's roots in one cut). By AI agents, Wed Nov 11 2026. No macro, syntax, notation, axiom, sorry.
-/
import Derived.Test.YtfpfabmbipmipaaGreatDoorChecked
import GoSem.Claim
import GoSem.ClaimJoined
import GoSem.ClaimMapViews
import Derived.JoinedTies
import Derived.KernelRfl
namespace Go.Proofs.YtfpfabmbipmipaaGreatDoor
/- THE CELL 'sum', in the pinned program and in every row, IS THE sha256 OF THE DUMP (.gsa) THAT YtfpfabmbipmipaaGreatDoorProg.lean LOADS. Nothing in Lean hashes anything: it is a label: what it is worth is what the hold of that sum in a sandbox is worth. -/
noncomputable def Tryz.pinned : Pinned := { name := "ytfpfabmbipmipaagreatdoor", sum := "69dce94e7c7332c884ac083db57cf4f80573837a0ac4c0c9c9498ee17045ef03", checked := Tryz.checked }
namespace Rows
def none {H : Type} : Left H := { results := [], args := [] }

/- WHAT THE LISTED PACKAGE-LEVEL VARIABLES READ AS WHEN THE CALL BEGINS. Each datum BY PROGRAM (the guide's laid-datum.mjs) off the statement by which the dump's own 'gosem.cut.vars' lays the variable. In a bare row this is a premise. The card (YtfpfabmbipmipaaGreatDoorCards.lean) ties it to the program's text. -/
def laid_lacquer_sums_rules {H : Type} : DataW H := .agg [.agg [.lit (.int .i64 8), .lit (.int .i64 8), .lit (.int .u32 7), .lit (.bool false), .lit (.int .u32 0)], .agg [.lit (.int .i64 16), .lit (.int .i64 16), .lit (.int .u32 32773), .lit (.bool false), .lit (.int .u32 0)], .agg [.lit (.int .i64 32), .lit (.int .i64 32), .lit (.int .u32 79764919), .lit (.bool false), .lit (.int .u32 0)], .agg [.lit (.int .i64 33), .lit (.int .i64 32), .lit (.int .u32 3988292384), .lit (.bool true), .lit (.int .u32 4294967295)]]
def laid_lacquer_frame_sizes {H : Type} : DataW H := .agg [.lit (.int .i64 0), .lit (.int .i64 192), .lit (.int .i64 576), .lit (.int .i64 1152), .lit (.int .i64 2304), .lit (.int .i64 4608), .lit (.int .i64 0), .lit (.int .i64 0), .lit (.int .i64 256), .lit (.int .i64 512), .lit (.int .i64 1024), .lit (.int .i64 2048), .lit (.int .i64 4096), .lit (.int .i64 8192), .lit (.int .i64 16384), .lit (.int .i64 32768)]
def laid_lacquer_frame_rates {H : Type} : DataW H := .agg [.lit (.int .i64 0), .lit (.int .i64 88200), .lit (.int .i64 176400), .lit (.int .i64 192000), .lit (.int .i64 8000), .lit (.int .i64 16000), .lit (.int .i64 22050), .lit (.int .i64 24000), .lit (.int .i64 32000), .lit (.int .i64 44100), .lit (.int .i64 48000), .lit (.int .i64 96000), .lit (.int .i64 0), .lit (.int .i64 0), .lit (.int .i64 0), .lit (.int .i64 0)]
def laid_lacquer_frame_widths {H : Type} : DataW H := .agg [.lit (.int .i64 0), .lit (.int .i64 8), .lit (.int .i64 12), .lit (.int .i64 0), .lit (.int .i64 16), .lit (.int .i64 20), .lit (.int .i64 24), .lit (.int .i64 0)]

/-- 'lacquerlaw11.FrameBuilds': WHATEVER THE INPUT: true; the input reads as it did. -/
def frameBuildsSpec : ChangeSpec := { name := "frameBuilds", fn := fun _ => fun
  | [d1, d2, d3] => { results := [.lit (.bool true)], args := [d1, d2, d3] }
  | _ => none }
def frameBuildsRow : OpenClaim := { program := "ytfpfabmbipmipaagreatdoor", sum := "69dce94e7c7332c884ac083db57cf4f80573837a0ac4c0c9c9498ee17045ef03", func := "lacquer/lacquerlaw11.FrameBuilds", spec := "frameBuilds", unfollowed := true, recurses := true, named := ["lacquer/frame.sizes", "lacquer/frame.rates", "lacquer/frame.widths", "lacquer/sums.rules"], apart := false, laid := [("lacquer/sums.rules", laid_lacquer_sums_rules), ("lacquer/frame.sizes", laid_lacquer_frame_sizes), ("lacquer/frame.rates", laid_lacquer_frame_rates), ("lacquer/frame.widths", laid_lacquer_frame_widths)] }
def FrameBuildsSaid : Prop := frameBuildsRow.holds Tryz.pinned (OpenSpec.ofChange frameBuildsSpec)

/-- ITS FALSE NEIGHBOUR: 'it returns false'. Refute it at one input. -/
def frameBuildsWrong : ChangeSpec := { name := "frameBuilds", fn := fun _ => fun
  | [d1, d2, d3] => { results := [.lit (.bool false)], args := [d1, d2, d3] }
  | _ => none }
def FrameBuildsWrongFalsely : Prop := frameBuildsRow.holds Tryz.pinned (OpenSpec.ofChange frameBuildsWrong)

/-- 'lacquerlaw11.FrameParses': WHATEVER THE INPUT: true; the input reads as it did. -/
def frameParsesSpec : ChangeSpec := { name := "frameParses", fn := fun _ => fun
  | [d1, d2] => { results := [.lit (.bool true)], args := [d1, d2] }
  | _ => none }
def frameParsesRow : OpenClaim := { program := "ytfpfabmbipmipaagreatdoor", sum := "69dce94e7c7332c884ac083db57cf4f80573837a0ac4c0c9c9498ee17045ef03", func := "lacquer/lacquerlaw11.FrameParses", spec := "frameParses", unfollowed := true, recurses := true, named := ["lacquer/sums.rules", "lacquer/frame.sizes", "lacquer/frame.rates", "lacquer/frame.widths"], apart := false, laid := [("lacquer/sums.rules", laid_lacquer_sums_rules), ("lacquer/frame.sizes", laid_lacquer_frame_sizes), ("lacquer/frame.rates", laid_lacquer_frame_rates), ("lacquer/frame.widths", laid_lacquer_frame_widths)] }
def FrameParsesSaid : Prop := frameParsesRow.holds Tryz.pinned (OpenSpec.ofChange frameParsesSpec)

/-- ITS FALSE NEIGHBOUR: 'it returns false'. Refute it at one input. -/
def frameParsesWrong : ChangeSpec := { name := "frameParses", fn := fun _ => fun
  | [d1, d2] => { results := [.lit (.bool false)], args := [d1, d2] }
  | _ => none }
def FrameParsesWrongFalsely : Prop := frameParsesRow.holds Tryz.pinned (OpenSpec.ofChange frameParsesWrong)

/-- 'lacquerlaw11.FrameBack': WHATEVER THE INPUT: true; the input reads as it did. -/
def frameBackSpec : ChangeSpec := { name := "frameBack", fn := fun _ => fun
  | [d1, d2, d3] => { results := [.lit (.bool true)], args := [d1, d2, d3] }
  | _ => none }
def frameBackRow : OpenClaim := { program := "ytfpfabmbipmipaagreatdoor", sum := "69dce94e7c7332c884ac083db57cf4f80573837a0ac4c0c9c9498ee17045ef03", func := "lacquer/lacquerlaw11.FrameBack", spec := "frameBack", unfollowed := true, recurses := true, named := ["lacquer/frame.sizes", "lacquer/frame.rates", "lacquer/frame.widths", "lacquer/sums.rules"], apart := false, laid := [("lacquer/sums.rules", laid_lacquer_sums_rules), ("lacquer/frame.sizes", laid_lacquer_frame_sizes), ("lacquer/frame.rates", laid_lacquer_frame_rates), ("lacquer/frame.widths", laid_lacquer_frame_widths)] }
def FrameBackSaid : Prop := frameBackRow.holds Tryz.pinned (OpenSpec.ofChange frameBackSpec)

/-- ITS FALSE NEIGHBOUR: 'it returns false'. Refute it at one input. -/
def frameBackWrong : ChangeSpec := { name := "frameBack", fn := fun _ => fun
  | [d1, d2, d3] => { results := [.lit (.bool false)], args := [d1, d2, d3] }
  | _ => none }
def FrameBackWrongFalsely : Prop := frameBackRow.holds Tryz.pinned (OpenSpec.ofChange frameBackWrong)

/-- 'lacquerlaw11.FrameAgain': WHATEVER THE INPUT: true; the input reads as it did. -/
def frameAgainSpec : ChangeSpec := { name := "frameAgain", fn := fun _ => fun
  | [d1, d2] => { results := [.lit (.bool true)], args := [d1, d2] }
  | _ => none }
def frameAgainRow : OpenClaim := { program := "ytfpfabmbipmipaagreatdoor", sum := "69dce94e7c7332c884ac083db57cf4f80573837a0ac4c0c9c9498ee17045ef03", func := "lacquer/lacquerlaw11.FrameAgain", spec := "frameAgain", unfollowed := true, recurses := true, named := ["lacquer/sums.rules", "lacquer/frame.sizes", "lacquer/frame.rates", "lacquer/frame.widths"], apart := false, laid := [("lacquer/sums.rules", laid_lacquer_sums_rules), ("lacquer/frame.sizes", laid_lacquer_frame_sizes), ("lacquer/frame.rates", laid_lacquer_frame_rates), ("lacquer/frame.widths", laid_lacquer_frame_widths)] }
def FrameAgainSaid : Prop := frameAgainRow.holds Tryz.pinned (OpenSpec.ofChange frameAgainSpec)

/-- ITS FALSE NEIGHBOUR: 'it returns false'. Refute it at one input. -/
def frameAgainWrong : ChangeSpec := { name := "frameAgain", fn := fun _ => fun
  | [d1, d2] => { results := [.lit (.bool false)], args := [d1, d2] }
  | _ => none }
def FrameAgainWrongFalsely : Prop := frameAgainRow.holds Tryz.pinned (OpenSpec.ofChange frameAgainWrong)

/-- 'lacquerlaw11.FrameSpoilt': WHATEVER THE INPUT: true; the input reads as it did. -/
def frameSpoiltSpec : ChangeSpec := { name := "frameSpoilt", fn := fun _ => fun
  | [d1, d2, d3] => { results := [.lit (.bool true)], args := [d1, d2, d3] }
  | _ => none }
def frameSpoiltRow : OpenClaim := { program := "ytfpfabmbipmipaagreatdoor", sum := "69dce94e7c7332c884ac083db57cf4f80573837a0ac4c0c9c9498ee17045ef03", func := "lacquer/lacquerlaw11.FrameSpoilt", spec := "frameSpoilt", unfollowed := true, recurses := true, named := ["lacquer/sums.rules", "lacquer/frame.sizes", "lacquer/frame.rates", "lacquer/frame.widths"], apart := false, laid := [("lacquer/sums.rules", laid_lacquer_sums_rules), ("lacquer/frame.sizes", laid_lacquer_frame_sizes), ("lacquer/frame.rates", laid_lacquer_frame_rates), ("lacquer/frame.widths", laid_lacquer_frame_widths)] }
def FrameSpoiltSaid : Prop := frameSpoiltRow.holds Tryz.pinned (OpenSpec.ofChange frameSpoiltSpec)

/-- ITS FALSE NEIGHBOUR: 'it returns false'. Refute it at one input. -/
def frameSpoiltWrong : ChangeSpec := { name := "frameSpoilt", fn := fun _ => fun
  | [d1, d2, d3] => { results := [.lit (.bool false)], args := [d1, d2, d3] }
  | _ => none }
def FrameSpoiltWrongFalsely : Prop := frameSpoiltRow.holds Tryz.pinned (OpenSpec.ofChange frameSpoiltWrong)

/- THE SECOND FORM. 'bulk': how many values and letters a reading holds, each counted each time it is reached (what is shared counts as often as it is met; a slice's spare places count too). A statement '..UptoSaid' is the law's where the arguments, and the package variables that the reading takes, are together of bulk at most 1048576: NARROWER than '..Said'. Prove '..Said' where nothing that the law and all that it calls make is longer than what came in: it says more and counts as full. Else prove '..UptoSaid'. A law counts once. -/
mutual
def uptoBulk {H : Type} : DataW H → Nat
  | .lit (.string bytes) => bytes.length + 1
  | .lit _ => 1
  | .nil => 1
  | .ptr d => uptoBulk d + 1
  | .slice elems spare => uptoBulkAll elems + uptoBulkAll spare + 1
  | .agg parts => uptoBulkAll parts + 1
  | .iface _ d => uptoBulk d + 1
  | .map entries => uptoBulkEntries entries + 1
  | .held _ => 1
def uptoBulkAll {H : Type} : List (DataW H) → Nat
  | [] => 0
  | d :: r => uptoBulk d + uptoBulkAll r
def uptoBulkEntries {H : Type} : List (Lit × DataW H) → Nat
  | [] => 0
  | x :: r => uptoBulkEntry x + uptoBulkEntries r
def uptoBulkEntry {H : Type} : Lit × DataW H → Nat
  | (.string bytes, d) => bytes.length + uptoBulk d + 1
  | (_, d) => uptoBulk d + 1
 end
def uptoSmall : (H : Type) → List (DataW H) → Bool := fun _ ds => decide (uptoBulkAll ds ≤ 1048576)
def OpenSpec.upto (s : _root_.Go.ChangeSpec) : _root_.Go.OpenSpec := { _root_.Go.OpenSpec.ofChange s with cond := some uptoSmall }

/-- 'lacquerlaw11.FrameBuilds', WHERE WHAT IT READS IS OF BULK AT MOST 1048576: true; the input reads as it did. -/
def frameBuildsUptoRow : OpenClaim := { program := "ytfpfabmbipmipaagreatdoor", sum := "69dce94e7c7332c884ac083db57cf4f80573837a0ac4c0c9c9498ee17045ef03", func := "lacquer/lacquerlaw11.FrameBuilds", spec := "frameBuilds", unfollowed := true, recurses := true, named := ["lacquer/frame.sizes", "lacquer/frame.rates", "lacquer/frame.widths", "lacquer/sums.rules"], apart := false, laid := [("lacquer/sums.rules", laid_lacquer_sums_rules), ("lacquer/frame.sizes", laid_lacquer_frame_sizes), ("lacquer/frame.rates", laid_lacquer_frame_rates), ("lacquer/frame.widths", laid_lacquer_frame_widths)], narrowed := true }
def FrameBuildsUptoSaid : Prop := frameBuildsUptoRow.holds Tryz.pinned (OpenSpec.upto frameBuildsSpec)

/-- 'lacquerlaw11.FrameParses', WHERE WHAT IT READS IS OF BULK AT MOST 1048576: true; the input reads as it did. -/
def frameParsesUptoRow : OpenClaim := { program := "ytfpfabmbipmipaagreatdoor", sum := "69dce94e7c7332c884ac083db57cf4f80573837a0ac4c0c9c9498ee17045ef03", func := "lacquer/lacquerlaw11.FrameParses", spec := "frameParses", unfollowed := true, recurses := true, named := ["lacquer/sums.rules", "lacquer/frame.sizes", "lacquer/frame.rates", "lacquer/frame.widths"], apart := false, laid := [("lacquer/sums.rules", laid_lacquer_sums_rules), ("lacquer/frame.sizes", laid_lacquer_frame_sizes), ("lacquer/frame.rates", laid_lacquer_frame_rates), ("lacquer/frame.widths", laid_lacquer_frame_widths)], narrowed := true }
def FrameParsesUptoSaid : Prop := frameParsesUptoRow.holds Tryz.pinned (OpenSpec.upto frameParsesSpec)

/-- 'lacquerlaw11.FrameBack', WHERE WHAT IT READS IS OF BULK AT MOST 1048576: true; the input reads as it did. -/
def frameBackUptoRow : OpenClaim := { program := "ytfpfabmbipmipaagreatdoor", sum := "69dce94e7c7332c884ac083db57cf4f80573837a0ac4c0c9c9498ee17045ef03", func := "lacquer/lacquerlaw11.FrameBack", spec := "frameBack", unfollowed := true, recurses := true, named := ["lacquer/frame.sizes", "lacquer/frame.rates", "lacquer/frame.widths", "lacquer/sums.rules"], apart := false, laid := [("lacquer/sums.rules", laid_lacquer_sums_rules), ("lacquer/frame.sizes", laid_lacquer_frame_sizes), ("lacquer/frame.rates", laid_lacquer_frame_rates), ("lacquer/frame.widths", laid_lacquer_frame_widths)], narrowed := true }
def FrameBackUptoSaid : Prop := frameBackUptoRow.holds Tryz.pinned (OpenSpec.upto frameBackSpec)

/-- 'lacquerlaw11.FrameAgain', WHERE WHAT IT READS IS OF BULK AT MOST 1048576: true; the input reads as it did. -/
def frameAgainUptoRow : OpenClaim := { program := "ytfpfabmbipmipaagreatdoor", sum := "69dce94e7c7332c884ac083db57cf4f80573837a0ac4c0c9c9498ee17045ef03", func := "lacquer/lacquerlaw11.FrameAgain", spec := "frameAgain", unfollowed := true, recurses := true, named := ["lacquer/sums.rules", "lacquer/frame.sizes", "lacquer/frame.rates", "lacquer/frame.widths"], apart := false, laid := [("lacquer/sums.rules", laid_lacquer_sums_rules), ("lacquer/frame.sizes", laid_lacquer_frame_sizes), ("lacquer/frame.rates", laid_lacquer_frame_rates), ("lacquer/frame.widths", laid_lacquer_frame_widths)], narrowed := true }
def FrameAgainUptoSaid : Prop := frameAgainUptoRow.holds Tryz.pinned (OpenSpec.upto frameAgainSpec)

/-- 'lacquerlaw11.FrameSpoilt', WHERE WHAT IT READS IS OF BULK AT MOST 1048576: true; the input reads as it did. -/
def frameSpoiltUptoRow : OpenClaim := { program := "ytfpfabmbipmipaagreatdoor", sum := "69dce94e7c7332c884ac083db57cf4f80573837a0ac4c0c9c9498ee17045ef03", func := "lacquer/lacquerlaw11.FrameSpoilt", spec := "frameSpoilt", unfollowed := true, recurses := true, named := ["lacquer/sums.rules", "lacquer/frame.sizes", "lacquer/frame.rates", "lacquer/frame.widths"], apart := false, laid := [("lacquer/sums.rules", laid_lacquer_sums_rules), ("lacquer/frame.sizes", laid_lacquer_frame_sizes), ("lacquer/frame.rates", laid_lacquer_frame_rates), ("lacquer/frame.widths", laid_lacquer_frame_widths)], narrowed := true }
def FrameSpoiltUptoSaid : Prop := frameSpoiltUptoRow.holds Tryz.pinned (OpenSpec.upto frameSpoiltSpec)

end Rows
end Go.Proofs.YtfpfabmbipmipaaGreatDoor
