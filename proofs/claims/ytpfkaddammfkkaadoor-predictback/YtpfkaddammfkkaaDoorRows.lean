/-
  NARROWER THAN 'FOR EVERY INPUT', by the rows' own cells (each row's printed sentence says how): PredictFixed: laid · PredictLpc: laid · PredictShifts: laid · PredictStereo: laid · PredictBack: laid · PredictModes: laid.
  DERIVED. THE GIVEN ROWS OF THIS SEAT. 6 by the template 'for every input the law returns true; each argument reads behind the call as it read before'; 0 by the template 'total and deterministic' (their statements: YtpfkaddammfkkaaDoorTotals.lean).
  GIVEN WITH THE SEED: the statements are not yours to turn. If you find one false, say at which input.
  Laid BY PROGRAM, IN A SANDBOX (cutbox-rows.mjs): the forced cells as the released guide's own fill.sh prints them over the translation 3c40c79fa70f5ce0… (all of the seat's roots in one cut). By AI agents, Wed Nov 11 2026. No macro, syntax, notation, axiom, sorry.
-/
import Derived.Test.YtpfkaddammfkkaaDoorChecked
import GoSem.Claim
import GoSem.ClaimJoined
import GoSem.ClaimMapViews
import Derived.JoinedTies
import Derived.KernelRfl
namespace Go.Proofs.YtpfkaddammfkkaaDoor
/- THE CELL 'sum', in the pinned program and in every row, IS THE sha256 OF THE DUMP (.gsa) THAT YtpfkaddammfkkaaDoorProg.lean LOADS. Nothing in Lean hashes anything: it is a label: what it is worth is what the hold of that sum in a sandbox is worth. -/
noncomputable def Tryd.pinned : Pinned := { name := "ytpfkaddammfkkaadoor", sum := "3c40c79fa70f5ce0be2f95011b1bba8b1bff68d685abfaf937a76ed02657b601", checked := Tryd.checked }
namespace Rows
def none {H : Type} : Left H := { results := [], args := [] }

/- WHAT THE LISTED PACKAGE-LEVEL VARIABLES READ AS WHEN THE CALL BEGINS. Each datum BY PROGRAM (the guide's laid-datum.mjs) off the statement by which the dump's own 'gosem.cut.vars' lays the variable. In a bare row this is a premise. The card (YtpfkaddammfkkaaDoorCards.lean) ties it to the program's text. -/
def laid_math_bits_deBruijn32tab {H : Type} : DataW H := .agg [.lit (.int .u8 0), .lit (.int .u8 1), .lit (.int .u8 28), .lit (.int .u8 2), .lit (.int .u8 29), .lit (.int .u8 14), .lit (.int .u8 24), .lit (.int .u8 3), .lit (.int .u8 30), .lit (.int .u8 22), .lit (.int .u8 20), .lit (.int .u8 15), .lit (.int .u8 25), .lit (.int .u8 17), .lit (.int .u8 4), .lit (.int .u8 8), .lit (.int .u8 31), .lit (.int .u8 27), .lit (.int .u8 13), .lit (.int .u8 23), .lit (.int .u8 21), .lit (.int .u8 19), .lit (.int .u8 16), .lit (.int .u8 7), .lit (.int .u8 26), .lit (.int .u8 12), .lit (.int .u8 18), .lit (.int .u8 6), .lit (.int .u8 11), .lit (.int .u8 5), .lit (.int .u8 10), .lit (.int .u8 9)]
def laid_math_bits_deBruijn64tab {H : Type} : DataW H := .agg [.lit (.int .u8 0), .lit (.int .u8 1), .lit (.int .u8 56), .lit (.int .u8 2), .lit (.int .u8 57), .lit (.int .u8 49), .lit (.int .u8 28), .lit (.int .u8 3), .lit (.int .u8 61), .lit (.int .u8 58), .lit (.int .u8 42), .lit (.int .u8 50), .lit (.int .u8 38), .lit (.int .u8 29), .lit (.int .u8 17), .lit (.int .u8 4), .lit (.int .u8 62), .lit (.int .u8 47), .lit (.int .u8 59), .lit (.int .u8 36), .lit (.int .u8 45), .lit (.int .u8 43), .lit (.int .u8 51), .lit (.int .u8 22), .lit (.int .u8 53), .lit (.int .u8 39), .lit (.int .u8 33), .lit (.int .u8 30), .lit (.int .u8 24), .lit (.int .u8 18), .lit (.int .u8 12), .lit (.int .u8 5), .lit (.int .u8 63), .lit (.int .u8 55), .lit (.int .u8 48), .lit (.int .u8 27), .lit (.int .u8 60), .lit (.int .u8 41), .lit (.int .u8 37), .lit (.int .u8 16), .lit (.int .u8 46), .lit (.int .u8 35), .lit (.int .u8 44), .lit (.int .u8 21), .lit (.int .u8 52), .lit (.int .u8 32), .lit (.int .u8 23), .lit (.int .u8 11), .lit (.int .u8 54), .lit (.int .u8 26), .lit (.int .u8 40), .lit (.int .u8 15), .lit (.int .u8 34), .lit (.int .u8 20), .lit (.int .u8 31), .lit (.int .u8 10), .lit (.int .u8 25), .lit (.int .u8 14), .lit (.int .u8 19), .lit (.int .u8 9), .lit (.int .u8 13), .lit (.int .u8 8), .lit (.int .u8 7), .lit (.int .u8 6)]

/-- 'lacquerlaw09.PredictFixed': WHATEVER THE INPUT: true; the input reads as it did. -/
def predictFixedSpec : ChangeSpec := { name := "predictFixed", fn := fun _ => fun
  | [d1, d2, d3] => { results := [.lit (.bool true)], args := [d1, d2, d3] }
  | _ => none }
def predictFixedRow : OpenClaim := { program := "ytpfkaddammfkkaadoor", sum := "3c40c79fa70f5ce0be2f95011b1bba8b1bff68d685abfaf937a76ed02657b601", func := "lacquer/lacquerlaw09.PredictFixed", spec := "predictFixed", unfollowed := true, recurses := true, named := ["math/bits.deBruijn32tab", "math/bits.deBruijn64tab"], apart := false, laid := [("math/bits.deBruijn32tab", laid_math_bits_deBruijn32tab), ("math/bits.deBruijn64tab", laid_math_bits_deBruijn64tab)] }
def PredictFixedSaid : Prop := predictFixedRow.holds Tryd.pinned (OpenSpec.ofChange predictFixedSpec)

/-- ITS FALSE NEIGHBOUR: 'it returns false'. Refute it at one input. -/
def predictFixedWrong : ChangeSpec := { name := "predictFixed", fn := fun _ => fun
  | [d1, d2, d3] => { results := [.lit (.bool false)], args := [d1, d2, d3] }
  | _ => none }
def PredictFixedWrongFalsely : Prop := predictFixedRow.holds Tryd.pinned (OpenSpec.ofChange predictFixedWrong)

/-- 'lacquerlaw09.PredictLpc': WHATEVER THE INPUT: true; the input reads as it did. -/
def predictLpcSpec : ChangeSpec := { name := "predictLpc", fn := fun _ => fun
  | [d1, d2, d3] => { results := [.lit (.bool true)], args := [d1, d2, d3] }
  | _ => none }
def predictLpcRow : OpenClaim := { program := "ytpfkaddammfkkaadoor", sum := "3c40c79fa70f5ce0be2f95011b1bba8b1bff68d685abfaf937a76ed02657b601", func := "lacquer/lacquerlaw09.PredictLpc", spec := "predictLpc", unfollowed := true, recurses := true, named := ["math/bits.deBruijn32tab", "math/bits.deBruijn64tab"], apart := false, laid := [("math/bits.deBruijn32tab", laid_math_bits_deBruijn32tab), ("math/bits.deBruijn64tab", laid_math_bits_deBruijn64tab)] }
def PredictLpcSaid : Prop := predictLpcRow.holds Tryd.pinned (OpenSpec.ofChange predictLpcSpec)

/-- ITS FALSE NEIGHBOUR: 'it returns false'. Refute it at one input. -/
def predictLpcWrong : ChangeSpec := { name := "predictLpc", fn := fun _ => fun
  | [d1, d2, d3] => { results := [.lit (.bool false)], args := [d1, d2, d3] }
  | _ => none }
def PredictLpcWrongFalsely : Prop := predictLpcRow.holds Tryd.pinned (OpenSpec.ofChange predictLpcWrong)

/-- 'lacquerlaw09.PredictShifts': WHATEVER THE INPUT: true; the input reads as it did. -/
def predictShiftsSpec : ChangeSpec := { name := "predictShifts", fn := fun _ => fun
  | [d1, d2] => { results := [.lit (.bool true)], args := [d1, d2] }
  | _ => none }
def predictShiftsRow : OpenClaim := { program := "ytpfkaddammfkkaadoor", sum := "3c40c79fa70f5ce0be2f95011b1bba8b1bff68d685abfaf937a76ed02657b601", func := "lacquer/lacquerlaw09.PredictShifts", spec := "predictShifts", unfollowed := true, recurses := true, named := ["math/bits.deBruijn32tab", "math/bits.deBruijn64tab"], apart := false, laid := [("math/bits.deBruijn32tab", laid_math_bits_deBruijn32tab), ("math/bits.deBruijn64tab", laid_math_bits_deBruijn64tab)] }
def PredictShiftsSaid : Prop := predictShiftsRow.holds Tryd.pinned (OpenSpec.ofChange predictShiftsSpec)

/-- ITS FALSE NEIGHBOUR: 'it returns false'. Refute it at one input. -/
def predictShiftsWrong : ChangeSpec := { name := "predictShifts", fn := fun _ => fun
  | [d1, d2] => { results := [.lit (.bool false)], args := [d1, d2] }
  | _ => none }
def PredictShiftsWrongFalsely : Prop := predictShiftsRow.holds Tryd.pinned (OpenSpec.ofChange predictShiftsWrong)

/-- 'lacquerlaw09.PredictStereo': WHATEVER THE INPUT: true; the input reads as it did. -/
def predictStereoSpec : ChangeSpec := { name := "predictStereo", fn := fun _ => fun
  | [d1, d2, d3] => { results := [.lit (.bool true)], args := [d1, d2, d3] }
  | _ => none }
def predictStereoRow : OpenClaim := { program := "ytpfkaddammfkkaadoor", sum := "3c40c79fa70f5ce0be2f95011b1bba8b1bff68d685abfaf937a76ed02657b601", func := "lacquer/lacquerlaw09.PredictStereo", spec := "predictStereo", unfollowed := true, recurses := true, named := ["math/bits.deBruijn32tab", "math/bits.deBruijn64tab"], apart := false, laid := [("math/bits.deBruijn32tab", laid_math_bits_deBruijn32tab), ("math/bits.deBruijn64tab", laid_math_bits_deBruijn64tab)] }
def PredictStereoSaid : Prop := predictStereoRow.holds Tryd.pinned (OpenSpec.ofChange predictStereoSpec)

/-- ITS FALSE NEIGHBOUR: 'it returns false'. Refute it at one input. -/
def predictStereoWrong : ChangeSpec := { name := "predictStereo", fn := fun _ => fun
  | [d1, d2, d3] => { results := [.lit (.bool false)], args := [d1, d2, d3] }
  | _ => none }
def PredictStereoWrongFalsely : Prop := predictStereoRow.holds Tryd.pinned (OpenSpec.ofChange predictStereoWrong)

/-- 'lacquerlaw09.PredictBack': WHATEVER THE INPUT: true; the input reads as it did. -/
def predictBackSpec : ChangeSpec := { name := "predictBack", fn := fun _ => fun
  | [d1, d2, d3] => { results := [.lit (.bool true)], args := [d1, d2, d3] }
  | _ => none }
def predictBackRow : OpenClaim := { program := "ytpfkaddammfkkaadoor", sum := "3c40c79fa70f5ce0be2f95011b1bba8b1bff68d685abfaf937a76ed02657b601", func := "lacquer/lacquerlaw09.PredictBack", spec := "predictBack", unfollowed := true, recurses := true, named := ["math/bits.deBruijn32tab", "math/bits.deBruijn64tab"], apart := false, laid := [("math/bits.deBruijn32tab", laid_math_bits_deBruijn32tab), ("math/bits.deBruijn64tab", laid_math_bits_deBruijn64tab)] }
def PredictBackSaid : Prop := predictBackRow.holds Tryd.pinned (OpenSpec.ofChange predictBackSpec)

/-- ITS FALSE NEIGHBOUR: 'it returns false'. Refute it at one input. -/
def predictBackWrong : ChangeSpec := { name := "predictBack", fn := fun _ => fun
  | [d1, d2, d3] => { results := [.lit (.bool false)], args := [d1, d2, d3] }
  | _ => none }
def PredictBackWrongFalsely : Prop := predictBackRow.holds Tryd.pinned (OpenSpec.ofChange predictBackWrong)

/-- 'lacquerlaw09.PredictModes': WHATEVER THE INPUT: true; the input reads as it did. -/
def predictModesSpec : ChangeSpec := { name := "predictModes", fn := fun _ => fun
  | [d1, d2, d3] => { results := [.lit (.bool true)], args := [d1, d2, d3] }
  | _ => none }
def predictModesRow : OpenClaim := { program := "ytpfkaddammfkkaadoor", sum := "3c40c79fa70f5ce0be2f95011b1bba8b1bff68d685abfaf937a76ed02657b601", func := "lacquer/lacquerlaw09.PredictModes", spec := "predictModes", unfollowed := true, recurses := true, named := ["math/bits.deBruijn32tab", "math/bits.deBruijn64tab"], apart := false, laid := [("math/bits.deBruijn32tab", laid_math_bits_deBruijn32tab), ("math/bits.deBruijn64tab", laid_math_bits_deBruijn64tab)] }
def PredictModesSaid : Prop := predictModesRow.holds Tryd.pinned (OpenSpec.ofChange predictModesSpec)

/-- ITS FALSE NEIGHBOUR: 'it returns false'. Refute it at one input. -/
def predictModesWrong : ChangeSpec := { name := "predictModes", fn := fun _ => fun
  | [d1, d2, d3] => { results := [.lit (.bool false)], args := [d1, d2, d3] }
  | _ => none }
def PredictModesWrongFalsely : Prop := predictModesRow.holds Tryd.pinned (OpenSpec.ofChange predictModesWrong)

/- THE SECOND FORM. 'bulk': how many values and letters a reading holds, each counted each time it is reached (what is shared counts as often as it is met; a slice's spare places count too). A statement '..UptoSaid' is the law's where the arguments, and the package variables that the reading takes, are together of bulk at most 1048576: NARROWER than '..Said'. Prove '..Said' where nothing that the law and all that it calls make is longer than what came in: it says more and counts as full. Else prove '..UptoSaid'. A law counts once. -/
mutual
def uptoBulk {H : Type} : DataW H → Nat
  | .lit (.string bytes) => bytes.length + 1
  | .lit _ => 1
  | .nil => 1
  | .ptr d => uptoBulk d + 1
  | .slice elems spare => uptoBulkAll elems + uptoBulkAll spare + 1
  | .agg parts => uptoBulkAll parts + 1
  | .iface _ d => uptoBulk d + 1
  | .map entries => uptoBulkEntries entries + 1
  | .held _ => 1
def uptoBulkAll {H : Type} : List (DataW H) → Nat
  | [] => 0
  | d :: r => uptoBulk d + uptoBulkAll r
def uptoBulkEntries {H : Type} : List (Lit × DataW H) → Nat
  | [] => 0
  | x :: r => uptoBulkEntry x + uptoBulkEntries r
def uptoBulkEntry {H : Type} : Lit × DataW H → Nat
  | (.string bytes, d) => bytes.length + uptoBulk d + 1
  | (_, d) => uptoBulk d + 1
 end
def uptoSmall : (H : Type) → List (DataW H) → Bool := fun _ ds => decide (uptoBulkAll ds ≤ 1048576)
def OpenSpec.upto (s : _root_.Go.ChangeSpec) : _root_.Go.OpenSpec := { _root_.Go.OpenSpec.ofChange s with cond := some uptoSmall }

/-- 'lacquerlaw09.PredictFixed', WHERE WHAT IT READS IS OF BULK AT MOST 1048576: true; the input reads as it did. -/
def predictFixedUptoRow : OpenClaim := { program := "ytpfkaddammfkkaadoor", sum := "3c40c79fa70f5ce0be2f95011b1bba8b1bff68d685abfaf937a76ed02657b601", func := "lacquer/lacquerlaw09.PredictFixed", spec := "predictFixed", unfollowed := true, recurses := true, named := ["math/bits.deBruijn32tab", "math/bits.deBruijn64tab"], apart := false, laid := [("math/bits.deBruijn32tab", laid_math_bits_deBruijn32tab), ("math/bits.deBruijn64tab", laid_math_bits_deBruijn64tab)], narrowed := true }
def PredictFixedUptoSaid : Prop := predictFixedUptoRow.holds Tryd.pinned (OpenSpec.upto predictFixedSpec)

/-- 'lacquerlaw09.PredictLpc', WHERE WHAT IT READS IS OF BULK AT MOST 1048576: true; the input reads as it did. -/
def predictLpcUptoRow : OpenClaim := { program := "ytpfkaddammfkkaadoor", sum := "3c40c79fa70f5ce0be2f95011b1bba8b1bff68d685abfaf937a76ed02657b601", func := "lacquer/lacquerlaw09.PredictLpc", spec := "predictLpc", unfollowed := true, recurses := true, named := ["math/bits.deBruijn32tab", "math/bits.deBruijn64tab"], apart := false, laid := [("math/bits.deBruijn32tab", laid_math_bits_deBruijn32tab), ("math/bits.deBruijn64tab", laid_math_bits_deBruijn64tab)], narrowed := true }
def PredictLpcUptoSaid : Prop := predictLpcUptoRow.holds Tryd.pinned (OpenSpec.upto predictLpcSpec)

/-- 'lacquerlaw09.PredictShifts', WHERE WHAT IT READS IS OF BULK AT MOST 1048576: true; the input reads as it did. -/
def predictShiftsUptoRow : OpenClaim := { program := "ytpfkaddammfkkaadoor", sum := "3c40c79fa70f5ce0be2f95011b1bba8b1bff68d685abfaf937a76ed02657b601", func := "lacquer/lacquerlaw09.PredictShifts", spec := "predictShifts", unfollowed := true, recurses := true, named := ["math/bits.deBruijn32tab", "math/bits.deBruijn64tab"], apart := false, laid := [("math/bits.deBruijn32tab", laid_math_bits_deBruijn32tab), ("math/bits.deBruijn64tab", laid_math_bits_deBruijn64tab)], narrowed := true }
def PredictShiftsUptoSaid : Prop := predictShiftsUptoRow.holds Tryd.pinned (OpenSpec.upto predictShiftsSpec)

/-- 'lacquerlaw09.PredictStereo', WHERE WHAT IT READS IS OF BULK AT MOST 1048576: true; the input reads as it did. -/
def predictStereoUptoRow : OpenClaim := { program := "ytpfkaddammfkkaadoor", sum := "3c40c79fa70f5ce0be2f95011b1bba8b1bff68d685abfaf937a76ed02657b601", func := "lacquer/lacquerlaw09.PredictStereo", spec := "predictStereo", unfollowed := true, recurses := true, named := ["math/bits.deBruijn32tab", "math/bits.deBruijn64tab"], apart := false, laid := [("math/bits.deBruijn32tab", laid_math_bits_deBruijn32tab), ("math/bits.deBruijn64tab", laid_math_bits_deBruijn64tab)], narrowed := true }
def PredictStereoUptoSaid : Prop := predictStereoUptoRow.holds Tryd.pinned (OpenSpec.upto predictStereoSpec)

/-- 'lacquerlaw09.PredictBack', WHERE WHAT IT READS IS OF BULK AT MOST 1048576: true; the input reads as it did. -/
def predictBackUptoRow : OpenClaim := { program := "ytpfkaddammfkkaadoor", sum := "3c40c79fa70f5ce0be2f95011b1bba8b1bff68d685abfaf937a76ed02657b601", func := "lacquer/lacquerlaw09.PredictBack", spec := "predictBack", unfollowed := true, recurses := true, named := ["math/bits.deBruijn32tab", "math/bits.deBruijn64tab"], apart := false, laid := [("math/bits.deBruijn32tab", laid_math_bits_deBruijn32tab), ("math/bits.deBruijn64tab", laid_math_bits_deBruijn64tab)], narrowed := true }
def PredictBackUptoSaid : Prop := predictBackUptoRow.holds Tryd.pinned (OpenSpec.upto predictBackSpec)

/-- 'lacquerlaw09.PredictModes', WHERE WHAT IT READS IS OF BULK AT MOST 1048576: true; the input reads as it did. -/
def predictModesUptoRow : OpenClaim := { program := "ytpfkaddammfkkaadoor", sum := "3c40c79fa70f5ce0be2f95011b1bba8b1bff68d685abfaf937a76ed02657b601", func := "lacquer/lacquerlaw09.PredictModes", spec := "predictModes", unfollowed := true, recurses := true, named := ["math/bits.deBruijn32tab", "math/bits.deBruijn64tab"], apart := false, laid := [("math/bits.deBruijn32tab", laid_math_bits_deBruijn32tab), ("math/bits.deBruijn64tab", laid_math_bits_deBruijn64tab)], narrowed := true }
def PredictModesUptoSaid : Prop := predictModesUptoRow.holds Tryd.pinned (OpenSpec.upto predictModesSpec)

end Rows
end Go.Proofs.YtpfkaddammfkkaaDoor
