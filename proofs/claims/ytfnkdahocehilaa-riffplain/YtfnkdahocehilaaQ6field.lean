/- Own text: a field of a skeleton. -/
import Derived.Test.YtfnkdahocehilaaQ6awake
namespace Go.Proofs.Ytfnkdahocehilaa
open Go.RowKit
set_option linter.unusedSimpArgs false
set_option linter.unusedVariables false

set_option maxRecDepth 20000 in
theorem field_wave (a b : Value) (w : World) : (Instr.field 27 (.agg #[a, b]) 1).run Try.prog w = .ok b w := by
  unfold Instr.field
  have hu := Try.underlying27
  go_simp
  rfl

end Go.Proofs.Ytfnkdahocehilaa
