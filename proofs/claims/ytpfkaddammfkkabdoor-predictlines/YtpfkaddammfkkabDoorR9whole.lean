/- Own text: the document's whole and weights. -/
import Derived.Test.YtpfkaddammfkkabDoorR9left
namespace Go.Proofs.YtpfkaddammfkkabDoor
open Go.RowKit
set_option linter.unusedSimpArgs false
set_option linter.unusedVariables false

end Go.Proofs.YtpfkaddammfkkabDoor
