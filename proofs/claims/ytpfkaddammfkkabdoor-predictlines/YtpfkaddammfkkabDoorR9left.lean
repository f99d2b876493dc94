/- Own text: the document's left. -/
import Derived.Test.YtpfkaddammfkkabDoorR9fore
namespace Go.Proofs.YtpfkaddammfkkabDoor
open Go.RowKit
set_option linter.unusedSimpArgs false
set_option linter.unusedVariables false

end Go.Proofs.YtpfkaddammfkkabDoor
