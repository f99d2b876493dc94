/- Own text: the document's Wasted. -/
import Derived.Test.YtpfkaddammfkkabDoorR9div
namespace Go.Proofs.YtpfkaddammfkkabDoor
open Go.RowKit
set_option linter.unusedSimpArgs false
set_option linter.unusedVariables false

end Go.Proofs.YtpfkaddammfkkabDoor
