/- Contracts of Through and Punch, both programs. -/
import Derived.Test.YtnemmnndaoaadaaBoxes
namespace Go.Proofs.Ytnemmnndaoaadaa
open Go.RowKit
set_option linter.unusedVariables false
set_option linter.unusedSimpArgs false

end Go.Proofs.Ytnemmnndaoaadaa
