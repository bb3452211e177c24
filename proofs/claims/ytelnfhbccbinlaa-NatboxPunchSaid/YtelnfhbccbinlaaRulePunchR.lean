/- The contract of the reference's Punch. -/
import Derived.Test.YtelnfhbccbinlaaRuleThru
namespace Go.Proofs.Ytelnfhbccbinlaa
open Go.RowKit
set_option linter.unusedVariables false
set_option linter.unusedSimpArgs false

end Go.Proofs.Ytelnfhbccbinlaa
