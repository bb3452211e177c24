/- The contract of the reference's Passes. -/
import Derived.Test.YtdpgmdkclaahdaaNbRulePassP
namespace Go.Proofs.Ytdpgmdkclaahdaa.Nb
open Go.Sort Go.RowKit Go.BigFrame
set_option linter.unusedVariables false
set_option linter.unusedSimpArgs false

end Go.Proofs.Ytdpgmdkclaahdaa.Nb