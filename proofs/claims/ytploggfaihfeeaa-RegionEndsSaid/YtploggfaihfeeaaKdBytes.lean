/- The kit's apartness of two lists of uint8: the walk of flat. -/
import Derived.Test.YtploggfaihfeeaaKcBytes
namespace Go.Proofs.Ytploggfaihfeeaa.KitBytes
open Go.RowKit Go.Maps Go.Proofs.Ytploggfaihfeeaa.Kit
set_option linter.unusedVariables false

end Go.Proofs.Ytploggfaihfeeaa.KitBytes
