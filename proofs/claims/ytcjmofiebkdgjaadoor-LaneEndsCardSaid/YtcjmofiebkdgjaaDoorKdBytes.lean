/- The kit's apartness of two lists of uint8: the walk of flat. -/
import Derived.Test.YtcjmofiebkdgjaaDoorKcBytes
namespace Go.Proofs.YtcjmofiebkdgjaaDoor.KitBytes
open Go.RowKit Go.Maps Go.Proofs.YtcjmofiebkdgjaaDoor.Kit
set_option linter.unusedVariables false

end Go.Proofs.YtcjmofiebkdgjaaDoor.KitBytes
