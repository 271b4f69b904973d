/- The kit's apartness, where a kind has no list: each flat answers true. -/
import Derived.Test.YtploggfaihfeeaaProg
import Derived.WalkKit
import Derived.WalkLawsBesides
import Derived.Handy
import Derived.Lib.Hide
import Derived.Outline
namespace Go.Proofs.Ytploggfaihfeeaa.Kit
open Go.RowKit
set_option linter.unusedVariables false

end Go.Proofs.Ytploggfaihfeeaa.Kit
