/- Contracts of package word's Parse. -/
import Derived.Test.YtploggfaihfeeaaWc
namespace Go.Proofs.Ytploggfaihfeeaa.Word
open Go.RowKit Go.PlainAid
set_option linter.unusedVariables false

def decF (s : ByteArray) : Option Int := if 1 < s.size ∧ bt s 0 = 48 then none else numF 10 (bts s)
def hexF (s : ByteArray) : Option Int := if 8 < s.size then none else numF 16 (bts s)
end Go.Proofs.Ytploggfaihfeeaa.Word
