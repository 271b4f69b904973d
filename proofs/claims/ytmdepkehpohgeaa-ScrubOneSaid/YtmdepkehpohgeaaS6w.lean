/- Package scrub's contracts, together. -/
import Derived.Test.YtmdepkehpohgeaaS6wh
import Derived.Test.YtmdepkehpohgeaaS6wi
import Derived.Test.YtmdepkehpohgeaaS6wt
