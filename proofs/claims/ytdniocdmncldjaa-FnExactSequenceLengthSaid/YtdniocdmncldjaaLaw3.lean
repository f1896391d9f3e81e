/-
  What the walks of the exact laws of polynomials share.
  No condition.
-/
import Derived.Test.YtdniocdmncldjaaJH
import Derived.Test.YtdniocdmncldjaaJG
