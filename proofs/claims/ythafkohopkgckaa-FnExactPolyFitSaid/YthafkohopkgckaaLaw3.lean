/-
  What the walks of the exact laws of polynomials share.
  No condition.
-/
import Derived.Test.YthafkohopkgckaaLawKit
import Derived.Test.YthafkohopkgckaaFLaw
import Derived.Test.YthafkohopkgckaaPSpec2
