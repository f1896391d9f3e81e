/-
  What the walks of the exact laws of segments share: the segment that a law is given is handed on as it is.
  Condition: none.
-/
import Derived.Test.YthmpfnbcodolcaaSg5
import Derived.Test.YthmpfnbcodolcaaLawKit
namespace Go.Proofs.Ythmpfnbcodolcaa
open Go.RowKit
set_option linter.unusedSimpArgs false
set_option linter.unusedVariables false

end Go.Proofs.Ythmpfnbcodolcaa
