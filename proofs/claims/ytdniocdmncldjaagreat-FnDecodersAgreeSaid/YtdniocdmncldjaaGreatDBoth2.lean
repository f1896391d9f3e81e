/-
  What LocatorOf, IndicesOf and ErrorValues return, of the model and of the program, side by side.
  Condition: lists shorter than 2^20; the numbers are int64s.
-/
import Derived.Test.YtdniocdmncldjaaGreatDBoth1
namespace Go.Proofs.YtdniocdmncldjaaGreat
open Go.RowKit
set_option linter.unusedSimpArgs false
set_option linter.unusedVariables false

/-- The code of what may fail. -/
def okC (b : Bool) (n : Int) : Int := if b = true then 0 else n

end Go.Proofs.YtdniocdmncldjaaGreat
