/-
  A field that came in as an argument of a law: three integers, opened and shut.
  A family that came in as an argument of a law: opened.
  Condition: as each statement says.
-/
import Derived.Test.YtncgeoliboidhaaGreatShell
import Derived.Lib.SmallJoins
namespace Go.Proofs.YtncgeoliboidhaaGreat
open Go.ChangeShapes Go.WideShapes Go.ChangeAt Go.RowKit Go.Joins

end Go.Proofs.YtncgeoliboidhaaGreat

namespace Go.Proofs.YtncgeoliboidhaaGreat
open Go.ChangeShapes Go.WideShapes Go.ChangeAt Go.RowKit Go.Joins Go.Deep

end Go.Proofs.YtncgeoliboidhaaGreat
