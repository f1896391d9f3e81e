/-
  The law FnExactReadSegment, walked: both sides read the same segment, or none, from every list at every index.
  Condition: none beyond the row's own.
-/
import Derived.Test.YthmpfnbcodolcaaRdW
import Derived.Test.YthmpfnbcodolcaaRdT
namespace Go.Proofs.Ythmpfnbcodolcaa
open Go.RowKit
set_option linter.unusedVariables false

theorem fnExactReadSegmentWalk (a0 : Option Addr) (n0 c0 : Nat) (z0 : List Int) (a1 : Int) (w : World) (h0 : Came .i64 w a0 n0 c0 z0) (h1 : (Lit.int .i64 a1).wf = true) :
    Calls Try.prog 6 #[.slice a0 n0 c0, .int .i64 a1] w fun e w' => e = .returned (.bool true) ∧ Below w.heap.size w w' :=
  readSegmentWalkT rdTextOf a0 n0 c0 z0 a1 w h0 h1
end Go.Proofs.Ythmpfnbcodolcaa
