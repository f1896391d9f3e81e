/-
  The contracts of the draws of a field with one or two numbers.
  Condition: the code has at most 4096 bytes.
-/
import Derived.Test.YthafkohopkgckaaFDraw2
import Derived.RegionCalls
namespace Go.Proofs.Ythafkohopkgckaa
open Go.RowKit
set_option linter.unusedVariables false
set_option linter.unusedSimpArgs false

def DrawnFE (w : World) (x : Ending) (w' : World) : Prop := ∃ p k γ a : Int, x = .returned (.tuple #[.agg #[.int .i64 p, .int .i64 k, .int .i64 γ], .int .i64 a]) ∧ Below w.heap.size w w'
def DrawnFEE (w : World) (x : Ending) (w' : World) : Prop := ∃ p k γ a b : Int, x = .returned (.tuple #[.agg #[.int .i64 p, .int .i64 k, .int .i64 γ], .int .i64 a, .int .i64 b]) ∧ Below w.heap.size w w'

theorem below_grown {w w1 w2 : World} {g : Nat} (h : Below w.heap.size w w1) (hg : w1.grownBy w2 (some g)) (hle : w.heap.size ≤ g) : Below w.heap.size w w2 :=
  h.grown hg h.size (fun k hk => by injection hk; omega)

end Go.Proofs.Ythafkohopkgckaa
