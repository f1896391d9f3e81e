/-
  The walk of the law FnExactCharacterValue: it returns true, and nothing that was there before is changed.
  Condition: none.
-/
import Derived.Test.YtlphodhecaagbaaSg2
import Derived.Test.YtlphodhecaagbaaSg3
import Derived.Test.YtlphodhecaagbaaShell
namespace Go.Proofs.Ytlphodhecaagbaa
open Go.RowKit
set_option linter.unusedVariables false

set_option maxRecDepth 100000 in
theorem fnExactCharacterValueWalk (m b : Int) (w : World) (h0 : (Lit.int .i64 m).wf = true) (h1 : (Lit.int .i64 b).wf = true) :
    Calls Try.prog 6 #[.int .i64 m, .int .i64 b] w fun e w' => e = .returned (.bool true) ∧ Below w.heap.size w w' := by
  clear h0 h1
  have hne : (cval m b != cval m b) = false := by simp
  go_enter Try.func6, Try.ntmps6
  go_wp2_with fail
  refine (specValue m b _).mono ?_
  rintro e w1 ⟨rfl, hw1⟩
  have HB1 := hide (show Below w.heap.size w w1 by rw [hw1]; exact Below.refl _ _)
  clear hw1
  go_wp2_with fail
  refine (implCval m b _).mono ?_
  rintro e w2 ⟨rfl, hb2⟩
  have HB2 := hide (HB1.out.trans (hb2.mono HB1.out.size))
  clear hb2
  go_wp2_with fail
  go_ret
  exact ⟨rfl, HB2.out⟩
end Go.Proofs.Ytlphodhecaagbaa
