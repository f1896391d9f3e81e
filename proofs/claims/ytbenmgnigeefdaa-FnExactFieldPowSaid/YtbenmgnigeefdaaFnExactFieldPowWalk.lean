/-
  The walk of the law FnExactFieldPow: it returns true, and nothing that was there before is changed.
  Condition: none.
-/
import Derived.Test.YtbenmgnigeefdaaFSpec4
import Derived.Test.YtbenmgnigeefdaaFImpl7
import Derived.Test.YtbenmgnigeefdaaFLaw
import Derived.Test.YtbenmgnigeefdaaFShell
namespace Go.Proofs.Ytbenmgnigeefdaa
open Go.RowKit
set_option linter.unusedVariables false

set_option maxHeartbeats 1000000 in
theorem fnExactFieldPowWalk (p k g : Int) (a : Int) (b : Int) (w : World) (hp : (Lit.int .i64 p).wf = true) (hk : (Lit.int .i64 k).wf = true) (hg : (Lit.int .i64 g).wf = true) (ha : (Lit.int .i64 a).wf = true) (hb : (Lit.int .i64 b).wf = true) :
    Calls Try.prog 14 #[.agg #[.int .i64 p, .int .i64 k, .int .i64 g], .int .i64 a, .int .i64 b] w fun e w' => e = .returned (.bool true) ∧ Below w.heap.size w w' := by
  clear hp hk hg ha hb
  have HX := hide (Box.start w 41 p k g)
  go_enter Try.func14, Try.ntmps14
  go_wp2_with fail
  refine (toField p k g _).mono ?_
  rintro e w1 ⟨rfl, hb⟩
  have HX1 := hide (HX.out.next hb)
  obtain ⟨c0, c1, c2⟩ := HX1.out.cells
  clear hb
  go_wp2_with fail
  refine (specPow p k g a b _).mono ?_
  rintro e w2 ⟨rfl, hb⟩
  have HX2 := hide (HX1.out.next hb)
  clear hb c0 c1 c2
  obtain ⟨c0, c1, c2⟩ := HX2.out.cells
  go_wp2_with fail
  refine (toField p k g _).mono ?_
  rintro e w3 ⟨rfl, hb⟩
  have HX3 := hide (HX2.out.next hb)
  obtain ⟨c0, c1, c2⟩ := HX3.out.cells
  clear hb
  go_wp2_with fail
  refine (implPow p k g a b _).mono ?_
  rintro e w4 ⟨rfl, hb⟩
  have HX4 := hide (HX3.out.next hb)
  clear hb c0 c1 c2
  obtain ⟨c0, c1, c2⟩ := HX4.out.cells
  go_wp2_with fail
  go_ret
  exact ⟨rfl, HX4.out.2⟩
end Go.Proofs.Ytbenmgnigeefdaa
