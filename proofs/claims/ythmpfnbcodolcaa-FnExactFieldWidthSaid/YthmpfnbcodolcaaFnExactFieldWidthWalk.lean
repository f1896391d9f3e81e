/-
  The walk of the law FnExactFieldWidth: it returns true, and nothing that was there before is changed.
  Condition: none.
-/
import Derived.Test.YthmpfnbcodolcaaPy1
import Derived.Test.YthmpfnbcodolcaaFLaw
import Derived.Test.YthmpfnbcodolcaaFShell
namespace Go.Proofs.Ythmpfnbcodolcaa
open Go.RowKit
set_option linter.unusedVariables false

set_option maxHeartbeats 1000000 in
theorem fnExactFieldWidthWalk (p k g : Int)  (w : World) (hp : (Lit.int .i64 p).wf = true) (hk : (Lit.int .i64 k).wf = true) (hg : (Lit.int .i64 g).wf = true) :
    Calls Try.prog 7 #[.agg #[.int .i64 p, .int .i64 k, .int .i64 g]] w fun e w' => e = .returned (.bool true) ∧ Below w.heap.size w w' := by
  clear hp hk hg
  obtain ⟨v, hS, hI⟩ := fw2_both p k g
  have HS := hide hS
  have HI := hide hI
  clear hS hI
  have HX := hide (Box.start w 50 p k g)
  go_enter Try.func7, Try.ntmps7
  go_wp2_with fail
  refine (toField p k g _).mono ?_
  rintro e w1 ⟨rfl, hb⟩
  have HX1 := hide (HX.out.next hb)
  obtain ⟨c0, c1, c2⟩ := HX1.out.cells
  clear hb
  go_wp2_with fail
  refine (HS.out _).mono ?_
  rintro e w2 ⟨rfl, hb⟩
  have HX2 := hide (HX1.out.next hb)
  clear hb c0 c1 c2
  obtain ⟨c0, c1, c2⟩ := HX2.out.cells
  go_wp2_with fail
  refine (toField p k g _).mono ?_
  rintro e w3 ⟨rfl, hb⟩
  have HX3 := hide (HX2.out.next hb)
  obtain ⟨c0, c1, c2⟩ := HX3.out.cells
  clear hb
  go_wp2_with fail
  refine (HI.out _).mono ?_
  rintro e w4 ⟨rfl, hb⟩
  have HX4 := hide (HX3.out.next hb)
  clear hb c0 c1 c2
  obtain ⟨c0, c1, c2⟩ := HX4.out.cells
  go_wp2_with fail
  go_ret
  exact ⟨rfl, HX4.out.2⟩
end Go.Proofs.Ythmpfnbcodolcaa
