/-
  The walk of the law FnExactFieldOf: it returns true, and nothing that was there before is changed.
  Condition: none.
-/
import Derived.Test.YtbenmgnigeefdaaFOfSpec
import Derived.Test.YtbenmgnigeefdaaFLaw
import Derived.Test.YtbenmgnigeefdaaFShell
namespace Go.Proofs.Ytbenmgnigeefdaa
open Go.RowKit
set_option linter.unusedVariables false

set_option maxHeartbeats 1000000 in
theorem eqField (p k g : Int) (w : World) :
    Calls Try.prog 39 #[.agg #[.int .i64 p, .int .i64 k, .int .i64 g], .agg #[.int .i64 p, .int .i64 k, .int .i64 g]] w (Gives (.bool true) w) := by
  go_enter Try.func39, Try.ntmps39
  go_wp2_with fail
  go_ret
  exact ⟨rfl, ((Below.refl _ _).alloc (Nat.le_refl _) _).alloc (by rw [alloc_size]; omega) _⟩

set_option maxHeartbeats 1000000 in
theorem fnExactFieldOfWalk (s : Int) (w : World) (hs : (Lit.int .i64 s).wf = true) :
    Calls Try.prog 9 #[.int .i64 s] w fun e w' => e = .returned (.bool true) ∧ Below w.heap.size w w' := by
  clear hs
  go_enter Try.func9, Try.ntmps9
  go_wp2_with fail
  refine (specFieldOf s _).mono ?_
  rintro e w1 ⟨rfl, hb⟩
  have HB1 := hide hb
  clear hb
  go_wp2_with fail
  refine (implFieldOf s _).mono ?_
  rintro e w2 ⟨rfl, hb⟩
  have HX2 := hide ((Box.start w1 25 (foP s) (foK s) (foG s)).next hb)
  obtain ⟨c0, c1, c2⟩ := HX2.out.cells
  have hlt : w1.heap.size < w2.heap.size := HX2.out.lt
  clear hb
  go_wp2_with fail
  refine (eqField (foP s) (foK s) (foG s) _).mono ?_
  rintro e w3 ⟨rfl, hb⟩
  have HX3 := hide ((HX2.out.alloc (.cells #[.int .i64 (foP s), .int .i64 (foK s), .int .i64 (foG s)] 25)).next hb)
  clear hb
  go_wp2_with fail
  go_ret
  exact ⟨rfl, HB1.out.trans (HX3.out.2.mono HB1.out.size)⟩
end Go.Proofs.Ytbenmgnigeefdaa
