/-
  The walk of the law FnExactPayloadSize: it returns true, and nothing that was there before is changed.
  Condition: none.
-/
import Derived.Test.YthmpfnbcodolcaaPy4
import Derived.Test.YthmpfnbcodolcaaFLaw
import Derived.Test.YthmpfnbcodolcaaFShell
namespace Go.Proofs.Ythmpfnbcodolcaa
open Go.RowKit
set_option linter.unusedVariables false

set_option maxRecDepth 100000 in
set_option maxHeartbeats 4000000 in
theorem fnExactPayloadSizeWalk (p k g : Int) (s : ByteArray) (w : World) (hp : (Lit.int .i64 p).wf = true) (hk : (Lit.int .i64 k).wf = true) (hg : (Lit.int .i64 g).wf = true) (h1 : s.size ≤ maxLen) :
    Calls Try.prog 8 #[.agg #[.int .i64 p, .int .i64 k, .int .i64 g], .string s] w fun e w' => e = .returned (.bool true) ∧ Below w.heap.size w w' := by
  clear hp hk hg
  unfold maxLen at h1
  have HX := hide (Box.start w 50 p k g)
  by_cases hbig : 1048576 < s.size
  · go_enter Try.func8, Try.ntmps8
    go_wp2_with fail
    go_ret
    exact ⟨rfl, HX.out.2⟩
  obtain ⟨v, c, hS, hI⟩ := ps_both p k g s (by omega)
  have HS := hide hS
  have HI := hide hI
  have hq1 : (v != v) = false := by simp
  have hq2 : (c != c) = false := by simp
  clear hS hI
  obtain ⟨c0, c1, c2⟩ := HX.out.cells
  go_enter Try.func8, Try.ntmps8
  go_wp2_with fail
  refine (toField p k g _).mono ?_
  rintro e w1 ⟨rfl, hb⟩
  have HX1 := hide (HX.out.next hb)
  clear hb c0 c1 c2
  go_wp2_with fail
  refine (HS.out _).mono ?_
  rintro e w2 ⟨rfl, hb⟩
  have HX2 := hide (HX1.out.next hb)
  clear hb
  obtain ⟨c0, c1, c2⟩ := HX2.out.cells
  go_wp2_with fail
  refine (toField p k g _).mono ?_
  rintro e w3 ⟨rfl, hb⟩
  have HX3 := hide (HX2.out.next hb)
  clear hb c0 c1 c2
  go_wp2_with fail
  refine (HI.out _).mono ?_
  rintro e w4 ⟨rfl, hb⟩
  have HX4 := hide (HX3.out.next hb)
  clear hb
  go_wp2_with fail
  go_ret
  exact ⟨rfl, HX4.out.2⟩
end Go.Proofs.Ythmpfnbcodolcaa
