/-
  The walk of the law FnExactBurstBound: it returns true, and nothing that was there before is changed.
  Condition: none.
-/
import Derived.Test.YtkdpkbnhckpnoaaLayF
import Derived.Test.YtkdpkbnhckpnoaaYShell
import Derived.Test.YtkdpkbnhckpnoaaYLaw
namespace Go.Proofs.Ytkdpkbnhckpnoaa
open Go.RowKit
set_option linter.unusedVariables false

set_option maxRecDepth 100000 in
set_option maxHeartbeats 4000000 in
theorem fnExactBurstBoundWalk (a0x a0y a0z a0d a0k a0c : Int) (w : World) (h0x : (Lit.int .i64 a0x).wf = true) (h0y : (Lit.int .i64 a0y).wf = true) (h0z : (Lit.int .i64 a0z).wf = true) (h0d : (Lit.int .i64 a0d).wf = true) (h0k : (Lit.int .i64 a0k).wf = true) (h0c : (Lit.int .i64 a0c).wf = true) :
    Calls Try.prog 9 #[.agg #[.int .i64 a0x, .int .i64 a0y, .int .i64 a0z, .int .i64 a0d, .int .i64 a0k, .int .i64 a0c]] w fun e w' => e = .returned (.bool true) ∧ Below w.heap.size w w' := by
  have hD := bd_i64 h0d
  have hC := bd_i64 h0c
  clear h0x h0y h0z h0d h0k h0c
  have HX0 := hide (KBox.start w a0x a0y a0z a0d a0k a0c)
  obtain ⟨k0, k1, HS, HM⟩ := bb_both a0x a0y a0z a0d a0k a0c hD hC
  have HSP := hide HS
  have HIM := hide HM
  clear HS HM
  have hnek0 : (k0 != k0) = false := by simp
  have hnek1 : (k1 != k1) = false := by simp
  go_enter Try.func9, Try.ntmps9
  go_wp2_with fail
  refine (toLayout a0x a0y a0z a0d a0k a0c _).mono ?_
  rintro e w1 ⟨rfl, hb1⟩
  have HX1 := hide (HX0.out.next hb1)
  clear hb1
  obtain ⟨b0, b1, b2, b3, b4, b5⟩ := HX1.out.cells
  go_wp2_with fail
  refine (HSP.out _).mono ?_
  rintro e w2 ⟨rfl, hb2⟩
  have HX2 := hide (HX1.out.next hb2)
  clear hb2
  clear b0 b1 b2 b3 b4 b5
  obtain ⟨b0, b1, b2, b3, b4, b5⟩ := HX2.out.cells
  go_wp2_with fail
  refine (toLayout a0x a0y a0z a0d a0k a0c _).mono ?_
  rintro e w3 ⟨rfl, hb3⟩
  have HX3 := hide (HX2.out.next hb3)
  clear hb3
  clear b0 b1 b2 b3 b4 b5
  obtain ⟨b0, b1, b2, b3, b4, b5⟩ := HX3.out.cells
  go_wp2_with fail
  refine (HIM.out _).mono ?_
  rintro e w4 ⟨rfl, hb4⟩
  have HX4 := hide (HX3.out.next hb4)
  clear hb4
  clear b0 b1 b2 b3 b4 b5
  obtain ⟨b0, b1, b2, b3, b4, b5⟩ := HX4.out.cells
  go_wp2_with fail
  go_ret
  exact ⟨rfl, HX4.out.2⟩
end Go.Proofs.Ytkdpkbnhckpnoaa
