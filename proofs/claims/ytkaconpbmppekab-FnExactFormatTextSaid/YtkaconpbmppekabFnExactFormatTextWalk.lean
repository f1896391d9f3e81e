/-
  The walk of the law FnExactFormatText: it returns true, and nothing that was there before is changed.
  Condition: none.
-/
import Derived.Test.YtkaconpbmppekabWdT
import Derived.Test.YtkaconpbmppekabLawKit
import Derived.Test.YtkaconpbmppekabWShell
import Derived.Test.YtkaconpbmppekabWLaw
namespace Go.Proofs.Ytkaconpbmppekab
open Go.RowKit
set_option linter.unusedVariables false

set_option maxRecDepth 100000 in
set_option maxHeartbeats 4000000 in
theorem fnExactFormatTextWalk (a0x a0y a0z : Int) (a1 : Int) (w : World) (h0x : (Lit.int .i64 a0x).wf = true) (h0y : (Lit.int .i64 a0y).wf = true) (h0z : (Lit.int .i64 a0z).wf = true) (h1 : (Lit.int .i64 a1).wf = true) :
    Calls Try.prog 3 #[.agg #[.int .i64 a0x, .int .i64 a0y, .int .i64 a0z], .int .i64 a1] w fun e w' => e = .returned (.bool true) ∧ Below w.heap.size w w' := by
  have hL := bd_i64 h0y
  clear h0x h0y h0z h1
  have HX0 := hide (Box.start w 23 a0x a0y a0z)
  obtain ⟨s, HS, HM⟩ := ft_both a0x a0y a0z a1 hL
  have HSP := hide HS
  have HIM := hide HM
  clear HS HM
  go_enter Try.func3, Try.ntmps3
  go_wp2_with fail
  refine (toFormatCode a0x a0y a0z _).mono ?_
  rintro e w1 ⟨rfl, hb1⟩
  have HX1 := hide (HX0.out.next hb1)
  clear hb1
  obtain ⟨b0, b1, b2⟩ := HX1.out.cells
  go_wp2_with fail
  refine (HSP.out _).mono ?_
  rintro e w2 ⟨rfl, hb2⟩
  have HX2 := hide (HX1.out.next hb2)
  clear hb2
  clear b0 b1 b2
  obtain ⟨b0, b1, b2⟩ := HX2.out.cells
  go_wp2_with fail
  refine (toFormatCode a0x a0y a0z _).mono ?_
  rintro e w3 ⟨rfl, hb3⟩
  have HX3 := hide (HX2.out.next hb3)
  clear hb3
  clear b0 b1 b2
  obtain ⟨b0, b1, b2⟩ := HX3.out.cells
  go_wp2_with fail
  refine (HIM.out _).mono ?_
  rintro e w4 ⟨rfl, hb4⟩
  have HX4 := hide (HX3.out.next hb4)
  clear hb4
  clear b0 b1 b2
  go_wp2_with fail
  go_ret
  exact ⟨rfl, HX4.out.2⟩
end Go.Proofs.Ytkaconpbmppekab
