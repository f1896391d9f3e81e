/-
  The walk of the law FnExactSegmentLength: it returns true, and nothing that was there before is changed.
  Condition: none.
-/
import Derived.Test.YtlphodhecaagbaaSg9
import Derived.Test.YtlphodhecaagbaaSgLaw
import Derived.Test.YtlphodhecaagbaaSgShell
namespace Go.Proofs.Ytlphodhecaagbaa
open Go.RowKit
set_option linter.unusedVariables false

set_option maxRecDepth 100000 in
theorem fnExactSegmentLengthWalk (m : Int) (s : ByteArray) (w : World) (h0 : (Lit.int .i64 m).wf = true) (h1 : s.size ≤ maxLen) :
    Calls Try.prog 7 #[.agg #[.int .i64 m, .string s]] w fun e w' => e = .returned (.bool true) ∧ Below w.heap.size w w' := by
  clear h0
  have hne : (segL m (bytesI s) != segL m (bytesI s)) = false := by simp
  unfold maxLen at h1
  have HX := hide (SBox.start w 37 m s)
  obtain ⟨c0, c1⟩ := HX.out.cells
  by_cases hbig : s.size ≤ 1048576
  · have hwz : ¬ (1048576 - (s.size : Int)) < 0 := by omega
    go_enter Try.func7, Try.ntmps7
    go_wp2_with fail
    refine (szSeg_ok m s hbig _).mono ?_
    rintro e w1 ⟨rfl, hb1⟩
    have HX1 := hide (HX.out.next hb1)
    clear hb1 c0 c1
    obtain ⟨c0, c1⟩ := HX1.out.cells
    go_wp2_with fail
    refine (toSegment m s _).mono ?_
    rintro e w2 ⟨rfl, hb2⟩
    have HX2 := hide (HX1.out.next hb2)
    clear hb2 c0 c1
    go_wp2_with fail
    refine (specSegLen m s (by omega) _).mono ?_
    rintro e w3 ⟨rfl, hb3⟩
    have HX3 := hide (HX2.out.next hb3)
    clear hb3
    obtain ⟨c0, c1⟩ := HX3.out.cells
    go_wp2_with fail
    refine (toSegment m s _).mono ?_
    rintro e w4 ⟨rfl, hb4⟩
    have HX4 := hide (HX3.out.next hb4)
    clear hb4 c0 c1
    go_wp2_with fail
    refine (implSegLen m s (by omega) _).mono ?_
    rintro e w5 ⟨rfl, hb5⟩
    have HX5 := hide (HX4.out.next hb5)
    clear hb5
    go_wp2_with fail
    go_ret
    exact ⟨rfl, HX5.out.2⟩
  · go_enter Try.func7, Try.ntmps7
    go_wp2_with fail
    refine (szSeg_no m s hbig (by omega) _).mono ?_
    rintro e w1 ⟨rfl, hb1⟩
    have HX1 := hide (HX.out.next hb1)
    clear hb1 c0 c1
    go_wp2_with fail
    go_ret
    exact ⟨rfl, HX1.out.2⟩
end Go.Proofs.Ytlphodhecaagbaa
