/-
  The walk of the law FnExactStringOfBits: it returns true, and nothing that was there before is changed.
-/
import Derived.Test.YtfjagcalfnjddaaShell
import Derived.Test.YtfjagcalfnjddaaStr2
import Derived.Test.YtfjagcalfnjddaaLawKit
namespace Go.Proofs.Ytfjagcalfnjddaa
open Go.RowKit
set_option linter.unusedVariables false

set_option maxHeartbeats 1000000 in
theorem fnExactStringOfBitsWalk (a0 : Option Addr) (n0 c0 : Nat) (z0 : List Int) (w : World) (h0 : Came .i64 w a0 n0 c0 z0) :
    Calls Try.prog 10 #[.slice a0 n0 c0] w fun e w' => e = .returned (.bool true) ∧ Below w.heap.size w w' := by
  obtain ⟨hI0, hnc0, hcm0, hwf0⟩ := h0
  have HI0 := hide hI0
  have HW0 := hide hwf0
  obtain rfl : z0.length = n0 := hI0.len
  clear hI0 hwf0
  unfold maxLen at hcm0
  by_cases hbig0 : 1048576 < z0.length
  · go_enter Try.func10, Try.ntmps10
    go_wp2_with fail
    go_ret
    exact ⟨rfl, Below.refl _ _⟩
  have hn0 : z0.length ≤ 1099511627776 := by omega
  have HB0 := hide (Below.refl w.heap.size w)
  go_enter Try.func10, Try.ntmps10
  go_wp2_with fail
  refine (toInts a0 _ c0 z0 w ((HI0.out.below HB0).more HB0.out.size) hn0).mono ?_
  rintro e w1 ⟨AP0, cP0, rfl, hcP0, ho1, hb1⟩
  have HB1 := hide (HB0.out.trans (hb1.mono HB0.out.size))
  have HOP0_1 := hide ho1
  clear ho1
  clear hb1
  go_wp2_with fail
  refine (specStringOf AP0 _ cP0 _ z0 w1 HOP0_1.out.ints (Nat.le_refl _) hn0).mono ?_
  rintro e w2 ⟨rfl, hb2⟩
  have HB2 := hide (HB1.out.trans (hb2.mono HB1.out.size))
  have HOP0_2 := hide (HOP0_1.out.below hb2 (Nat.le_refl _))
  clear HOP0_1
  clear hb2
  go_wp2_with fail
  refine (toInts a0 _ c0 z0 w2 ((HI0.out.below HB2).more HB2.out.size) hn0).mono ?_
  rintro e w3 ⟨AX0, cX0, rfl, hcX0, ho3, hb3⟩
  have HB3 := hide (HB2.out.trans (hb3.mono HB2.out.size))
  have HOX0_3 := hide ho3
  clear ho3
  clear hb3
  go_wp2_with fail
  refine (implStringOf AX0 _ cX0 _ z0 w3 HOX0_3.out.ints (Nat.le_refl _) hn0 hcX0 HOX0_3.out.cap).mono ?_
  rintro e w4 ⟨rfl, hb4⟩
  have HB4 := hide (HB3.out.trans (hb4.mono HB3.out.size))
  have HOX0_4 := hide (HOX0_3.out.below hb4 (Nat.le_refl _))
  clear HOX0_3
  clear hb4
  go_wp2_with fail
  refine (toInts a0 _ c0 z0 w4 ((HI0.out.below HB4).more HB4.out.size) hn0).mono ?_
  rintro e w5 ⟨AQ0, cQ0, rfl, hcQ0, ho5, hb5⟩
  have HB5 := hide (HB4.out.trans (hb5.mono HB4.out.size))
  have NX0Q0 := hide (HOX0_4.out.ne ho5 (Nat.le_refl _))
  have NQ0X0 := hide (HOX0_4.out.ne' ho5 (Nat.le_refl _))
  have HOX0_5 := hide (HOX0_4.out.below hb5 (Nat.le_refl _))
  clear HOX0_4
  have HOQ0_5 := hide ho5
  clear ho5
  clear hb5
  go_wp2_with fail
  refine (eqSame AX0 _ cX0 _ AQ0 _ cQ0 _ z0 w5 HOX0_5.out.ints HOQ0_5.out.ints hn0).mono ?_
  rintro e w6 ⟨rfl, hb6⟩
  have HB6 := hide (HB5.out.trans (hb6.mono HB5.out.size))
  have HOX0_6 := hide (HOX0_5.out.below hb6 (Nat.le_refl _))
  clear HOX0_5
  have HOQ0_6 := hide (HOQ0_5.out.below hb6 (Nat.le_refl _))
  clear HOQ0_5
  clear hb6
  go_wp2_with fail
  go_ret
  exact ⟨rfl, HB6⟩
end Go.Proofs.Ytfjagcalfnjddaa
