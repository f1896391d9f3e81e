/-
  The walk of the law FnExactBitDistance: it returns true, and nothing that was there before is changed.
-/
import Derived.Test.YtfjagcalfnjddaaShell
import Derived.Test.YtfjagcalfnjddaaDist
import Derived.Test.YtfjagcalfnjddaaLawKit
namespace Go.Proofs.Ytfjagcalfnjddaa
open Go.RowKit
set_option linter.unusedVariables false

set_option maxHeartbeats 1000000 in
theorem fnExactBitDistanceWalk (a0 : Option Addr) (n0 c0 : Nat) (z0 : List Int) (a1 : Option Addr) (n1 c1 : Nat) (z1 : List Int) (w : World) (h0 : Came .i64 w a0 n0 c0 z0) (h1 : Came .i64 w a1 n1 c1 z1) :
    Calls Try.prog 11 #[.slice a0 n0 c0, .slice a1 n1 c1] w fun e w' => e = .returned (.bool true) ∧ Below w.heap.size w w' := by
  obtain ⟨hI0, hnc0, hcm0, hwf0⟩ := h0
  have HI0 := hide hI0
  have HW0 := hide hwf0
  obtain rfl : z0.length = n0 := hI0.len
  clear hI0 hwf0
  unfold maxLen at hcm0
  obtain ⟨hI1, hnc1, hcm1, hwf1⟩ := h1
  have HI1 := hide hI1
  have HW1 := hide hwf1
  obtain rfl : z1.length = n1 := hI1.len
  clear hI1 hwf1
  unfold maxLen at hcm1
  by_cases hbig0 : 1048576 < z0.length
  · go_enter Try.func11, Try.ntmps11
    go_wp2_with fail
    go_ret
    exact ⟨rfl, Below.refl _ _⟩
  have hn0 : z0.length ≤ 1099511627776 := by omega
  by_cases hbig1 : 1048576 < z1.length
  · go_enter Try.func11, Try.ntmps11
    go_wp2_with fail
    go_ret
    exact ⟨rfl, Below.refl _ _⟩
  have hn1 : z1.length ≤ 1099511627776 := by omega
  have HB0 := hide (Below.refl w.heap.size w)
  go_enter Try.func11, Try.ntmps11
  go_wp2_with fail
  refine (toInts a0 _ c0 z0 w ((HI0.out.below HB0).more HB0.out.size) hn0).mono ?_
  rintro e w1 ⟨AP0, cP0, rfl, hcP0, ho1, hb1⟩
  have HB1 := hide (HB0.out.trans (hb1.mono HB0.out.size))
  have HOP0_1 := hide ho1
  clear ho1
  clear hb1
  go_wp2_with fail
  refine (toInts a1 _ c1 z1 w1 ((HI1.out.below HB1).more HB1.out.size) hn1).mono ?_
  rintro e w2 ⟨AP1, cP1, rfl, hcP1, ho2, hb2⟩
  have HB2 := hide (HB1.out.trans (hb2.mono HB1.out.size))
  have NP0P1 := hide (HOP0_1.out.ne ho2 (Nat.le_refl _))
  have NP1P0 := hide (HOP0_1.out.ne' ho2 (Nat.le_refl _))
  have HOP0_2 := hide (HOP0_1.out.below hb2 (Nat.le_refl _))
  clear HOP0_1
  have HOP1_2 := hide ho2
  clear ho2
  clear hb2
  go_wp2_with fail
  refine (specDist AP0 _ cP0 _ z0 AP1 _ cP1 _ z1 w2 HOP0_2.out.ints HOP1_2.out.ints hn0 hn1).mono ?_
  rintro e w3 ⟨rfl, hb3⟩
  have HB3 := hide (HB2.out.trans (hb3.mono HB2.out.size))
  have HOP0_3 := hide (HOP0_2.out.below hb3 (Nat.le_refl _))
  clear HOP0_2
  have HOP1_3 := hide (HOP1_2.out.below hb3 (Nat.le_refl _))
  clear HOP1_2
  clear hb3
  go_wp2_with fail
  refine (toInts a0 _ c0 z0 w3 ((HI0.out.below HB3).more HB3.out.size) hn0).mono ?_
  rintro e w4 ⟨AX0, cX0, rfl, hcX0, ho4, hb4⟩
  have HB4 := hide (HB3.out.trans (hb4.mono HB3.out.size))
  have HOX0_4 := hide ho4
  clear ho4
  clear hb4
  go_wp2_with fail
  refine (toInts a1 _ c1 z1 w4 ((HI1.out.below HB4).more HB4.out.size) hn1).mono ?_
  rintro e w5 ⟨AX1, cX1, rfl, hcX1, ho5, hb5⟩
  have HB5 := hide (HB4.out.trans (hb5.mono HB4.out.size))
  have NX0X1 := hide (HOX0_4.out.ne ho5 (Nat.le_refl _))
  have NX1X0 := hide (HOX0_4.out.ne' ho5 (Nat.le_refl _))
  have HOX0_5 := hide (HOX0_4.out.below hb5 (Nat.le_refl _))
  clear HOX0_4
  have HOX1_5 := hide ho5
  clear ho5
  clear hb5
  go_wp2_with fail
  refine (implDist AX0 _ cX0 _ z0 AX1 _ cX1 _ z1 w5 HOX0_5.out.ints HOX1_5.out.ints hn0 hn1).mono ?_
  rintro e w6 ⟨rfl, hb6⟩
  have HB6 := hide (HB5.out.trans (hb6.mono HB5.out.size))
  have HOX0_6 := hide (HOX0_5.out.below hb6 (Nat.le_refl _))
  clear HOX0_5
  have HOX1_6 := hide (HOX1_5.out.below hb6 (Nat.le_refl _))
  clear HOX1_5
  clear hb6
  go_wp2_with fail
  refine (toInts a0 _ c0 z0 w6 ((HI0.out.below HB6).more HB6.out.size) hn0).mono ?_
  rintro e w7 ⟨AQ0, cQ0, rfl, hcQ0, ho7, hb7⟩
  have HB7 := hide (HB6.out.trans (hb7.mono HB6.out.size))
  have NX0Q0 := hide (HOX0_6.out.ne ho7 (Nat.le_refl _))
  have NQ0X0 := hide (HOX0_6.out.ne' ho7 (Nat.le_refl _))
  have NX1Q0 := hide (HOX1_6.out.ne ho7 (Nat.le_refl _))
  have NQ0X1 := hide (HOX1_6.out.ne' ho7 (Nat.le_refl _))
  have HOX0_7 := hide (HOX0_6.out.below hb7 (Nat.le_refl _))
  clear HOX0_6
  have HOX1_7 := hide (HOX1_6.out.below hb7 (Nat.le_refl _))
  clear HOX1_6
  have HOQ0_7 := hide ho7
  clear ho7
  clear hb7
  go_wp2_with fail
  refine (eqSame AX0 _ cX0 _ AQ0 _ cQ0 _ z0 w7 HOX0_7.out.ints HOQ0_7.out.ints hn0).mono ?_
  rintro e w8 ⟨rfl, hb8⟩
  have HB8 := hide (HB7.out.trans (hb8.mono HB7.out.size))
  have HOX0_8 := hide (HOX0_7.out.below hb8 (Nat.le_refl _))
  clear HOX0_7
  have HOX1_8 := hide (HOX1_7.out.below hb8 (Nat.le_refl _))
  clear HOX1_7
  have HOQ0_8 := hide (HOQ0_7.out.below hb8 (Nat.le_refl _))
  clear HOQ0_7
  clear hb8
  go_wp2_with fail
  refine (toInts a1 _ c1 z1 w8 ((HI1.out.below HB8).more HB8.out.size) hn1).mono ?_
  rintro e w9 ⟨AQ1, cQ1, rfl, hcQ1, ho9, hb9⟩
  have HB9 := hide (HB8.out.trans (hb9.mono HB8.out.size))
  have NX0Q1 := hide (HOX0_8.out.ne ho9 (Nat.le_refl _))
  have NQ1X0 := hide (HOX0_8.out.ne' ho9 (Nat.le_refl _))
  have NX1Q1 := hide (HOX1_8.out.ne ho9 (Nat.le_refl _))
  have NQ1X1 := hide (HOX1_8.out.ne' ho9 (Nat.le_refl _))
  have HOX0_9 := hide (HOX0_8.out.below hb9 (Nat.le_refl _))
  clear HOX0_8
  have HOX1_9 := hide (HOX1_8.out.below hb9 (Nat.le_refl _))
  clear HOX1_8
  have HOQ1_9 := hide ho9
  clear ho9
  clear hb9
  go_wp2_with fail
  refine (eqSame AX1 _ cX1 _ AQ1 _ cQ1 _ z1 w9 HOX1_9.out.ints HOQ1_9.out.ints hn1).mono ?_
  rintro e w10 ⟨rfl, hb10⟩
  have HB10 := hide (HB9.out.trans (hb10.mono HB9.out.size))
  have HOX0_10 := hide (HOX0_9.out.below hb10 (Nat.le_refl _))
  clear HOX0_9
  have HOX1_10 := hide (HOX1_9.out.below hb10 (Nat.le_refl _))
  clear HOX1_9
  have HOQ1_10 := hide (HOQ1_9.out.below hb10 (Nat.le_refl _))
  clear HOQ1_9
  clear hb10
  go_wp2_with fail
  go_ret
  exact ⟨rfl, HB10⟩
end Go.Proofs.Ytfjagcalfnjddaa
