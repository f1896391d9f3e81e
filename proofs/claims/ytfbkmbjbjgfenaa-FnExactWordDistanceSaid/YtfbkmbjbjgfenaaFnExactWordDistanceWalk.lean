/-
  The walk of the law FnExactWordDistance: it returns true, and nothing that was there before is changed.
  Condition: none.
-/
import Derived.Test.YtfbkmbjbjgfenaaCBoth4
import Derived.Test.YtfbkmbjbjgfenaaCLaw
import Derived.Test.YtfbkmbjbjgfenaaJH
namespace Go.Proofs.Ytfbkmbjbjgfenaa
open Go.RowKit
set_option linter.unusedVariables false

set_option maxRecDepth 100000 in
set_option maxHeartbeats 4000000 in
theorem fnExactWordDistanceWalk (a0 : Option Addr) (n0 c0 : Nat) (z0 : List Int) (a1 : Option Addr) (n1 c1 : Nat) (z1 : List Int) (w : World) (h0 : Came .i64 w a0 n0 c0 z0) (h1 : Came .i64 w a1 n1 c1 z1) :
    Calls Try.prog 13 #[.slice a0 n0 c0, .slice a1 n1 c1] w fun e w' => e = .returned (.bool true) ∧ Below w.heap.size w w' := by
  have HX0 := hide (NBox.start w)
  obtain ⟨hI0, hnc0, hcm0, hwf0⟩ := h0
  have HI0 := hide hI0
  obtain rfl : z0.length = n0 := hI0.len
  clear hI0 hwf0
  unfold maxLen at hcm0
  obtain ⟨hI1, hnc1, hcm1, hwf1⟩ := h1
  have HI1 := hide hI1
  obtain rfl : z1.length = n1 := hI1.len
  clear hI1 hwf1
  unfold maxLen at hcm1
  by_cases hbig0 : 1048576 < z0.length
  · go_enter Try.func13, Try.ntmps13
    go_wp2_with fail
    go_ret
    exact ⟨rfl, HX0.out.2⟩
  have hn0 : z0.length ≤ 1048576 := by omega
  by_cases hbig1 : 1048576 < z1.length
  · go_enter Try.func13, Try.ntmps13
    go_wp2_with fail
    go_ret
    exact ⟨rfl, HX0.out.2⟩
  have hn1 : z1.length ≤ 1048576 := by omega
  obtain ⟨k0, k1, HS, HM⟩ := dist_ex z0 z1 hn0 hn1
  have HSP := hide HS
  have HIM := hide HM
  clear HS HM
  have hnek0 : (k0 != k0) = false := by simp
  have hnek1 : (k1 != k1) = false := by simp
  go_enter Try.func13, Try.ntmps13
  go_wp2_with fail
  refine (toInts a0 _ c0 z0 _ ((HI0.out.below HX0.out.2).more HX0.out.2.size) (by omega)).mono ?_
  rintro e w1 ⟨AP0, cP0, rfl, hcP0, hoP0, hb1⟩
  have HX1 := hide (HX0.out.next hb1)
  have HOP0_1 := hide hoP0
  clear hoP0
  clear hb1
  go_wp2_with fail
  refine (toInts a1 _ c1 z1 _ ((HI1.out.below HX1.out.2).more HX1.out.2.size) (by omega)).mono ?_
  rintro e w2 ⟨AP1, cP1, rfl, hcP1, hoP1, hb2⟩
  have HX2 := hide (HX1.out.next hb2)
  have NP0P1 := hide (HOP0_1.out.ne hoP1 (Nat.le_refl _))
  have NP1P0 := hide (HOP0_1.out.ne' hoP1 (Nat.le_refl _))
  have HOP0_2 := hide (HOP0_1.out.below hb2 (Nat.le_refl _))
  clear HOP0_1
  have HOP1_2 := hide hoP1
  clear hoP1
  clear hb2
  go_wp2_with fail
  refine (HSP.out AP0 _ cP0 AP1 _ cP1 _ _ HOP0_2.out.ints HOP1_2.out.ints hcP0 hcP1 (Nat.le_refl _)).mono ?_
  rintro e w3 ⟨rfl, hb3⟩
  have HX3 := hide (HX2.out.next hb3)
  have HOP0_3 := hide (HOP0_2.out.below hb3 (Nat.le_refl _))
  clear HOP0_2
  have HOP1_3 := hide (HOP1_2.out.below hb3 (Nat.le_refl _))
  clear HOP1_2
  clear hb3
  go_wp2_with fail
  refine (toInts a0 _ c0 z0 _ ((HI0.out.below HX3.out.2).more HX3.out.2.size) (by omega)).mono ?_
  rintro e w4 ⟨AX0, cX0, rfl, hcX0, hoX0, hb4⟩
  have HX4 := hide (HX3.out.next hb4)
  have HOX0_4 := hide hoX0
  clear hoX0
  clear hb4
  go_wp2_with fail
  refine (toInts a1 _ c1 z1 _ ((HI1.out.below HX4.out.2).more HX4.out.2.size) (by omega)).mono ?_
  rintro e w5 ⟨AX1, cX1, rfl, hcX1, hoX1, hb5⟩
  have HX5 := hide (HX4.out.next hb5)
  have NX0X1 := hide (HOX0_4.out.ne hoX1 (Nat.le_refl _))
  have NX1X0 := hide (HOX0_4.out.ne' hoX1 (Nat.le_refl _))
  have HOX0_5 := hide (HOX0_4.out.below hb5 (Nat.le_refl _))
  clear HOX0_4
  have HOX1_5 := hide hoX1
  clear hoX1
  clear hb5
  go_wp2_with fail
  refine (HIM.out AX0 _ cX0 AX1 _ cX1 _ _ HOX0_5.out.ints HOX1_5.out.ints hcX0 hcX1 (Nat.le_refl _)).mono ?_
  rintro e w6 ⟨rfl, hb6⟩
  have HX6 := hide (HX5.out.next hb6)
  have HOX0_6 := hide (HOX0_5.out.below hb6 (Nat.le_refl _))
  clear HOX0_5
  have HOX1_6 := hide (HOX1_5.out.below hb6 (Nat.le_refl _))
  clear HOX1_5
  clear hb6
  go_wp2_with fail
  refine (toInts a0 _ c0 z0 _ ((HI0.out.below HX6.out.2).more HX6.out.2.size) (by omega)).mono ?_
  rintro e w7 ⟨AQ0, cQ0, rfl, hcQ0, hoQ0, hb7⟩
  have HX7 := hide (HX6.out.next hb7)
  have NX0Q0 := hide (HOX0_6.out.ne hoQ0 (Nat.le_refl _))
  have NQ0X0 := hide (HOX0_6.out.ne' hoQ0 (Nat.le_refl _))
  have NX1Q0 := hide (HOX1_6.out.ne hoQ0 (Nat.le_refl _))
  have NQ0X1 := hide (HOX1_6.out.ne' hoQ0 (Nat.le_refl _))
  have HOX0_7 := hide (HOX0_6.out.below hb7 (Nat.le_refl _))
  clear HOX0_6
  have HOX1_7 := hide (HOX1_6.out.below hb7 (Nat.le_refl _))
  clear HOX1_6
  have HOQ0_7 := hide hoQ0
  clear hoQ0
  clear hb7
  go_wp2_with fail
  refine (eqSame AX0 _ cX0 _ AQ0 _ cQ0 _ z0 _ HOX0_7.out.ints HOQ0_7.out.ints (by omega)).mono ?_
  rintro e w8 ⟨rfl, hb8⟩
  have HX8 := hide (HX7.out.next hb8)
  have HOX0_8 := hide (HOX0_7.out.below hb8 (Nat.le_refl _))
  clear HOX0_7
  have HOX1_8 := hide (HOX1_7.out.below hb8 (Nat.le_refl _))
  clear HOX1_7
  have HOQ0_8 := hide (HOQ0_7.out.below hb8 (Nat.le_refl _))
  clear HOQ0_7
  clear hb8
  go_wp2_with fail
  refine (toInts a1 _ c1 z1 _ ((HI1.out.below HX8.out.2).more HX8.out.2.size) (by omega)).mono ?_
  rintro e w9 ⟨AQ1, cQ1, rfl, hcQ1, hoQ1, hb9⟩
  have HX9 := hide (HX8.out.next hb9)
  have NX0Q1 := hide (HOX0_8.out.ne hoQ1 (Nat.le_refl _))
  have NQ1X0 := hide (HOX0_8.out.ne' hoQ1 (Nat.le_refl _))
  have NX1Q1 := hide (HOX1_8.out.ne hoQ1 (Nat.le_refl _))
  have NQ1X1 := hide (HOX1_8.out.ne' hoQ1 (Nat.le_refl _))
  have HOX0_9 := hide (HOX0_8.out.below hb9 (Nat.le_refl _))
  clear HOX0_8
  have HOX1_9 := hide (HOX1_8.out.below hb9 (Nat.le_refl _))
  clear HOX1_8
  have HOQ1_9 := hide hoQ1
  clear hoQ1
  clear hb9
  go_wp2_with fail
  refine (eqSame AX1 _ cX1 _ AQ1 _ cQ1 _ z1 _ HOX1_9.out.ints HOQ1_9.out.ints (by omega)).mono ?_
  rintro e w10 ⟨rfl, hb10⟩
  have HX10 := hide (HX9.out.next hb10)
  have HOX0_10 := hide (HOX0_9.out.below hb10 (Nat.le_refl _))
  clear HOX0_9
  have HOX1_10 := hide (HOX1_9.out.below hb10 (Nat.le_refl _))
  clear HOX1_9
  have HOQ1_10 := hide (HOQ1_9.out.below hb10 (Nat.le_refl _))
  clear HOQ1_9
  clear hb10
  go_wp2_with fail
  go_ret
  exact ⟨rfl, HX10.out.2⟩
end Go.Proofs.Ytfbkmbjbjgfenaa
