/-
  The walk of the law FnExactPayloadSegments: it returns true, and nothing that was there before is changed.
  Condition: none.
-/
import Derived.Test.YthmpfnbcodolcaaPF
import Derived.Test.YthmpfnbcodolcaaSq5
import Derived.Test.YthmpfnbcodolcaaLawKit
import Derived.Test.YthmpfnbcodolcaaFLaw
import Derived.Test.YthmpfnbcodolcaaFShell
import Derived.Test.YthmpfnbcodolcaaMarks
namespace Go.Proofs.Ythmpfnbcodolcaa
open Go.RowKit
set_option linter.unusedVariables false

set_option maxRecDepth 100000 in
set_option maxHeartbeats 4000000 in
theorem fnExactPayloadSegmentsWalk (a0x a0y a0z : Int) (a1 : Option Addr) (n1 c1 : Nat) (z1 : List Int) (w : World) (h0x : (Lit.int .i64 a0x).wf = true) (h0y : (Lit.int .i64 a0y).wf = true) (h0z : (Lit.int .i64 a0z).wf = true) (h1 : Came .i64 w a1 n1 c1 z1) :
    Calls Try.prog 11 #[.agg #[.int .i64 a0x, .int .i64 a0y, .int .i64 a0z], .slice a1 n1 c1] w fun e w' => e = .returned (.bool true) ∧ Below w.heap.size w w' := by
  clear h0x h0y h0z
  have HX0 := hide (Box.start w 50 a0x a0y a0z)
  obtain ⟨hI1, hnc1, hcm1, hwf1⟩ := h1
  have HI1 := hide hI1
  obtain rfl : z1.length = n1 := hI1.len
  clear hI1 hwf1
  unfold maxLen at hcm1
  by_cases hbig1 : 1048576 < z1.length
  · go_enter Try.func11, Try.ntmps11
    go_wp2_with fail
    go_ret
    exact ⟨rfl, HX0.out.2⟩
  have hn1 : z1.length ≤ 1048576 := by omega
  obtain ⟨g0, M0, T0, k0, hlg0, HS, HM⟩ := pgs_both a0x a0y a0z z1 hn1
  have HSP := hide HS
  have HIM := hide HM
  clear HS HM
  obtain ⟨z, hz⟩ : ∃ z, 1 + 2 * g0 = z := ⟨_, rfl⟩
  have HZ := hide (show ((1 + 2 * g0 : Nat) : Int) = (z : Int) by omega)
  have hz0 : ¬ (z : Int) < 0 := by omega
  have hzz : ((z : Int) != (z : Int)) = false := by simp
  clear hz
  have hnek0 : (k0 != k0) = false := by simp
  go_enter Try.func11, Try.ntmps11
  go_wp2_with fail
  refine (toField a0x a0y a0z _).mono ?_
  rintro e w1 ⟨rfl, hb1⟩
  have HX1 := hide (HX0.out.next hb1)
  clear hb1
  obtain ⟨b0, b1, b2⟩ := HX1.out.cells
  go_wp2_with fail
  refine (toInts a1 _ c1 z1 _ ((HI1.out.below HX1.out.2).more HX1.out.2.size) (by omega)).mono ?_
  rintro e w2 ⟨AP1, cP1, rfl, hcP1, hoP1, hb2⟩
  have HX2 := hide (HX1.out.next hb2)
  have HOP1_2 := hide hoP1
  clear hoP1
  clear hb2
  clear b0 b1 b2
  obtain ⟨b0, b1, b2⟩ := HX2.out.cells
  go_wp2_with fail
  refine (HSP.out AP1 _ cP1 _ _ HOP1_2.out.ints (Nat.le_refl _)).mono ?_
  rintro e w3 ⟨AW0, cW0, rfl, hcW0, hcmW0, hoW0, hb3⟩
  have HX3 := hide (HX2.out.next hb3)
  have NP1W0 := hide (apart_lt (fun g hg => (HOP1_2.out.lt hg).2) (fun g hg => (hoW0.lt hg).1)).1
  have NW0P1 := hide (apart_lt (fun g hg => (HOP1_2.out.lt hg).2) (fun g hg => (hoW0.lt hg).1)).2
  have HOP1_3 := hide (HOP1_2.out.below hb3 (Nat.le_refl _))
  clear HOP1_2
  have HOW0_3 := hide hoW0
  clear hoW0
  clear hb3
  clear b0 b1 b2
  obtain ⟨b0, b1, b2⟩ := HX3.out.cells
  go_wp2_with fail
  refine (toInts a1 _ c1 z1 _ ((HI1.out.below HX3.out.2).more HX3.out.2.size) (by omega)).mono ?_
  rintro e w4 ⟨AX1, cX1, rfl, hcX1, hoX1, hb4⟩
  have HX4 := hide (HX3.out.next hb4)
  have NW0X1 := hide (apart_lt (fun g hg => (HOW0_3.out.lt hg).2) (fun g hg => (hoX1.lt hg).1)).1
  have NX1W0 := hide (apart_lt (fun g hg => (HOW0_3.out.lt hg).2) (fun g hg => (hoX1.lt hg).1)).2
  have HOW0_4 := hide (HOW0_3.out.below hb4 (Nat.le_refl _))
  clear HOW0_3
  have HOX1_4 := hide hoX1
  clear hoX1
  clear hb4
  clear b0 b1 b2
  obtain ⟨b0, b1, b2⟩ := HX4.out.cells
  go_wp2_with fail
  refine (toField a0x a0y a0z _).mono ?_
  rintro e w5 ⟨rfl, hb5⟩
  have HX5 := hide (HX4.out.next hb5)
  have HOW0_5 := hide (HOW0_4.out.below hb5 (Nat.le_refl _))
  clear HOW0_4
  have HOX1_5 := hide (HOX1_4.out.below hb5 (Nat.le_refl _))
  clear HOX1_4
  clear hb5
  clear b0 b1 b2
  obtain ⟨b0, b1, b2⟩ := HX5.out.cells
  go_wp2_with fail
  refine (HIM.out AX1 _ cX1 _ _ HOX1_5.out.ints (Nat.le_refl _)).mono ?_
  rintro e w6 ⟨AG0, cG0, rfl, hcG0, hcmG0, hoG0, hb6⟩
  have HX6 := hide (HX5.out.next hb6)
  have NW0G0 := hide (apart_lt (fun g hg => (HOW0_5.out.lt hg).2) (fun g hg => (hoG0.lt hg).1)).1
  have NG0W0 := hide (apart_lt (fun g hg => (HOW0_5.out.lt hg).2) (fun g hg => (hoG0.lt hg).1)).2
  have NX1G0 := hide (apart_lt (fun g hg => (HOX1_5.out.lt hg).2) (fun g hg => (hoG0.lt hg).1)).1
  have NG0X1 := hide (apart_lt (fun g hg => (HOX1_5.out.lt hg).2) (fun g hg => (hoG0.lt hg).1)).2
  have HOW0_6 := hide (HOW0_5.out.below hb6 (Nat.le_refl _))
  clear HOW0_5
  have HOX1_6 := hide (HOX1_5.out.below hb6 (Nat.le_refl _))
  clear HOX1_5
  have HOG0_6 := hide hoG0
  clear hoG0
  clear hb6
  clear b0 b1 b2
  obtain ⟨b0, b1, b2⟩ := HX6.out.cells
  go_wp2_with fail
  refine (eqSegS_same AG0 AW0 g0 cG0 cW0 _ _ M0 T0 _ HOG0_6.out.segs HOW0_6.out.segs (Nat.le_refl _) (Nat.le_refl _) (by omega)).mono ?_
  rintro e w7 ⟨rfl, hb7⟩
  have HX7 := hide (HX6.out.next hb7)
  have HOW0_7 := hide (HOW0_6.out.below hb7 (Nat.le_refl _))
  clear HOW0_6
  have HOX1_7 := hide (HOX1_6.out.below hb7 (Nat.le_refl _))
  clear HOX1_6
  have HOG0_7 := hide (HOG0_6.out.below hb7 (Nat.le_refl _))
  clear HOG0_6
  clear hb7
  clear b0 b1 b2
  obtain ⟨b0, b1, b2⟩ := HX7.out.cells
  go_wp2_with fail
  refine (toInts a1 _ c1 z1 _ ((HI1.out.below HX7.out.2).more HX7.out.2.size) (by omega)).mono ?_
  rintro e w8 ⟨AQ1, cQ1, rfl, hcQ1, hoQ1, hb8⟩
  have HX8 := hide (HX7.out.next hb8)
  have NW0Q1 := hide (apart_lt (fun g hg => (HOW0_7.out.lt hg).2) (fun g hg => (hoQ1.lt hg).1)).1
  have NQ1W0 := hide (apart_lt (fun g hg => (HOW0_7.out.lt hg).2) (fun g hg => (hoQ1.lt hg).1)).2
  have NX1Q1 := hide (apart_lt (fun g hg => (HOX1_7.out.lt hg).2) (fun g hg => (hoQ1.lt hg).1)).1
  have NQ1X1 := hide (apart_lt (fun g hg => (HOX1_7.out.lt hg).2) (fun g hg => (hoQ1.lt hg).1)).2
  have NG0Q1 := hide (apart_lt (fun g hg => (HOG0_7.out.lt hg).2) (fun g hg => (hoQ1.lt hg).1)).1
  have NQ1G0 := hide (apart_lt (fun g hg => (HOG0_7.out.lt hg).2) (fun g hg => (hoQ1.lt hg).1)).2
  have HOW0_8 := hide (HOW0_7.out.below hb8 (Nat.le_refl _))
  clear HOW0_7
  have HOX1_8 := hide (HOX1_7.out.below hb8 (Nat.le_refl _))
  clear HOX1_7
  have HOG0_8 := hide (HOG0_7.out.below hb8 (Nat.le_refl _))
  clear HOG0_7
  have HOQ1_8 := hide hoQ1
  clear hoQ1
  clear hb8
  clear b0 b1 b2
  obtain ⟨b0, b1, b2⟩ := HX8.out.cells
  go_wp2_with fail
  refine (eqSame AX1 _ cX1 _ AQ1 _ cQ1 _ z1 _ HOX1_8.out.ints HOQ1_8.out.ints (by omega)).mono ?_
  rintro e w9 ⟨rfl, hb9⟩
  have HX9 := hide (HX8.out.next hb9)
  have HOW0_9 := hide (HOW0_8.out.below hb9 (Nat.le_refl _))
  clear HOW0_8
  have HOX1_9 := hide (HOX1_8.out.below hb9 (Nat.le_refl _))
  clear HOX1_8
  have HOG0_9 := hide (HOG0_8.out.below hb9 (Nat.le_refl _))
  clear HOG0_8
  have HOQ1_9 := hide (HOQ1_8.out.below hb9 (Nat.le_refl _))
  clear HOQ1_8
  clear hb9
  clear b0 b1 b2
  obtain ⟨b0, b1, b2⟩ := HX9.out.cells
  go_wp2_with fail
  refine (markInts' AX1 _ cX1 _ _ 1 z1 _ HOX1_9.out (by omega) (by omega) (by omega)).mono ?_
  rintro e w10 ⟨rfl, ho10, hg10⟩
  have HX10 := hide (HX9.out.grow' hg10 (fun g hg => Nat.lt_of_lt_of_le HX3.out.lt (HOX1_9.out.lt hg).1))
  have HOW0_10 := hide (HOW0_9.out.grown hg10 NW0X1.out)
  clear HOW0_9
  have HOG0_10 := hide (HOG0_9.out.grown hg10 NG0X1.out)
  clear HOG0_9
  have HOX1_10 := hide ho10
  clear ho10 hg10 HOX1_9
  clear b0 b1 b2
  obtain ⟨b0, b1, b2⟩ := HX10.out.cells
  go_wp2_with fail
  refine (eqSegS_same AG0 AW0 g0 cG0 cW0 _ _ M0 T0 _ HOG0_10.out.segs HOW0_10.out.segs (Nat.le_refl _) (Nat.le_refl _) (by omega)).mono ?_
  rintro e w11 ⟨rfl, hb11⟩
  have HX11 := hide (HX10.out.next hb11)
  have HOW0_11 := hide (HOW0_10.out.below hb11 (Nat.le_refl _))
  clear HOW0_10
  have HOX1_11 := hide (HOX1_10.out.below hb11 (Nat.le_refl _))
  clear HOX1_10
  have HOG0_11 := hide (HOG0_10.out.below hb11 (Nat.le_refl _))
  clear HOG0_10
  clear hb11
  clear b0 b1 b2
  obtain ⟨b0, b1, b2⟩ := HX11.out.cells
  go_wp2_with fail
  refine (markSegS AG0 g0 cG0 _ 1 _ _ HOG0_11.out (by omega) (by omega) (by omega)).mono ?_
  rintro e w12 ⟨he12, ho12, hg12⟩
  rw [HZ.out] at he12
  subst he12
  have HX12 := hide (HX11.out.grow' hg12 (fun g hg => Nat.lt_of_lt_of_le HX5.out.lt (HOG0_11.out.lt hg).1))
  have HOW0_12 := hide (HOW0_11.out.grown hg12 NW0G0.out)
  clear HOW0_11
  have HOX1_12 := hide (HOX1_11.out.grown hg12 NX1G0.out)
  clear HOX1_11
  have HOG0_12 := hide ho12
  clear ho12 hg12 HOG0_11
  clear b0 b1 b2
  obtain ⟨b0, b1, b2⟩ := HX12.out.cells
  go_wp2_with fail
  refine (heldSegS AG0 g0 cG0 _ 1 _ HOG0_12.out.segs (Nat.le_refl _) (by omega) (by omega) (by omega)).mono ?_
  rw [HZ.out]
  rintro e w13 ⟨rfl, hb13⟩
  have HX13 := hide (HX12.out.next hb13)
  have HOW0_13 := hide (HOW0_12.out.below hb13 (Nat.le_refl _))
  clear HOW0_12
  have HOX1_13 := hide (HOX1_12.out.below hb13 (Nat.le_refl _))
  clear HOX1_12
  have HOG0_13 := hide (HOG0_12.out.below hb13 (Nat.le_refl _))
  clear HOG0_12
  clear hb13
  clear b0 b1 b2
  obtain ⟨b0, b1, b2⟩ := HX13.out.cells
  go_wp2_with fail
  refine (toField a0x a0y a0z _).mono ?_
  rintro e w14 ⟨rfl, hb14⟩
  have HX14 := hide (HX13.out.next hb14)
  have HOW0_14 := hide (HOW0_13.out.below hb14 (Nat.le_refl _))
  clear HOW0_13
  have HOX1_14 := hide (HOX1_13.out.below hb14 (Nat.le_refl _))
  clear HOX1_13
  have HOG0_14 := hide (HOG0_13.out.below hb14 (Nat.le_refl _))
  clear HOG0_13
  clear hb14
  clear b0 b1 b2
  obtain ⟨b0, b1, b2⟩ := HX14.out.cells
  go_wp2_with fail
  refine (toInts a1 _ c1 z1 _ ((HI1.out.below HX14.out.2).more HX14.out.2.size) (by omega)).mono ?_
  rintro e w15 ⟨AR1, cR1, rfl, hcR1, hoR1, hb15⟩
  have HX15 := hide (HX14.out.next hb15)
  have NW0R1 := hide (apart_lt (fun g hg => (HOW0_14.out.lt hg).2) (fun g hg => (hoR1.lt hg).1)).1
  have NR1W0 := hide (apart_lt (fun g hg => (HOW0_14.out.lt hg).2) (fun g hg => (hoR1.lt hg).1)).2
  have NX1R1 := hide (apart_lt (fun g hg => (HOX1_14.out.lt hg).2) (fun g hg => (hoR1.lt hg).1)).1
  have NR1X1 := hide (apart_lt (fun g hg => (HOX1_14.out.lt hg).2) (fun g hg => (hoR1.lt hg).1)).2
  have NG0R1 := hide (apart_lt (fun g hg => (HOG0_14.out.lt hg).2) (fun g hg => (hoR1.lt hg).1)).1
  have NR1G0 := hide (apart_lt (fun g hg => (HOG0_14.out.lt hg).2) (fun g hg => (hoR1.lt hg).1)).2
  have HOW0_15 := hide (HOW0_14.out.below hb15 (Nat.le_refl _))
  clear HOW0_14
  have HOX1_15 := hide (HOX1_14.out.below hb15 (Nat.le_refl _))
  clear HOX1_14
  have HOG0_15 := hide (HOG0_14.out.below hb15 (Nat.le_refl _))
  clear HOG0_14
  have HOR1_15 := hide hoR1
  clear hoR1
  clear hb15
  clear b0 b1 b2
  obtain ⟨b0, b1, b2⟩ := HX15.out.cells
  go_wp2_with fail
  refine (HIM.out AR1 _ cR1 _ _ HOR1_15.out.ints (Nat.le_refl _)).mono ?_
  rintro e w16 ⟨AH0, cH0, rfl, hcH0, hcmH0, hoH0, hb16⟩
  have HX16 := hide (HX15.out.next hb16)
  have NW0H0 := hide (apart_lt (fun g hg => (HOW0_15.out.lt hg).2) (fun g hg => (hoH0.lt hg).1)).1
  have NH0W0 := hide (apart_lt (fun g hg => (HOW0_15.out.lt hg).2) (fun g hg => (hoH0.lt hg).1)).2
  have NX1H0 := hide (apart_lt (fun g hg => (HOX1_15.out.lt hg).2) (fun g hg => (hoH0.lt hg).1)).1
  have NH0X1 := hide (apart_lt (fun g hg => (HOX1_15.out.lt hg).2) (fun g hg => (hoH0.lt hg).1)).2
  have NG0H0 := hide (apart_lt (fun g hg => (HOG0_15.out.lt hg).2) (fun g hg => (hoH0.lt hg).1)).1
  have NH0G0 := hide (apart_lt (fun g hg => (HOG0_15.out.lt hg).2) (fun g hg => (hoH0.lt hg).1)).2
  have NR1H0 := hide (apart_lt (fun g hg => (HOR1_15.out.lt hg).2) (fun g hg => (hoH0.lt hg).1)).1
  have NH0R1 := hide (apart_lt (fun g hg => (HOR1_15.out.lt hg).2) (fun g hg => (hoH0.lt hg).1)).2
  have HOW0_16 := hide (HOW0_15.out.below hb16 (Nat.le_refl _))
  clear HOW0_15
  have HOX1_16 := hide (HOX1_15.out.below hb16 (Nat.le_refl _))
  clear HOX1_15
  have HOG0_16 := hide (HOG0_15.out.below hb16 (Nat.le_refl _))
  clear HOG0_15
  have HOR1_16 := hide (HOR1_15.out.below hb16 (Nat.le_refl _))
  clear HOR1_15
  have HOH0_16 := hide hoH0
  clear hoH0
  clear hb16
  clear b0 b1 b2
  obtain ⟨b0, b1, b2⟩ := HX16.out.cells
  go_wp2_with fail
  refine (eqSegS_same AH0 AW0 g0 cH0 cW0 _ _ M0 T0 _ HOH0_16.out.segs HOW0_16.out.segs (Nat.le_refl _) (Nat.le_refl _) (by omega)).mono ?_
  rintro e w17 ⟨rfl, hb17⟩
  have HX17 := hide (HX16.out.next hb17)
  have HOW0_17 := hide (HOW0_16.out.below hb17 (Nat.le_refl _))
  clear HOW0_16
  have HOX1_17 := hide (HOX1_16.out.below hb17 (Nat.le_refl _))
  clear HOX1_16
  have HOG0_17 := hide (HOG0_16.out.below hb17 (Nat.le_refl _))
  clear HOG0_16
  have HOR1_17 := hide (HOR1_16.out.below hb17 (Nat.le_refl _))
  clear HOR1_16
  have HOH0_17 := hide (HOH0_16.out.below hb17 (Nat.le_refl _))
  clear HOH0_16
  clear hb17
  clear b0 b1 b2
  obtain ⟨b0, b1, b2⟩ := HX17.out.cells
  go_wp2_with fail
  refine (heldSegS AG0 g0 cG0 _ 1 _ HOG0_17.out.segs (Nat.le_refl _) (by omega) (by omega) (by omega)).mono ?_
  rw [HZ.out]
  rintro e w18 ⟨rfl, hb18⟩
  have HX18 := hide (HX17.out.next hb18)
  have HOW0_18 := hide (HOW0_17.out.below hb18 (Nat.le_refl _))
  clear HOW0_17
  have HOX1_18 := hide (HOX1_17.out.below hb18 (Nat.le_refl _))
  clear HOX1_17
  have HOG0_18 := hide (HOG0_17.out.below hb18 (Nat.le_refl _))
  clear HOG0_17
  have HOR1_18 := hide (HOR1_17.out.below hb18 (Nat.le_refl _))
  clear HOR1_17
  have HOH0_18 := hide (HOH0_17.out.below hb18 (Nat.le_refl _))
  clear HOH0_17
  clear hb18
  clear b0 b1 b2
  obtain ⟨b0, b1, b2⟩ := HX18.out.cells
  go_wp2_with fail
  go_ret
  exact ⟨rfl, HX18.out.2⟩
end Go.Proofs.Ythmpfnbcodolcaa
