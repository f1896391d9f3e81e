/-
  The walk of the law FnExactDecodeStream: it returns true, and nothing that was there before is changed.
  Condition: none.
-/
import Derived.Test.YtlphodhecaagbaaGreatJS
import Derived.Test.YtlphodhecaagbaaGreatYShell
import Derived.Test.YtlphodhecaagbaaGreatYLaw
namespace Go.Proofs.YtlphodhecaagbaaGreat
open Go.RowKit
set_option linter.unusedVariables false

set_option maxRecDepth 100000 in
set_option maxHeartbeats 4000000 in
theorem fnExactDecodeStreamWalk (a0x a0y a0z a0d a0k a0c : Int) (a1 : Option Addr) (n1 c1 : Nat) (z1 : List Int) (a2 : Option Addr) (n2 c2 : Nat) (z2 : List Int) (w : World) (h0x : (Lit.int .i64 a0x).wf = true) (h0y : (Lit.int .i64 a0y).wf = true) (h0z : (Lit.int .i64 a0z).wf = true) (h0d : (Lit.int .i64 a0d).wf = true) (h0k : (Lit.int .i64 a0k).wf = true) (h0c : (Lit.int .i64 a0c).wf = true) (h1 : Came .i64 w a1 n1 c1 z1) (h2 : Came .i64 w a2 n2 c2 z2) :
    Calls Tryz.prog 5 #[.agg #[.int .i64 a0x, .int .i64 a0y, .int .i64 a0z, .int .i64 a0d, .int .i64 a0k, .int .i64 a0c], .slice a1 n1 c1, .slice a2 n2 c2] w fun e w' => e = .returned (.bool true) ∧ Below w.heap.size w w' := by
  have hD := bd_i64 h0d
  have hC := bd_i64 h0c
  clear h0x h0y h0z h0d h0k h0c
  have HX0 := hide (KBox.start w a0x a0y a0z a0d a0k a0c)
  obtain ⟨hI1, hnc1, hcm1, hwf1⟩ := h1
  have HI1 := hide hI1
  obtain rfl : z1.length = n1 := hI1.len
  clear hI1 hwf1
  unfold maxLen at hcm1
  obtain ⟨hI2, hnc2, hcm2, hwf2⟩ := h2
  have HI2 := hide hI2
  obtain rfl : z2.length = n2 := hI2.len
  clear hI2 hwf2
  unfold maxLen at hcm2
  by_cases hbig1 : 1048576 < z1.length
  · go_enter Tryz.func5, Tryz.ntmps5
    go_wp2_with fail
    go_ret
    exact ⟨rfl, HX0.out.2⟩
  have hn1 : z1.length ≤ 1048576 := by omega
  by_cases hbig2 : 1048576 < z2.length
  · go_enter Tryz.func5, Tryz.ntmps5
    go_wp2_with fail
    go_ret
    exact ⟨rfl, HX0.out.2⟩
  have hn2 : z2.length ≤ 1048576 := by omega
  obtain ⟨r0, k0, k1, hlr0, HS, HM⟩ := ds_both a0x a0y a0z a0d a0k a0c z1 z2 hn1 hn2 hD hC
  have HSP := hide HS
  have HIM := hide HM
  clear HS HM
  have hnek0 : (k0 != k0) = false := by simp
  have hnek1 : (k1 != k1) = false := by simp
  go_enter Tryz.func5, Tryz.ntmps5
  go_wp2_with fail
  refine (toLayout a0x a0y a0z a0d a0k a0c _).mono ?_
  rintro e w1 ⟨rfl, hb1⟩
  have HX1 := hide (HX0.out.next hb1)
  clear hb1
  obtain ⟨b0, b1, b2, b3, b4, b5⟩ := HX1.out.cells
  go_wp2_with fail
  refine (toInts a1 _ c1 z1 _ ((HI1.out.below HX1.out.2).more HX1.out.2.size) (by omega)).mono ?_
  rintro e w2 ⟨AP1, cP1, rfl, hcP1, hoP1, hb2⟩
  have HX2 := hide (HX1.out.next hb2)
  have HOP1_2 := hide hoP1
  clear hoP1
  clear hb2
  clear b0 b1 b2 b3 b4 b5
  obtain ⟨b0, b1, b2, b3, b4, b5⟩ := HX2.out.cells
  go_wp2_with fail
  refine (toInts a2 _ c2 z2 _ ((HI2.out.below HX2.out.2).more HX2.out.2.size) (by omega)).mono ?_
  rintro e w3 ⟨AP2, cP2, rfl, hcP2, hoP2, hb3⟩
  have HX3 := hide (HX2.out.next hb3)
  have NP1P2 := hide (HOP1_2.out.ne hoP2 (Nat.le_refl _))
  have NP2P1 := hide (HOP1_2.out.ne' hoP2 (Nat.le_refl _))
  have HOP1_3 := hide (HOP1_2.out.below hb3 (Nat.le_refl _))
  clear HOP1_2
  have HOP2_3 := hide hoP2
  clear hoP2
  clear hb3
  clear b0 b1 b2 b3 b4 b5
  obtain ⟨b0, b1, b2, b3, b4, b5⟩ := HX3.out.cells
  go_wp2_with fail
  refine (HSP.out AP1 _ cP1 AP2 _ cP2 _ _ HOP1_3.out.ints HOP2_3.out.ints hcP1 hcP2 (Nat.le_refl _)).mono ?_
  rintro e w4 ⟨AW0, cW0, rfl, hcW0, hoW0, hb4⟩
  have HX4 := hide (HX3.out.next hb4)
  have NP1W0 := hide (HOP1_3.out.ne hoW0 (Nat.le_refl _))
  have NW0P1 := hide (HOP1_3.out.ne' hoW0 (Nat.le_refl _))
  have NP2W0 := hide (HOP2_3.out.ne hoW0 (Nat.le_refl _))
  have NW0P2 := hide (HOP2_3.out.ne' hoW0 (Nat.le_refl _))
  have HOP1_4 := hide (HOP1_3.out.below hb4 (Nat.le_refl _))
  clear HOP1_3
  have HOP2_4 := hide (HOP2_3.out.below hb4 (Nat.le_refl _))
  clear HOP2_3
  have HOW0_4 := hide hoW0
  clear hoW0
  clear hb4
  clear b0 b1 b2 b3 b4 b5
  obtain ⟨b0, b1, b2, b3, b4, b5⟩ := HX4.out.cells
  go_wp2_with fail
  refine (toInts a1 _ c1 z1 _ ((HI1.out.below HX4.out.2).more HX4.out.2.size) (by omega)).mono ?_
  rintro e w5 ⟨AX1, cX1, rfl, hcX1, hoX1, hb5⟩
  have HX5 := hide (HX4.out.next hb5)
  have NW0X1 := hide (HOW0_4.out.ne hoX1 (Nat.le_refl _))
  have NX1W0 := hide (HOW0_4.out.ne' hoX1 (Nat.le_refl _))
  have HOW0_5 := hide (HOW0_4.out.below hb5 (Nat.le_refl _))
  clear HOW0_4
  have HOX1_5 := hide hoX1
  clear hoX1
  clear hb5
  clear b0 b1 b2 b3 b4 b5
  obtain ⟨b0, b1, b2, b3, b4, b5⟩ := HX5.out.cells
  go_wp2_with fail
  refine (toInts a2 _ c2 z2 _ ((HI2.out.below HX5.out.2).more HX5.out.2.size) (by omega)).mono ?_
  rintro e w6 ⟨AX2, cX2, rfl, hcX2, hoX2, hb6⟩
  have HX6 := hide (HX5.out.next hb6)
  have NW0X2 := hide (HOW0_5.out.ne hoX2 (Nat.le_refl _))
  have NX2W0 := hide (HOW0_5.out.ne' hoX2 (Nat.le_refl _))
  have NX1X2 := hide (HOX1_5.out.ne hoX2 (Nat.le_refl _))
  have NX2X1 := hide (HOX1_5.out.ne' hoX2 (Nat.le_refl _))
  have HOW0_6 := hide (HOW0_5.out.below hb6 (Nat.le_refl _))
  clear HOW0_5
  have HOX1_6 := hide (HOX1_5.out.below hb6 (Nat.le_refl _))
  clear HOX1_5
  have HOX2_6 := hide hoX2
  clear hoX2
  clear hb6
  clear b0 b1 b2 b3 b4 b5
  obtain ⟨b0, b1, b2, b3, b4, b5⟩ := HX6.out.cells
  go_wp2_with fail
  refine (toLayout a0x a0y a0z a0d a0k a0c _).mono ?_
  rintro e w7 ⟨rfl, hb7⟩
  have HX7 := hide (HX6.out.next hb7)
  have HOW0_7 := hide (HOW0_6.out.below hb7 (Nat.le_refl _))
  clear HOW0_6
  have HOX1_7 := hide (HOX1_6.out.below hb7 (Nat.le_refl _))
  clear HOX1_6
  have HOX2_7 := hide (HOX2_6.out.below hb7 (Nat.le_refl _))
  clear HOX2_6
  clear hb7
  clear b0 b1 b2 b3 b4 b5
  obtain ⟨b0, b1, b2, b3, b4, b5⟩ := HX7.out.cells
  go_wp2_with fail
  refine (HIM.out AX1 _ cX1 AX2 _ cX2 _ _ HOX1_7.out.ints HOX2_7.out.ints hcX1 hcX2 (Nat.le_refl _)).mono ?_
  rintro e w8 ⟨AG0, cG0, rfl, hcG0, hoG0, hb8⟩
  have HX8 := hide (HX7.out.next hb8)
  have NW0G0 := hide (HOW0_7.out.ne hoG0 (Nat.le_refl _))
  have NG0W0 := hide (HOW0_7.out.ne' hoG0 (Nat.le_refl _))
  have NX1G0 := hide (HOX1_7.out.ne hoG0 (Nat.le_refl _))
  have NG0X1 := hide (HOX1_7.out.ne' hoG0 (Nat.le_refl _))
  have NX2G0 := hide (HOX2_7.out.ne hoG0 (Nat.le_refl _))
  have NG0X2 := hide (HOX2_7.out.ne' hoG0 (Nat.le_refl _))
  have HOW0_8 := hide (HOW0_7.out.below hb8 (Nat.le_refl _))
  clear HOW0_7
  have HOX1_8 := hide (HOX1_7.out.below hb8 (Nat.le_refl _))
  clear HOX1_7
  have HOX2_8 := hide (HOX2_7.out.below hb8 (Nat.le_refl _))
  clear HOX2_7
  have HOG0_8 := hide hoG0
  clear hoG0
  clear hb8
  clear b0 b1 b2 b3 b4 b5
  obtain ⟨b0, b1, b2, b3, b4, b5⟩ := HX8.out.cells
  go_wp2_with fail
  refine (eqSame AG0 _ cG0 _ AW0 _ cW0 _ r0 _ HOG0_8.out.ints HOW0_8.out.ints (by omega)).mono ?_
  rintro e w9 ⟨rfl, hb9⟩
  have HX9 := hide (HX8.out.next hb9)
  have HOW0_9 := hide (HOW0_8.out.below hb9 (Nat.le_refl _))
  clear HOW0_8
  have HOX1_9 := hide (HOX1_8.out.below hb9 (Nat.le_refl _))
  clear HOX1_8
  have HOX2_9 := hide (HOX2_8.out.below hb9 (Nat.le_refl _))
  clear HOX2_8
  have HOG0_9 := hide (HOG0_8.out.below hb9 (Nat.le_refl _))
  clear HOG0_8
  clear hb9
  clear b0 b1 b2 b3 b4 b5
  obtain ⟨b0, b1, b2, b3, b4, b5⟩ := HX9.out.cells
  go_wp2_with fail
  refine (toInts a1 _ c1 z1 _ ((HI1.out.below HX9.out.2).more HX9.out.2.size) (by omega)).mono ?_
  rintro e w10 ⟨AQ1, cQ1, rfl, hcQ1, hoQ1, hb10⟩
  have HX10 := hide (HX9.out.next hb10)
  have NW0Q1 := hide (HOW0_9.out.ne hoQ1 (Nat.le_refl _))
  have NQ1W0 := hide (HOW0_9.out.ne' hoQ1 (Nat.le_refl _))
  have NX1Q1 := hide (HOX1_9.out.ne hoQ1 (Nat.le_refl _))
  have NQ1X1 := hide (HOX1_9.out.ne' hoQ1 (Nat.le_refl _))
  have NX2Q1 := hide (HOX2_9.out.ne hoQ1 (Nat.le_refl _))
  have NQ1X2 := hide (HOX2_9.out.ne' hoQ1 (Nat.le_refl _))
  have NG0Q1 := hide (HOG0_9.out.ne hoQ1 (Nat.le_refl _))
  have NQ1G0 := hide (HOG0_9.out.ne' hoQ1 (Nat.le_refl _))
  have HOW0_10 := hide (HOW0_9.out.below hb10 (Nat.le_refl _))
  clear HOW0_9
  have HOX1_10 := hide (HOX1_9.out.below hb10 (Nat.le_refl _))
  clear HOX1_9
  have HOX2_10 := hide (HOX2_9.out.below hb10 (Nat.le_refl _))
  clear HOX2_9
  have HOG0_10 := hide (HOG0_9.out.below hb10 (Nat.le_refl _))
  clear HOG0_9
  have HOQ1_10 := hide hoQ1
  clear hoQ1
  clear hb10
  clear b0 b1 b2 b3 b4 b5
  obtain ⟨b0, b1, b2, b3, b4, b5⟩ := HX10.out.cells
  go_wp2_with fail
  refine (eqSame AX1 _ cX1 _ AQ1 _ cQ1 _ z1 _ HOX1_10.out.ints HOQ1_10.out.ints (by omega)).mono ?_
  rintro e w11 ⟨rfl, hb11⟩
  have HX11 := hide (HX10.out.next hb11)
  have HOW0_11 := hide (HOW0_10.out.below hb11 (Nat.le_refl _))
  clear HOW0_10
  have HOX1_11 := hide (HOX1_10.out.below hb11 (Nat.le_refl _))
  clear HOX1_10
  have HOX2_11 := hide (HOX2_10.out.below hb11 (Nat.le_refl _))
  clear HOX2_10
  have HOG0_11 := hide (HOG0_10.out.below hb11 (Nat.le_refl _))
  clear HOG0_10
  have HOQ1_11 := hide (HOQ1_10.out.below hb11 (Nat.le_refl _))
  clear HOQ1_10
  clear hb11
  clear b0 b1 b2 b3 b4 b5
  obtain ⟨b0, b1, b2, b3, b4, b5⟩ := HX11.out.cells
  go_wp2_with fail
  refine (toInts a2 _ c2 z2 _ ((HI2.out.below HX11.out.2).more HX11.out.2.size) (by omega)).mono ?_
  rintro e w12 ⟨AQ2, cQ2, rfl, hcQ2, hoQ2, hb12⟩
  have HX12 := hide (HX11.out.next hb12)
  have NW0Q2 := hide (HOW0_11.out.ne hoQ2 (Nat.le_refl _))
  have NQ2W0 := hide (HOW0_11.out.ne' hoQ2 (Nat.le_refl _))
  have NX1Q2 := hide (HOX1_11.out.ne hoQ2 (Nat.le_refl _))
  have NQ2X1 := hide (HOX1_11.out.ne' hoQ2 (Nat.le_refl _))
  have NX2Q2 := hide (HOX2_11.out.ne hoQ2 (Nat.le_refl _))
  have NQ2X2 := hide (HOX2_11.out.ne' hoQ2 (Nat.le_refl _))
  have NG0Q2 := hide (HOG0_11.out.ne hoQ2 (Nat.le_refl _))
  have NQ2G0 := hide (HOG0_11.out.ne' hoQ2 (Nat.le_refl _))
  have HOW0_12 := hide (HOW0_11.out.below hb12 (Nat.le_refl _))
  clear HOW0_11
  have HOX1_12 := hide (HOX1_11.out.below hb12 (Nat.le_refl _))
  clear HOX1_11
  have HOX2_12 := hide (HOX2_11.out.below hb12 (Nat.le_refl _))
  clear HOX2_11
  have HOG0_12 := hide (HOG0_11.out.below hb12 (Nat.le_refl _))
  clear HOG0_11
  have HOQ2_12 := hide hoQ2
  clear hoQ2
  clear hb12
  clear b0 b1 b2 b3 b4 b5
  obtain ⟨b0, b1, b2, b3, b4, b5⟩ := HX12.out.cells
  go_wp2_with fail
  refine (eqSame AX2 _ cX2 _ AQ2 _ cQ2 _ z2 _ HOX2_12.out.ints HOQ2_12.out.ints (by omega)).mono ?_
  rintro e w13 ⟨rfl, hb13⟩
  have HX13 := hide (HX12.out.next hb13)
  have HOW0_13 := hide (HOW0_12.out.below hb13 (Nat.le_refl _))
  clear HOW0_12
  have HOX1_13 := hide (HOX1_12.out.below hb13 (Nat.le_refl _))
  clear HOX1_12
  have HOX2_13 := hide (HOX2_12.out.below hb13 (Nat.le_refl _))
  clear HOX2_12
  have HOG0_13 := hide (HOG0_12.out.below hb13 (Nat.le_refl _))
  clear HOG0_12
  have HOQ2_13 := hide (HOQ2_12.out.below hb13 (Nat.le_refl _))
  clear HOQ2_12
  clear hb13
  clear b0 b1 b2 b3 b4 b5
  obtain ⟨b0, b1, b2, b3, b4, b5⟩ := HX13.out.cells
  go_wp2_with fail
  refine (markInts' AX1 _ cX1 _ _ 1 z1 _ HOX1_13.out (by omega) (by omega) (by omega)).mono ?_
  rintro e w14 ⟨rfl, ho14, hg14⟩
  have HX14 := hide (HX13.out.grow' hg14 (fun g hg => Nat.lt_of_lt_of_le HX4.out.lt (HOX1_13.out.lt hg).1))
  have HOW0_14 := hide (HOW0_13.out.grown hg14 NW0X1.out)
  clear HOW0_13
  have HOX2_14 := hide (HOX2_13.out.grown hg14 NX2X1.out)
  clear HOX2_13
  have HOG0_14 := hide (HOG0_13.out.grown hg14 NG0X1.out)
  clear HOG0_13
  have HOX1_14 := hide ho14
  clear ho14 hg14 HOX1_13
  clear b0 b1 b2 b3 b4 b5
  obtain ⟨b0, b1, b2, b3, b4, b5⟩ := HX14.out.cells
  go_wp2_with fail
  refine (markInts' AX2 _ cX2 _ _ (1 + z1.length) z2 _ HOX2_14.out (by omega) (by omega) (by omega)).mono ?_
  rintro e w15 ⟨rfl, ho15, hg15⟩
  have HX15 := hide (HX14.out.grow' hg15 (fun g hg => Nat.lt_of_lt_of_le HX5.out.lt (HOX2_14.out.lt hg).1))
  have HOW0_15 := hide (HOW0_14.out.grown hg15 NW0X2.out)
  clear HOW0_14
  have HOX1_15 := hide (HOX1_14.out.grown hg15 NX1X2.out)
  clear HOX1_14
  have HOG0_15 := hide (HOG0_14.out.grown hg15 NG0X2.out)
  clear HOG0_14
  have HOX2_15 := hide ho15
  clear ho15 hg15 HOX2_14
  clear b0 b1 b2 b3 b4 b5
  obtain ⟨b0, b1, b2, b3, b4, b5⟩ := HX15.out.cells
  go_wp2_with fail
  refine (eqSame AG0 _ cG0 _ AW0 _ cW0 _ r0 _ HOG0_15.out.ints HOW0_15.out.ints (by omega)).mono ?_
  rintro e w16 ⟨rfl, hb16⟩
  have HX16 := hide (HX15.out.next hb16)
  have HOW0_16 := hide (HOW0_15.out.below hb16 (Nat.le_refl _))
  clear HOW0_15
  have HOX1_16 := hide (HOX1_15.out.below hb16 (Nat.le_refl _))
  clear HOX1_15
  have HOX2_16 := hide (HOX2_15.out.below hb16 (Nat.le_refl _))
  clear HOX2_15
  have HOG0_16 := hide (HOG0_15.out.below hb16 (Nat.le_refl _))
  clear HOG0_15
  clear hb16
  clear b0 b1 b2 b3 b4 b5
  obtain ⟨b0, b1, b2, b3, b4, b5⟩ := HX16.out.cells
  go_wp2_with fail
  refine (markInts' AG0 _ cG0 _ _ 1 r0 _ HOG0_16.out (by omega) (by omega) (by omega)).mono ?_
  rintro e w17 ⟨rfl, ho17, hg17⟩
  have HX17 := hide (HX16.out.grow' hg17 (fun g hg => Nat.lt_of_lt_of_le HX7.out.lt (HOG0_16.out.lt hg).1))
  have HOW0_17 := hide (HOW0_16.out.grown hg17 NW0G0.out)
  clear HOW0_16
  have HOX1_17 := hide (HOX1_16.out.grown hg17 NX1G0.out)
  clear HOX1_16
  have HOX2_17 := hide (HOX2_16.out.grown hg17 NX2G0.out)
  clear HOX2_16
  have HOG0_17 := hide ho17
  clear ho17 hg17 HOG0_16
  clear b0 b1 b2 b3 b4 b5
  obtain ⟨b0, b1, b2, b3, b4, b5⟩ := HX17.out.cells
  go_wp2_with fail
  refine (heldInts' AG0 _ cG0 _ _ 1 _ (HOG0_17.out.ints' (marks_len _ _)) (by omega) (by omega) (by omega)).mono ?_
  rintro e w17 ⟨rfl, rfl⟩
  go_wp2_with fail
  refine (toLayout a0x a0y a0z a0d a0k a0c _).mono ?_
  rintro e w18 ⟨rfl, hb18⟩
  have HX18 := hide (HX17.out.next hb18)
  have HOW0_18 := hide (HOW0_17.out.below hb18 (Nat.le_refl _))
  clear HOW0_17
  have HOX1_18 := hide (HOX1_17.out.below hb18 (Nat.le_refl _))
  clear HOX1_17
  have HOX2_18 := hide (HOX2_17.out.below hb18 (Nat.le_refl _))
  clear HOX2_17
  have HOG0_18 := hide (HOG0_17.out.below hb18 (Nat.le_refl _))
  clear HOG0_17
  clear hb18
  clear b0 b1 b2 b3 b4 b5
  obtain ⟨b0, b1, b2, b3, b4, b5⟩ := HX18.out.cells
  go_wp2_with fail
  refine (toInts a1 _ c1 z1 _ ((HI1.out.below HX18.out.2).more HX18.out.2.size) (by omega)).mono ?_
  rintro e w19 ⟨AR1, cR1, rfl, hcR1, hoR1, hb19⟩
  have HX19 := hide (HX18.out.next hb19)
  have NW0R1 := hide (HOW0_18.out.ne hoR1 (Nat.le_refl _))
  have NR1W0 := hide (HOW0_18.out.ne' hoR1 (Nat.le_refl _))
  have NX1R1 := hide (HOX1_18.out.ne hoR1 (Nat.le_refl _))
  have NR1X1 := hide (HOX1_18.out.ne' hoR1 (Nat.le_refl _))
  have NX2R1 := hide (HOX2_18.out.ne hoR1 (Nat.le_refl _))
  have NR1X2 := hide (HOX2_18.out.ne' hoR1 (Nat.le_refl _))
  have NG0R1 := hide (HOG0_18.out.ne hoR1 (Nat.le_refl _))
  have NR1G0 := hide (HOG0_18.out.ne' hoR1 (Nat.le_refl _))
  have HOW0_19 := hide (HOW0_18.out.below hb19 (Nat.le_refl _))
  clear HOW0_18
  have HOX1_19 := hide (HOX1_18.out.below hb19 (Nat.le_refl _))
  clear HOX1_18
  have HOX2_19 := hide (HOX2_18.out.below hb19 (Nat.le_refl _))
  clear HOX2_18
  have HOG0_19 := hide (HOG0_18.out.below hb19 (Nat.le_refl _))
  clear HOG0_18
  have HOR1_19 := hide hoR1
  clear hoR1
  clear hb19
  clear b0 b1 b2 b3 b4 b5
  obtain ⟨b0, b1, b2, b3, b4, b5⟩ := HX19.out.cells
  go_wp2_with fail
  refine (toInts a2 _ c2 z2 _ ((HI2.out.below HX19.out.2).more HX19.out.2.size) (by omega)).mono ?_
  rintro e w20 ⟨AR2, cR2, rfl, hcR2, hoR2, hb20⟩
  have HX20 := hide (HX19.out.next hb20)
  have NW0R2 := hide (HOW0_19.out.ne hoR2 (Nat.le_refl _))
  have NR2W0 := hide (HOW0_19.out.ne' hoR2 (Nat.le_refl _))
  have NX1R2 := hide (HOX1_19.out.ne hoR2 (Nat.le_refl _))
  have NR2X1 := hide (HOX1_19.out.ne' hoR2 (Nat.le_refl _))
  have NX2R2 := hide (HOX2_19.out.ne hoR2 (Nat.le_refl _))
  have NR2X2 := hide (HOX2_19.out.ne' hoR2 (Nat.le_refl _))
  have NG0R2 := hide (HOG0_19.out.ne hoR2 (Nat.le_refl _))
  have NR2G0 := hide (HOG0_19.out.ne' hoR2 (Nat.le_refl _))
  have NR1R2 := hide (HOR1_19.out.ne hoR2 (Nat.le_refl _))
  have NR2R1 := hide (HOR1_19.out.ne' hoR2 (Nat.le_refl _))
  have HOW0_20 := hide (HOW0_19.out.below hb20 (Nat.le_refl _))
  clear HOW0_19
  have HOX1_20 := hide (HOX1_19.out.below hb20 (Nat.le_refl _))
  clear HOX1_19
  have HOX2_20 := hide (HOX2_19.out.below hb20 (Nat.le_refl _))
  clear HOX2_19
  have HOG0_20 := hide (HOG0_19.out.below hb20 (Nat.le_refl _))
  clear HOG0_19
  have HOR1_20 := hide (HOR1_19.out.below hb20 (Nat.le_refl _))
  clear HOR1_19
  have HOR2_20 := hide hoR2
  clear hoR2
  clear hb20
  clear b0 b1 b2 b3 b4 b5
  obtain ⟨b0, b1, b2, b3, b4, b5⟩ := HX20.out.cells
  go_wp2_with fail
  refine (HIM.out AR1 _ cR1 AR2 _ cR2 _ _ HOR1_20.out.ints HOR2_20.out.ints hcR1 hcR2 (Nat.le_refl _)).mono ?_
  rintro e w21 ⟨AH0, cH0, rfl, hcH0, hoH0, hb21⟩
  have HX21 := hide (HX20.out.next hb21)
  have NW0H0 := hide (HOW0_20.out.ne hoH0 (Nat.le_refl _))
  have NH0W0 := hide (HOW0_20.out.ne' hoH0 (Nat.le_refl _))
  have NX1H0 := hide (HOX1_20.out.ne hoH0 (Nat.le_refl _))
  have NH0X1 := hide (HOX1_20.out.ne' hoH0 (Nat.le_refl _))
  have NX2H0 := hide (HOX2_20.out.ne hoH0 (Nat.le_refl _))
  have NH0X2 := hide (HOX2_20.out.ne' hoH0 (Nat.le_refl _))
  have NG0H0 := hide (HOG0_20.out.ne hoH0 (Nat.le_refl _))
  have NH0G0 := hide (HOG0_20.out.ne' hoH0 (Nat.le_refl _))
  have NR1H0 := hide (HOR1_20.out.ne hoH0 (Nat.le_refl _))
  have NH0R1 := hide (HOR1_20.out.ne' hoH0 (Nat.le_refl _))
  have NR2H0 := hide (HOR2_20.out.ne hoH0 (Nat.le_refl _))
  have NH0R2 := hide (HOR2_20.out.ne' hoH0 (Nat.le_refl _))
  have HOW0_21 := hide (HOW0_20.out.below hb21 (Nat.le_refl _))
  clear HOW0_20
  have HOX1_21 := hide (HOX1_20.out.below hb21 (Nat.le_refl _))
  clear HOX1_20
  have HOX2_21 := hide (HOX2_20.out.below hb21 (Nat.le_refl _))
  clear HOX2_20
  have HOG0_21 := hide (HOG0_20.out.below hb21 (Nat.le_refl _))
  clear HOG0_20
  have HOR1_21 := hide (HOR1_20.out.below hb21 (Nat.le_refl _))
  clear HOR1_20
  have HOR2_21 := hide (HOR2_20.out.below hb21 (Nat.le_refl _))
  clear HOR2_20
  have HOH0_21 := hide hoH0
  clear hoH0
  clear hb21
  clear b0 b1 b2 b3 b4 b5
  obtain ⟨b0, b1, b2, b3, b4, b5⟩ := HX21.out.cells
  go_wp2_with fail
  refine (eqSame AH0 _ cH0 _ AW0 _ cW0 _ r0 _ HOH0_21.out.ints HOW0_21.out.ints (by omega)).mono ?_
  rintro e w22 ⟨rfl, hb22⟩
  have HX22 := hide (HX21.out.next hb22)
  have HOW0_22 := hide (HOW0_21.out.below hb22 (Nat.le_refl _))
  clear HOW0_21
  have HOX1_22 := hide (HOX1_21.out.below hb22 (Nat.le_refl _))
  clear HOX1_21
  have HOX2_22 := hide (HOX2_21.out.below hb22 (Nat.le_refl _))
  clear HOX2_21
  have HOG0_22 := hide (HOG0_21.out.below hb22 (Nat.le_refl _))
  clear HOG0_21
  have HOR1_22 := hide (HOR1_21.out.below hb22 (Nat.le_refl _))
  clear HOR1_21
  have HOR2_22 := hide (HOR2_21.out.below hb22 (Nat.le_refl _))
  clear HOR2_21
  have HOH0_22 := hide (HOH0_21.out.below hb22 (Nat.le_refl _))
  clear HOH0_21
  clear hb22
  clear b0 b1 b2 b3 b4 b5
  obtain ⟨b0, b1, b2, b3, b4, b5⟩ := HX22.out.cells
  go_wp2_with fail
  refine (heldInts' AG0 _ cG0 _ _ 1 _ (HOG0_22.out.ints' (marks_len _ _)) (by omega) (by omega) (by omega)).mono ?_
  rintro e w22 ⟨rfl, rfl⟩
  go_wp2_with fail
  go_ret
  exact ⟨rfl, HX22.out.2⟩
end Go.Proofs.YtlphodhecaagbaaGreat
