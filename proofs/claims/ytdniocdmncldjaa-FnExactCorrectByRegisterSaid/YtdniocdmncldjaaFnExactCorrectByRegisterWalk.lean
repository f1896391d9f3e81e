/-
  The walk of the law FnExactCorrectByRegister: it returns true, and nothing that was there before is changed.
  Condition: none.
-/
import Derived.Test.YtdniocdmncldjaaRBoth3
import Derived.Test.YtdniocdmncldjaaCShell
import Derived.Test.YtdniocdmncldjaaCLaw
namespace Go.Proofs.Ytdniocdmncldjaa
open Go.RowKit
set_option linter.unusedVariables false

set_option maxRecDepth 100000 in
set_option maxHeartbeats 4000000 in
theorem fnExactCorrectByRegisterWalk (a0x a0y a0z a0l a0c : Int) (a1 : Option Addr) (n1 c1 : Nat) (z1 : List Int) (a2 : Option Addr) (n2 c2 : Nat) (z2 : List Int) (w : World) (h0x : (Lit.int .i64 a0x).wf = true) (h0y : (Lit.int .i64 a0y).wf = true) (h0z : (Lit.int .i64 a0z).wf = true) (h0l : (Lit.int .i64 a0l).wf = true) (h0c : (Lit.int .i64 a0c).wf = true) (h1 : Came .i64 w a1 n1 c1 z1) (h2 : Came .i64 w a2 n2 c2 z2) :
    Calls Try.prog 8 #[.agg #[.int .i64 a0x, .int .i64 a0y, .int .i64 a0z, .int .i64 a0l, .int .i64 a0c], .slice a1 n1 c1, .slice a2 n2 c2] w fun e w' => e = .returned (.bool true) ∧ Below w.heap.size w w' := by
  have hC := bd_i64 h0c
  clear h0x h0y h0z h0l h0c
  have HX0 := hide (LBox.start w a0x a0y a0z a0l a0c)
  obtain ⟨hI1, hnc1, hcm1, hwf1⟩ := h1
  have HI1 := hide hI1
  obtain rfl : z1.length = n1 := hI1.len
  clear hI1 hwf1
  unfold maxLen at hcm1
  obtain ⟨hI2, hnc2, hcm2, hwf2⟩ := h2
  have HI2 := hide hI2
  obtain rfl : z2.length = n2 := hI2.len
  clear hI2 hwf2
  unfold maxLen at hcm2
  by_cases hbig1 : 1048576 < z1.length
  · go_enter Try.func8, Try.ntmps8
    go_wp2_with fail
    go_ret
    exact ⟨rfl, HX0.out.2⟩
  have hn1 : z1.length ≤ 1048576 := by omega
  by_cases hbig2 : 1048576 < z2.length
  · go_enter Try.func8, Try.ntmps8
    go_wp2_with fail
    go_ret
    exact ⟨rfl, HX0.out.2⟩
  have hn2 : z2.length ≤ 1048576 := by omega
  obtain ⟨r0, r1, k0, hlr0, hlr1, HS, HM⟩ := cbr_both a0x a0y a0z a0l a0c z1 z2 hn1 hn2 hC
  have HSP := hide HS
  have HIM := hide HM
  clear HS HM
  have hnek0 : (k0 != k0) = false := by simp
  go_enter Try.func8, Try.ntmps8
  go_wp2_with fail
  refine (toCode a0x a0y a0z a0l a0c _).mono ?_
  rintro e w1 ⟨rfl, hb1⟩
  have HX1 := hide (HX0.out.next hb1)
  clear hb1
  obtain ⟨b0, b1, b2, b3, b4⟩ := HX1.out.cells
  go_wp2_with fail
  refine (toInts a1 _ c1 z1 _ ((HI1.out.below HX1.out.2).more HX1.out.2.size) (by omega)).mono ?_
  rintro e w2 ⟨AP1, cP1, rfl, hcP1, hoP1, hb2⟩
  have HX2 := hide (HX1.out.next hb2)
  have HOP1_2 := hide hoP1
  clear hoP1
  clear hb2
  clear b0 b1 b2 b3 b4
  obtain ⟨b0, b1, b2, b3, b4⟩ := HX2.out.cells
  go_wp2_with fail
  refine (toInts a2 _ c2 z2 _ ((HI2.out.below HX2.out.2).more HX2.out.2.size) (by omega)).mono ?_
  rintro e w3 ⟨AP2, cP2, rfl, hcP2, hoP2, hb3⟩
  have HX3 := hide (HX2.out.next hb3)
  have NP1P2 := hide (HOP1_2.out.ne hoP2 (Nat.le_refl _))
  have NP2P1 := hide (HOP1_2.out.ne' hoP2 (Nat.le_refl _))
  have HOP1_3 := hide (HOP1_2.out.below hb3 (Nat.le_refl _))
  clear HOP1_2
  have HOP2_3 := hide hoP2
  clear hoP2
  clear hb3
  clear b0 b1 b2 b3 b4
  obtain ⟨b0, b1, b2, b3, b4⟩ := HX3.out.cells
  go_wp2_with fail
  refine (HSP.out AP1 _ cP1 AP2 _ cP2 _ _ HOP1_3.out.ints HOP2_3.out.ints hcP1 hcP2 (Nat.le_refl _)).mono ?_
  rintro e w4 ⟨AW0, cW0, AW1, cW1, rfl, hcW0, hcW1, hoW0, hoW1, hdW, hb4⟩
  have HX4 := hide (HX3.out.next hb4)
  have NP1W0 := hide (HOP1_3.out.ne hoW0 (Nat.le_refl _))
  have NW0P1 := hide (HOP1_3.out.ne' hoW0 (Nat.le_refl _))
  have NP2W0 := hide (HOP2_3.out.ne hoW0 (Nat.le_refl _))
  have NW0P2 := hide (HOP2_3.out.ne' hoW0 (Nat.le_refl _))
  have NP1W1 := hide (HOP1_3.out.ne hoW1 (Nat.le_refl _))
  have NW1P1 := hide (HOP1_3.out.ne' hoW1 (Nat.le_refl _))
  have NP2W1 := hide (HOP2_3.out.ne hoW1 (Nat.le_refl _))
  have NW1P2 := hide (HOP2_3.out.ne' hoW1 (Nat.le_refl _))
  have HOP1_4 := hide (HOP1_3.out.below hb4 (Nat.le_refl _))
  clear HOP1_3
  have HOP2_4 := hide (HOP2_3.out.below hb4 (Nat.le_refl _))
  clear HOP2_3
  have HOW0_4 := hide hoW0
  clear hoW0
  have HOW1_4 := hide hoW1
  clear hoW1
  clear hb4
  clear b0 b1 b2 b3 b4
  obtain ⟨b0, b1, b2, b3, b4⟩ := HX4.out.cells
  have NW0W1 := hide hdW.1
  have NW1W0 := hide hdW.2
  clear hdW
  go_wp2_with fail
  refine (toInts a1 _ c1 z1 _ ((HI1.out.below HX4.out.2).more HX4.out.2.size) (by omega)).mono ?_
  rintro e w5 ⟨AX1, cX1, rfl, hcX1, hoX1, hb5⟩
  have HX5 := hide (HX4.out.next hb5)
  have NW0X1 := hide (HOW0_4.out.ne hoX1 (Nat.le_refl _))
  have NX1W0 := hide (HOW0_4.out.ne' hoX1 (Nat.le_refl _))
  have NW1X1 := hide (HOW1_4.out.ne hoX1 (Nat.le_refl _))
  have NX1W1 := hide (HOW1_4.out.ne' hoX1 (Nat.le_refl _))
  have HOW0_5 := hide (HOW0_4.out.below hb5 (Nat.le_refl _))
  clear HOW0_4
  have HOW1_5 := hide (HOW1_4.out.below hb5 (Nat.le_refl _))
  clear HOW1_4
  have HOX1_5 := hide hoX1
  clear hoX1
  clear hb5
  clear b0 b1 b2 b3 b4
  obtain ⟨b0, b1, b2, b3, b4⟩ := HX5.out.cells
  go_wp2_with fail
  refine (toInts a2 _ c2 z2 _ ((HI2.out.below HX5.out.2).more HX5.out.2.size) (by omega)).mono ?_
  rintro e w6 ⟨AX2, cX2, rfl, hcX2, hoX2, hb6⟩
  have HX6 := hide (HX5.out.next hb6)
  have NW0X2 := hide (HOW0_5.out.ne hoX2 (Nat.le_refl _))
  have NX2W0 := hide (HOW0_5.out.ne' hoX2 (Nat.le_refl _))
  have NW1X2 := hide (HOW1_5.out.ne hoX2 (Nat.le_refl _))
  have NX2W1 := hide (HOW1_5.out.ne' hoX2 (Nat.le_refl _))
  have NX1X2 := hide (HOX1_5.out.ne hoX2 (Nat.le_refl _))
  have NX2X1 := hide (HOX1_5.out.ne' hoX2 (Nat.le_refl _))
  have HOW0_6 := hide (HOW0_5.out.below hb6 (Nat.le_refl _))
  clear HOW0_5
  have HOW1_6 := hide (HOW1_5.out.below hb6 (Nat.le_refl _))
  clear HOW1_5
  have HOX1_6 := hide (HOX1_5.out.below hb6 (Nat.le_refl _))
  clear HOX1_5
  have HOX2_6 := hide hoX2
  clear hoX2
  clear hb6
  clear b0 b1 b2 b3 b4
  obtain ⟨b0, b1, b2, b3, b4⟩ := HX6.out.cells
  go_wp2_with fail
  refine (toCode a0x a0y a0z a0l a0c _).mono ?_
  rintro e w7 ⟨rfl, hb7⟩
  have HX7 := hide (HX6.out.next hb7)
  have HOW0_7 := hide (HOW0_6.out.below hb7 (Nat.le_refl _))
  clear HOW0_6
  have HOW1_7 := hide (HOW1_6.out.below hb7 (Nat.le_refl _))
  clear HOW1_6
  have HOX1_7 := hide (HOX1_6.out.below hb7 (Nat.le_refl _))
  clear HOX1_6
  have HOX2_7 := hide (HOX2_6.out.below hb7 (Nat.le_refl _))
  clear HOX2_6
  clear hb7
  clear b0 b1 b2 b3 b4
  obtain ⟨b0, b1, b2, b3, b4⟩ := HX7.out.cells
  go_wp2_with fail
  refine (HIM.out AX1 _ cX1 AX2 _ cX2 _ _ HOX1_7.out.ints HOX2_7.out.ints hcX1 hcX2 (Nat.le_refl _)).mono ?_
  rintro e w8 ⟨AG0, cG0, AG1, cG1, rfl, hcG0, hcG1, hoG0, hoG1, hdG, hb8⟩
  have HX8 := hide (HX7.out.next hb8)
  have NW0G0 := hide (HOW0_7.out.ne hoG0 (Nat.le_refl _))
  have NG0W0 := hide (HOW0_7.out.ne' hoG0 (Nat.le_refl _))
  have NW1G0 := hide (HOW1_7.out.ne hoG0 (Nat.le_refl _))
  have NG0W1 := hide (HOW1_7.out.ne' hoG0 (Nat.le_refl _))
  have NX1G0 := hide (HOX1_7.out.ne hoG0 (Nat.le_refl _))
  have NG0X1 := hide (HOX1_7.out.ne' hoG0 (Nat.le_refl _))
  have NX2G0 := hide (HOX2_7.out.ne hoG0 (Nat.le_refl _))
  have NG0X2 := hide (HOX2_7.out.ne' hoG0 (Nat.le_refl _))
  have NW0G1 := hide (HOW0_7.out.ne hoG1 (Nat.le_refl _))
  have NG1W0 := hide (HOW0_7.out.ne' hoG1 (Nat.le_refl _))
  have NW1G1 := hide (HOW1_7.out.ne hoG1 (Nat.le_refl _))
  have NG1W1 := hide (HOW1_7.out.ne' hoG1 (Nat.le_refl _))
  have NX1G1 := hide (HOX1_7.out.ne hoG1 (Nat.le_refl _))
  have NG1X1 := hide (HOX1_7.out.ne' hoG1 (Nat.le_refl _))
  have NX2G1 := hide (HOX2_7.out.ne hoG1 (Nat.le_refl _))
  have NG1X2 := hide (HOX2_7.out.ne' hoG1 (Nat.le_refl _))
  have HOW0_8 := hide (HOW0_7.out.below hb8 (Nat.le_refl _))
  clear HOW0_7
  have HOW1_8 := hide (HOW1_7.out.below hb8 (Nat.le_refl _))
  clear HOW1_7
  have HOX1_8 := hide (HOX1_7.out.below hb8 (Nat.le_refl _))
  clear HOX1_7
  have HOX2_8 := hide (HOX2_7.out.below hb8 (Nat.le_refl _))
  clear HOX2_7
  have HOG0_8 := hide hoG0
  clear hoG0
  have HOG1_8 := hide hoG1
  clear hoG1
  clear hb8
  clear b0 b1 b2 b3 b4
  obtain ⟨b0, b1, b2, b3, b4⟩ := HX8.out.cells
  have NG0G1 := hide hdG.1
  have NG1G0 := hide hdG.2
  clear hdG
  go_wp2_with fail
  refine (eqSame AG0 _ cG0 _ AW0 _ cW0 _ r0 _ HOG0_8.out.ints HOW0_8.out.ints (by omega)).mono ?_
  rintro e w9 ⟨rfl, hb9⟩
  have HX9 := hide (HX8.out.next hb9)
  have HOW0_9 := hide (HOW0_8.out.below hb9 (Nat.le_refl _))
  clear HOW0_8
  have HOW1_9 := hide (HOW1_8.out.below hb9 (Nat.le_refl _))
  clear HOW1_8
  have HOX1_9 := hide (HOX1_8.out.below hb9 (Nat.le_refl _))
  clear HOX1_8
  have HOX2_9 := hide (HOX2_8.out.below hb9 (Nat.le_refl _))
  clear HOX2_8
  have HOG0_9 := hide (HOG0_8.out.below hb9 (Nat.le_refl _))
  clear HOG0_8
  have HOG1_9 := hide (HOG1_8.out.below hb9 (Nat.le_refl _))
  clear HOG1_8
  clear hb9
  clear b0 b1 b2 b3 b4
  obtain ⟨b0, b1, b2, b3, b4⟩ := HX9.out.cells
  go_wp2_with fail
  refine (eqSame AG1 _ cG1 _ AW1 _ cW1 _ r1 _ HOG1_9.out.ints HOW1_9.out.ints (by omega)).mono ?_
  rintro e w10 ⟨rfl, hb10⟩
  have HX10 := hide (HX9.out.next hb10)
  have HOW0_10 := hide (HOW0_9.out.below hb10 (Nat.le_refl _))
  clear HOW0_9
  have HOW1_10 := hide (HOW1_9.out.below hb10 (Nat.le_refl _))
  clear HOW1_9
  have HOX1_10 := hide (HOX1_9.out.below hb10 (Nat.le_refl _))
  clear HOX1_9
  have HOX2_10 := hide (HOX2_9.out.below hb10 (Nat.le_refl _))
  clear HOX2_9
  have HOG0_10 := hide (HOG0_9.out.below hb10 (Nat.le_refl _))
  clear HOG0_9
  have HOG1_10 := hide (HOG1_9.out.below hb10 (Nat.le_refl _))
  clear HOG1_9
  clear hb10
  clear b0 b1 b2 b3 b4
  obtain ⟨b0, b1, b2, b3, b4⟩ := HX10.out.cells
  go_wp2_with fail
  refine (toInts a1 _ c1 z1 _ ((HI1.out.below HX10.out.2).more HX10.out.2.size) (by omega)).mono ?_
  rintro e w11 ⟨AQ1, cQ1, rfl, hcQ1, hoQ1, hb11⟩
  have HX11 := hide (HX10.out.next hb11)
  have NW0Q1 := hide (HOW0_10.out.ne hoQ1 (Nat.le_refl _))
  have NQ1W0 := hide (HOW0_10.out.ne' hoQ1 (Nat.le_refl _))
  have NW1Q1 := hide (HOW1_10.out.ne hoQ1 (Nat.le_refl _))
  have NQ1W1 := hide (HOW1_10.out.ne' hoQ1 (Nat.le_refl _))
  have NX1Q1 := hide (HOX1_10.out.ne hoQ1 (Nat.le_refl _))
  have NQ1X1 := hide (HOX1_10.out.ne' hoQ1 (Nat.le_refl _))
  have NX2Q1 := hide (HOX2_10.out.ne hoQ1 (Nat.le_refl _))
  have NQ1X2 := hide (HOX2_10.out.ne' hoQ1 (Nat.le_refl _))
  have NG0Q1 := hide (HOG0_10.out.ne hoQ1 (Nat.le_refl _))
  have NQ1G0 := hide (HOG0_10.out.ne' hoQ1 (Nat.le_refl _))
  have NG1Q1 := hide (HOG1_10.out.ne hoQ1 (Nat.le_refl _))
  have NQ1G1 := hide (HOG1_10.out.ne' hoQ1 (Nat.le_refl _))
  have HOW0_11 := hide (HOW0_10.out.below hb11 (Nat.le_refl _))
  clear HOW0_10
  have HOW1_11 := hide (HOW1_10.out.below hb11 (Nat.le_refl _))
  clear HOW1_10
  have HOX1_11 := hide (HOX1_10.out.below hb11 (Nat.le_refl _))
  clear HOX1_10
  have HOX2_11 := hide (HOX2_10.out.below hb11 (Nat.le_refl _))
  clear HOX2_10
  have HOG0_11 := hide (HOG0_10.out.below hb11 (Nat.le_refl _))
  clear HOG0_10
  have HOG1_11 := hide (HOG1_10.out.below hb11 (Nat.le_refl _))
  clear HOG1_10
  have HOQ1_11 := hide hoQ1
  clear hoQ1
  clear hb11
  clear b0 b1 b2 b3 b4
  obtain ⟨b0, b1, b2, b3, b4⟩ := HX11.out.cells
  go_wp2_with fail
  refine (eqSame AX1 _ cX1 _ AQ1 _ cQ1 _ z1 _ HOX1_11.out.ints HOQ1_11.out.ints (by omega)).mono ?_
  rintro e w12 ⟨rfl, hb12⟩
  have HX12 := hide (HX11.out.next hb12)
  have HOW0_12 := hide (HOW0_11.out.below hb12 (Nat.le_refl _))
  clear HOW0_11
  have HOW1_12 := hide (HOW1_11.out.below hb12 (Nat.le_refl _))
  clear HOW1_11
  have HOX1_12 := hide (HOX1_11.out.below hb12 (Nat.le_refl _))
  clear HOX1_11
  have HOX2_12 := hide (HOX2_11.out.below hb12 (Nat.le_refl _))
  clear HOX2_11
  have HOG0_12 := hide (HOG0_11.out.below hb12 (Nat.le_refl _))
  clear HOG0_11
  have HOG1_12 := hide (HOG1_11.out.below hb12 (Nat.le_refl _))
  clear HOG1_11
  have HOQ1_12 := hide (HOQ1_11.out.below hb12 (Nat.le_refl _))
  clear HOQ1_11
  clear hb12
  clear b0 b1 b2 b3 b4
  obtain ⟨b0, b1, b2, b3, b4⟩ := HX12.out.cells
  go_wp2_with fail
  refine (toInts a2 _ c2 z2 _ ((HI2.out.below HX12.out.2).more HX12.out.2.size) (by omega)).mono ?_
  rintro e w13 ⟨AQ2, cQ2, rfl, hcQ2, hoQ2, hb13⟩
  have HX13 := hide (HX12.out.next hb13)
  have NW0Q2 := hide (HOW0_12.out.ne hoQ2 (Nat.le_refl _))
  have NQ2W0 := hide (HOW0_12.out.ne' hoQ2 (Nat.le_refl _))
  have NW1Q2 := hide (HOW1_12.out.ne hoQ2 (Nat.le_refl _))
  have NQ2W1 := hide (HOW1_12.out.ne' hoQ2 (Nat.le_refl _))
  have NX1Q2 := hide (HOX1_12.out.ne hoQ2 (Nat.le_refl _))
  have NQ2X1 := hide (HOX1_12.out.ne' hoQ2 (Nat.le_refl _))
  have NX2Q2 := hide (HOX2_12.out.ne hoQ2 (Nat.le_refl _))
  have NQ2X2 := hide (HOX2_12.out.ne' hoQ2 (Nat.le_refl _))
  have NG0Q2 := hide (HOG0_12.out.ne hoQ2 (Nat.le_refl _))
  have NQ2G0 := hide (HOG0_12.out.ne' hoQ2 (Nat.le_refl _))
  have NG1Q2 := hide (HOG1_12.out.ne hoQ2 (Nat.le_refl _))
  have NQ2G1 := hide (HOG1_12.out.ne' hoQ2 (Nat.le_refl _))
  have HOW0_13 := hide (HOW0_12.out.below hb13 (Nat.le_refl _))
  clear HOW0_12
  have HOW1_13 := hide (HOW1_12.out.below hb13 (Nat.le_refl _))
  clear HOW1_12
  have HOX1_13 := hide (HOX1_12.out.below hb13 (Nat.le_refl _))
  clear HOX1_12
  have HOX2_13 := hide (HOX2_12.out.below hb13 (Nat.le_refl _))
  clear HOX2_12
  have HOG0_13 := hide (HOG0_12.out.below hb13 (Nat.le_refl _))
  clear HOG0_12
  have HOG1_13 := hide (HOG1_12.out.below hb13 (Nat.le_refl _))
  clear HOG1_12
  have HOQ2_13 := hide hoQ2
  clear hoQ2
  clear hb13
  clear b0 b1 b2 b3 b4
  obtain ⟨b0, b1, b2, b3, b4⟩ := HX13.out.cells
  go_wp2_with fail
  refine (eqSame AX2 _ cX2 _ AQ2 _ cQ2 _ z2 _ HOX2_13.out.ints HOQ2_13.out.ints (by omega)).mono ?_
  rintro e w14 ⟨rfl, hb14⟩
  have HX14 := hide (HX13.out.next hb14)
  have HOW0_14 := hide (HOW0_13.out.below hb14 (Nat.le_refl _))
  clear HOW0_13
  have HOW1_14 := hide (HOW1_13.out.below hb14 (Nat.le_refl _))
  clear HOW1_13
  have HOX1_14 := hide (HOX1_13.out.below hb14 (Nat.le_refl _))
  clear HOX1_13
  have HOX2_14 := hide (HOX2_13.out.below hb14 (Nat.le_refl _))
  clear HOX2_13
  have HOG0_14 := hide (HOG0_13.out.below hb14 (Nat.le_refl _))
  clear HOG0_13
  have HOG1_14 := hide (HOG1_13.out.below hb14 (Nat.le_refl _))
  clear HOG1_13
  have HOQ2_14 := hide (HOQ2_13.out.below hb14 (Nat.le_refl _))
  clear HOQ2_13
  clear hb14
  clear b0 b1 b2 b3 b4
  obtain ⟨b0, b1, b2, b3, b4⟩ := HX14.out.cells
  go_wp2_with fail
  refine (markInts' AX1 _ cX1 _ _ 1 z1 _ HOX1_14.out (by omega) (by omega) (by omega)).mono ?_
  rintro e w15 ⟨rfl, ho15, hg15⟩
  have HX15 := hide (HX14.out.grow' hg15 (fun g hg => Nat.lt_of_lt_of_le HX4.out.lt (HOX1_14.out.lt hg).1))
  have HOW0_15 := hide (HOW0_14.out.grown hg15 NW0X1.out)
  clear HOW0_14
  have HOW1_15 := hide (HOW1_14.out.grown hg15 NW1X1.out)
  clear HOW1_14
  have HOX2_15 := hide (HOX2_14.out.grown hg15 NX2X1.out)
  clear HOX2_14
  have HOG0_15 := hide (HOG0_14.out.grown hg15 NG0X1.out)
  clear HOG0_14
  have HOG1_15 := hide (HOG1_14.out.grown hg15 NG1X1.out)
  clear HOG1_14
  have HOX1_15 := hide ho15
  clear ho15 hg15 HOX1_14
  clear b0 b1 b2 b3 b4
  obtain ⟨b0, b1, b2, b3, b4⟩ := HX15.out.cells
  go_wp2_with fail
  refine (markInts' AX2 _ cX2 _ _ (1 + z1.length) z2 _ HOX2_15.out (by omega) (by omega) (by omega)).mono ?_
  rintro e w16 ⟨rfl, ho16, hg16⟩
  have HX16 := hide (HX15.out.grow' hg16 (fun g hg => Nat.lt_of_lt_of_le HX5.out.lt (HOX2_15.out.lt hg).1))
  have HOW0_16 := hide (HOW0_15.out.grown hg16 NW0X2.out)
  clear HOW0_15
  have HOW1_16 := hide (HOW1_15.out.grown hg16 NW1X2.out)
  clear HOW1_15
  have HOX1_16 := hide (HOX1_15.out.grown hg16 NX1X2.out)
  clear HOX1_15
  have HOG0_16 := hide (HOG0_15.out.grown hg16 NG0X2.out)
  clear HOG0_15
  have HOG1_16 := hide (HOG1_15.out.grown hg16 NG1X2.out)
  clear HOG1_15
  have HOX2_16 := hide ho16
  clear ho16 hg16 HOX2_15
  clear b0 b1 b2 b3 b4
  obtain ⟨b0, b1, b2, b3, b4⟩ := HX16.out.cells
  go_wp2_with fail
  refine (eqSame AG0 _ cG0 _ AW0 _ cW0 _ r0 _ HOG0_16.out.ints HOW0_16.out.ints (by omega)).mono ?_
  rintro e w17 ⟨rfl, hb17⟩
  have HX17 := hide (HX16.out.next hb17)
  have HOW0_17 := hide (HOW0_16.out.below hb17 (Nat.le_refl _))
  clear HOW0_16
  have HOW1_17 := hide (HOW1_16.out.below hb17 (Nat.le_refl _))
  clear HOW1_16
  have HOX1_17 := hide (HOX1_16.out.below hb17 (Nat.le_refl _))
  clear HOX1_16
  have HOX2_17 := hide (HOX2_16.out.below hb17 (Nat.le_refl _))
  clear HOX2_16
  have HOG0_17 := hide (HOG0_16.out.below hb17 (Nat.le_refl _))
  clear HOG0_16
  have HOG1_17 := hide (HOG1_16.out.below hb17 (Nat.le_refl _))
  clear HOG1_16
  clear hb17
  clear b0 b1 b2 b3 b4
  obtain ⟨b0, b1, b2, b3, b4⟩ := HX17.out.cells
  go_wp2_with fail
  refine (eqSame AG1 _ cG1 _ AW1 _ cW1 _ r1 _ HOG1_17.out.ints HOW1_17.out.ints (by omega)).mono ?_
  rintro e w18 ⟨rfl, hb18⟩
  have HX18 := hide (HX17.out.next hb18)
  have HOW0_18 := hide (HOW0_17.out.below hb18 (Nat.le_refl _))
  clear HOW0_17
  have HOW1_18 := hide (HOW1_17.out.below hb18 (Nat.le_refl _))
  clear HOW1_17
  have HOX1_18 := hide (HOX1_17.out.below hb18 (Nat.le_refl _))
  clear HOX1_17
  have HOX2_18 := hide (HOX2_17.out.below hb18 (Nat.le_refl _))
  clear HOX2_17
  have HOG0_18 := hide (HOG0_17.out.below hb18 (Nat.le_refl _))
  clear HOG0_17
  have HOG1_18 := hide (HOG1_17.out.below hb18 (Nat.le_refl _))
  clear HOG1_17
  clear hb18
  clear b0 b1 b2 b3 b4
  obtain ⟨b0, b1, b2, b3, b4⟩ := HX18.out.cells
  go_wp2_with fail
  refine (markInts' AG0 _ cG0 _ _ 1 r0 _ HOG0_18.out (by omega) (by omega) (by omega)).mono ?_
  rintro e w19 ⟨rfl, ho19, hg19⟩
  have HX19 := hide (HX18.out.grow' hg19 (fun g hg => Nat.lt_of_lt_of_le HX7.out.lt (HOG0_18.out.lt hg).1))
  have HOW0_19 := hide (HOW0_18.out.grown hg19 NW0G0.out)
  clear HOW0_18
  have HOW1_19 := hide (HOW1_18.out.grown hg19 NW1G0.out)
  clear HOW1_18
  have HOX1_19 := hide (HOX1_18.out.grown hg19 NX1G0.out)
  clear HOX1_18
  have HOX2_19 := hide (HOX2_18.out.grown hg19 NX2G0.out)
  clear HOX2_18
  have HOG1_19 := hide (HOG1_18.out.grown hg19 NG1G0.out)
  clear HOG1_18
  have HOG0_19 := hide ho19
  clear ho19 hg19 HOG0_18
  clear b0 b1 b2 b3 b4
  obtain ⟨b0, b1, b2, b3, b4⟩ := HX19.out.cells
  go_wp2_with fail
  refine (markInts' AG1 _ cG1 _ _ (1 + r0.length) r1 _ HOG1_19.out (by omega) (by omega) (by omega)).mono ?_
  rintro e w20 ⟨rfl, ho20, hg20⟩
  have HX20 := hide (HX19.out.grow' hg20 (fun g hg => Nat.lt_of_lt_of_le HX7.out.lt (HOG1_19.out.lt hg).1))
  have HOW0_20 := hide (HOW0_19.out.grown hg20 NW0G1.out)
  clear HOW0_19
  have HOW1_20 := hide (HOW1_19.out.grown hg20 NW1G1.out)
  clear HOW1_19
  have HOX1_20 := hide (HOX1_19.out.grown hg20 NX1G1.out)
  clear HOX1_19
  have HOX2_20 := hide (HOX2_19.out.grown hg20 NX2G1.out)
  clear HOX2_19
  have HOG0_20 := hide (HOG0_19.out.grown hg20 NG0G1.out)
  clear HOG0_19
  have HOG1_20 := hide ho20
  clear ho20 hg20 HOG1_19
  clear b0 b1 b2 b3 b4
  obtain ⟨b0, b1, b2, b3, b4⟩ := HX20.out.cells
  go_wp2_with fail
  refine (heldInts' AG0 _ cG0 _ _ 1 _ (HOG0_20.out.ints' (marks_len _ _)) (by omega) (by omega) (by omega)).mono ?_
  rintro e w20 ⟨rfl, rfl⟩
  go_wp2_with fail
  refine (heldInts' AG1 _ cG1 _ _ (1 + r0.length) _ (HOG1_20.out.ints' (marks_len _ _)) (by omega) (by omega) (by omega)).mono ?_
  rintro e w20 ⟨rfl, rfl⟩
  go_wp2_with fail
  refine (toCode a0x a0y a0z a0l a0c _).mono ?_
  rintro e w21 ⟨rfl, hb21⟩
  have HX21 := hide (HX20.out.next hb21)
  have HOW0_21 := hide (HOW0_20.out.below hb21 (Nat.le_refl _))
  clear HOW0_20
  have HOW1_21 := hide (HOW1_20.out.below hb21 (Nat.le_refl _))
  clear HOW1_20
  have HOX1_21 := hide (HOX1_20.out.below hb21 (Nat.le_refl _))
  clear HOX1_20
  have HOX2_21 := hide (HOX2_20.out.below hb21 (Nat.le_refl _))
  clear HOX2_20
  have HOG0_21 := hide (HOG0_20.out.below hb21 (Nat.le_refl _))
  clear HOG0_20
  have HOG1_21 := hide (HOG1_20.out.below hb21 (Nat.le_refl _))
  clear HOG1_20
  clear hb21
  clear b0 b1 b2 b3 b4
  obtain ⟨b0, b1, b2, b3, b4⟩ := HX21.out.cells
  go_wp2_with fail
  refine (toInts a1 _ c1 z1 _ ((HI1.out.below HX21.out.2).more HX21.out.2.size) (by omega)).mono ?_
  rintro e w22 ⟨AR1, cR1, rfl, hcR1, hoR1, hb22⟩
  have HX22 := hide (HX21.out.next hb22)
  have NW0R1 := hide (HOW0_21.out.ne hoR1 (Nat.le_refl _))
  have NR1W0 := hide (HOW0_21.out.ne' hoR1 (Nat.le_refl _))
  have NW1R1 := hide (HOW1_21.out.ne hoR1 (Nat.le_refl _))
  have NR1W1 := hide (HOW1_21.out.ne' hoR1 (Nat.le_refl _))
  have NX1R1 := hide (HOX1_21.out.ne hoR1 (Nat.le_refl _))
  have NR1X1 := hide (HOX1_21.out.ne' hoR1 (Nat.le_refl _))
  have NX2R1 := hide (HOX2_21.out.ne hoR1 (Nat.le_refl _))
  have NR1X2 := hide (HOX2_21.out.ne' hoR1 (Nat.le_refl _))
  have NG0R1 := hide (HOG0_21.out.ne hoR1 (Nat.le_refl _))
  have NR1G0 := hide (HOG0_21.out.ne' hoR1 (Nat.le_refl _))
  have NG1R1 := hide (HOG1_21.out.ne hoR1 (Nat.le_refl _))
  have NR1G1 := hide (HOG1_21.out.ne' hoR1 (Nat.le_refl _))
  have HOW0_22 := hide (HOW0_21.out.below hb22 (Nat.le_refl _))
  clear HOW0_21
  have HOW1_22 := hide (HOW1_21.out.below hb22 (Nat.le_refl _))
  clear HOW1_21
  have HOX1_22 := hide (HOX1_21.out.below hb22 (Nat.le_refl _))
  clear HOX1_21
  have HOX2_22 := hide (HOX2_21.out.below hb22 (Nat.le_refl _))
  clear HOX2_21
  have HOG0_22 := hide (HOG0_21.out.below hb22 (Nat.le_refl _))
  clear HOG0_21
  have HOG1_22 := hide (HOG1_21.out.below hb22 (Nat.le_refl _))
  clear HOG1_21
  have HOR1_22 := hide hoR1
  clear hoR1
  clear hb22
  clear b0 b1 b2 b3 b4
  obtain ⟨b0, b1, b2, b3, b4⟩ := HX22.out.cells
  go_wp2_with fail
  refine (toInts a2 _ c2 z2 _ ((HI2.out.below HX22.out.2).more HX22.out.2.size) (by omega)).mono ?_
  rintro e w23 ⟨AR2, cR2, rfl, hcR2, hoR2, hb23⟩
  have HX23 := hide (HX22.out.next hb23)
  have NW0R2 := hide (HOW0_22.out.ne hoR2 (Nat.le_refl _))
  have NR2W0 := hide (HOW0_22.out.ne' hoR2 (Nat.le_refl _))
  have NW1R2 := hide (HOW1_22.out.ne hoR2 (Nat.le_refl _))
  have NR2W1 := hide (HOW1_22.out.ne' hoR2 (Nat.le_refl _))
  have NX1R2 := hide (HOX1_22.out.ne hoR2 (Nat.le_refl _))
  have NR2X1 := hide (HOX1_22.out.ne' hoR2 (Nat.le_refl _))
  have NX2R2 := hide (HOX2_22.out.ne hoR2 (Nat.le_refl _))
  have NR2X2 := hide (HOX2_22.out.ne' hoR2 (Nat.le_refl _))
  have NG0R2 := hide (HOG0_22.out.ne hoR2 (Nat.le_refl _))
  have NR2G0 := hide (HOG0_22.out.ne' hoR2 (Nat.le_refl _))
  have NG1R2 := hide (HOG1_22.out.ne hoR2 (Nat.le_refl _))
  have NR2G1 := hide (HOG1_22.out.ne' hoR2 (Nat.le_refl _))
  have NR1R2 := hide (HOR1_22.out.ne hoR2 (Nat.le_refl _))
  have NR2R1 := hide (HOR1_22.out.ne' hoR2 (Nat.le_refl _))
  have HOW0_23 := hide (HOW0_22.out.below hb23 (Nat.le_refl _))
  clear HOW0_22
  have HOW1_23 := hide (HOW1_22.out.below hb23 (Nat.le_refl _))
  clear HOW1_22
  have HOX1_23 := hide (HOX1_22.out.below hb23 (Nat.le_refl _))
  clear HOX1_22
  have HOX2_23 := hide (HOX2_22.out.below hb23 (Nat.le_refl _))
  clear HOX2_22
  have HOG0_23 := hide (HOG0_22.out.below hb23 (Nat.le_refl _))
  clear HOG0_22
  have HOG1_23 := hide (HOG1_22.out.below hb23 (Nat.le_refl _))
  clear HOG1_22
  have HOR1_23 := hide (HOR1_22.out.below hb23 (Nat.le_refl _))
  clear HOR1_22
  have HOR2_23 := hide hoR2
  clear hoR2
  clear hb23
  clear b0 b1 b2 b3 b4
  obtain ⟨b0, b1, b2, b3, b4⟩ := HX23.out.cells
  go_wp2_with fail
  refine (HIM.out AR1 _ cR1 AR2 _ cR2 _ _ HOR1_23.out.ints HOR2_23.out.ints hcR1 hcR2 (Nat.le_refl _)).mono ?_
  rintro e w24 ⟨AH0, cH0, AH1, cH1, rfl, hcH0, hcH1, hoH0, hoH1, hdH, hb24⟩
  have HX24 := hide (HX23.out.next hb24)
  have NW0H0 := hide (HOW0_23.out.ne hoH0 (Nat.le_refl _))
  have NH0W0 := hide (HOW0_23.out.ne' hoH0 (Nat.le_refl _))
  have NW1H0 := hide (HOW1_23.out.ne hoH0 (Nat.le_refl _))
  have NH0W1 := hide (HOW1_23.out.ne' hoH0 (Nat.le_refl _))
  have NX1H0 := hide (HOX1_23.out.ne hoH0 (Nat.le_refl _))
  have NH0X1 := hide (HOX1_23.out.ne' hoH0 (Nat.le_refl _))
  have NX2H0 := hide (HOX2_23.out.ne hoH0 (Nat.le_refl _))
  have NH0X2 := hide (HOX2_23.out.ne' hoH0 (Nat.le_refl _))
  have NG0H0 := hide (HOG0_23.out.ne hoH0 (Nat.le_refl _))
  have NH0G0 := hide (HOG0_23.out.ne' hoH0 (Nat.le_refl _))
  have NG1H0 := hide (HOG1_23.out.ne hoH0 (Nat.le_refl _))
  have NH0G1 := hide (HOG1_23.out.ne' hoH0 (Nat.le_refl _))
  have NR1H0 := hide (HOR1_23.out.ne hoH0 (Nat.le_refl _))
  have NH0R1 := hide (HOR1_23.out.ne' hoH0 (Nat.le_refl _))
  have NR2H0 := hide (HOR2_23.out.ne hoH0 (Nat.le_refl _))
  have NH0R2 := hide (HOR2_23.out.ne' hoH0 (Nat.le_refl _))
  have NW0H1 := hide (HOW0_23.out.ne hoH1 (Nat.le_refl _))
  have NH1W0 := hide (HOW0_23.out.ne' hoH1 (Nat.le_refl _))
  have NW1H1 := hide (HOW1_23.out.ne hoH1 (Nat.le_refl _))
  have NH1W1 := hide (HOW1_23.out.ne' hoH1 (Nat.le_refl _))
  have NX1H1 := hide (HOX1_23.out.ne hoH1 (Nat.le_refl _))
  have NH1X1 := hide (HOX1_23.out.ne' hoH1 (Nat.le_refl _))
  have NX2H1 := hide (HOX2_23.out.ne hoH1 (Nat.le_refl _))
  have NH1X2 := hide (HOX2_23.out.ne' hoH1 (Nat.le_refl _))
  have NG0H1 := hide (HOG0_23.out.ne hoH1 (Nat.le_refl _))
  have NH1G0 := hide (HOG0_23.out.ne' hoH1 (Nat.le_refl _))
  have NG1H1 := hide (HOG1_23.out.ne hoH1 (Nat.le_refl _))
  have NH1G1 := hide (HOG1_23.out.ne' hoH1 (Nat.le_refl _))
  have NR1H1 := hide (HOR1_23.out.ne hoH1 (Nat.le_refl _))
  have NH1R1 := hide (HOR1_23.out.ne' hoH1 (Nat.le_refl _))
  have NR2H1 := hide (HOR2_23.out.ne hoH1 (Nat.le_refl _))
  have NH1R2 := hide (HOR2_23.out.ne' hoH1 (Nat.le_refl _))
  have HOW0_24 := hide (HOW0_23.out.below hb24 (Nat.le_refl _))
  clear HOW0_23
  have HOW1_24 := hide (HOW1_23.out.below hb24 (Nat.le_refl _))
  clear HOW1_23
  have HOX1_24 := hide (HOX1_23.out.below hb24 (Nat.le_refl _))
  clear HOX1_23
  have HOX2_24 := hide (HOX2_23.out.below hb24 (Nat.le_refl _))
  clear HOX2_23
  have HOG0_24 := hide (HOG0_23.out.below hb24 (Nat.le_refl _))
  clear HOG0_23
  have HOG1_24 := hide (HOG1_23.out.below hb24 (Nat.le_refl _))
  clear HOG1_23
  have HOR1_24 := hide (HOR1_23.out.below hb24 (Nat.le_refl _))
  clear HOR1_23
  have HOR2_24 := hide (HOR2_23.out.below hb24 (Nat.le_refl _))
  clear HOR2_23
  have HOH0_24 := hide hoH0
  clear hoH0
  have HOH1_24 := hide hoH1
  clear hoH1
  clear hb24
  clear b0 b1 b2 b3 b4
  obtain ⟨b0, b1, b2, b3, b4⟩ := HX24.out.cells
  have NH0H1 := hide hdH.1
  have NH1H0 := hide hdH.2
  clear hdH
  go_wp2_with fail
  refine (eqSame AH0 _ cH0 _ AW0 _ cW0 _ r0 _ HOH0_24.out.ints HOW0_24.out.ints (by omega)).mono ?_
  rintro e w25 ⟨rfl, hb25⟩
  have HX25 := hide (HX24.out.next hb25)
  have HOW0_25 := hide (HOW0_24.out.below hb25 (Nat.le_refl _))
  clear HOW0_24
  have HOW1_25 := hide (HOW1_24.out.below hb25 (Nat.le_refl _))
  clear HOW1_24
  have HOX1_25 := hide (HOX1_24.out.below hb25 (Nat.le_refl _))
  clear HOX1_24
  have HOX2_25 := hide (HOX2_24.out.below hb25 (Nat.le_refl _))
  clear HOX2_24
  have HOG0_25 := hide (HOG0_24.out.below hb25 (Nat.le_refl _))
  clear HOG0_24
  have HOG1_25 := hide (HOG1_24.out.below hb25 (Nat.le_refl _))
  clear HOG1_24
  have HOR1_25 := hide (HOR1_24.out.below hb25 (Nat.le_refl _))
  clear HOR1_24
  have HOR2_25 := hide (HOR2_24.out.below hb25 (Nat.le_refl _))
  clear HOR2_24
  have HOH0_25 := hide (HOH0_24.out.below hb25 (Nat.le_refl _))
  clear HOH0_24
  have HOH1_25 := hide (HOH1_24.out.below hb25 (Nat.le_refl _))
  clear HOH1_24
  clear hb25
  clear b0 b1 b2 b3 b4
  obtain ⟨b0, b1, b2, b3, b4⟩ := HX25.out.cells
  go_wp2_with fail
  refine (eqSame AH1 _ cH1 _ AW1 _ cW1 _ r1 _ HOH1_25.out.ints HOW1_25.out.ints (by omega)).mono ?_
  rintro e w26 ⟨rfl, hb26⟩
  have HX26 := hide (HX25.out.next hb26)
  have HOW0_26 := hide (HOW0_25.out.below hb26 (Nat.le_refl _))
  clear HOW0_25
  have HOW1_26 := hide (HOW1_25.out.below hb26 (Nat.le_refl _))
  clear HOW1_25
  have HOX1_26 := hide (HOX1_25.out.below hb26 (Nat.le_refl _))
  clear HOX1_25
  have HOX2_26 := hide (HOX2_25.out.below hb26 (Nat.le_refl _))
  clear HOX2_25
  have HOG0_26 := hide (HOG0_25.out.below hb26 (Nat.le_refl _))
  clear HOG0_25
  have HOG1_26 := hide (HOG1_25.out.below hb26 (Nat.le_refl _))
  clear HOG1_25
  have HOR1_26 := hide (HOR1_25.out.below hb26 (Nat.le_refl _))
  clear HOR1_25
  have HOR2_26 := hide (HOR2_25.out.below hb26 (Nat.le_refl _))
  clear HOR2_25
  have HOH0_26 := hide (HOH0_25.out.below hb26 (Nat.le_refl _))
  clear HOH0_25
  have HOH1_26 := hide (HOH1_25.out.below hb26 (Nat.le_refl _))
  clear HOH1_25
  clear hb26
  clear b0 b1 b2 b3 b4
  obtain ⟨b0, b1, b2, b3, b4⟩ := HX26.out.cells
  go_wp2_with fail
  refine (heldInts' AG0 _ cG0 _ _ 1 _ (HOG0_26.out.ints' (marks_len _ _)) (by omega) (by omega) (by omega)).mono ?_
  rintro e w26 ⟨rfl, rfl⟩
  go_wp2_with fail
  refine (heldInts' AG1 _ cG1 _ _ (1 + r0.length) _ (HOG1_26.out.ints' (marks_len _ _)) (by omega) (by omega) (by omega)).mono ?_
  rintro e w26 ⟨rfl, rfl⟩
  go_wp2_with fail
  go_ret
  exact ⟨rfl, HX26.out.2⟩
end Go.Proofs.Ytdniocdmncldjaa
