/-
  The walk of the law FnExactFormatShare: it returns true, and nothing that was there before is changed.
  Condition: none.
-/
import Derived.Test.YtkaconpbmppekaaWdB
import Derived.Test.YtkaconpbmppekaaLawKit
import Derived.Test.YtkaconpbmppekaaWShell
import Derived.Test.YtkaconpbmppekaaWLaw
namespace Go.Proofs.Ytkaconpbmppekaa
open Go.RowKit
set_option linter.unusedVariables false

set_option maxRecDepth 100000 in
set_option maxHeartbeats 4000000 in
theorem fnExactFormatShareWalk (a0x a0y a0z : Int) (a1 : Option Addr) (n1 c1 : Nat) (z1 : List Int) (a2 : Option Addr) (n2 c2 : Nat) (z2 : List Int) (w : World) (h0x : (Lit.int .i64 a0x).wf = true) (h0y : (Lit.int .i64 a0y).wf = true) (h0z : (Lit.int .i64 a0z).wf = true) (h1 : Came .i64 w a1 n1 c1 z1) (h2 : Came .i64 w a2 n2 c2 z2) :
    Calls Try.prog 11 #[.agg #[.int .i64 a0x, .int .i64 a0y, .int .i64 a0z], .slice a1 n1 c1, .slice a2 n2 c2] w fun e w' => e = .returned (.bool true) ∧ Below w.heap.size w w' := by
  have hL := bd_i64 h0y
  clear h0x h0y h0z
  have HX0 := hide (Box.start w 50 a0x a0y a0z)
  obtain ⟨hI1, hnc1, hcm1, hwf1⟩ := h1
  have HI1 := hide hI1
  obtain rfl : z1.length = n1 := hI1.len
  clear hI1 hwf1
  unfold maxLen at hcm1
  obtain ⟨hI2, hnc2, hcm2, hwf2⟩ := h2
  have HI2 := hide hI2
  obtain rfl : z2.length = n2 := hI2.len
  clear hI2 hwf2
  unfold maxLen at hcm2
  by_cases hbig1 : 1048576 < z1.length
  · go_enter Try.func11, Try.ntmps11
    go_wp2_with fail
    go_ret
    exact ⟨rfl, HX0.out.2⟩
  have hn1 : z1.length ≤ 1048576 := by omega
  by_cases hbig2 : 1048576 < z2.length
  · go_enter Try.func11, Try.ntmps11
    go_wp2_with fail
    go_ret
    exact ⟨rfl, HX0.out.2⟩
  have hn2 : z2.length ≤ 1048576 := by omega
  obtain ⟨k0, k1, HS, HM⟩ := fs_both a0x a0y a0z z1 z2 hn1 hn2 hL
  have HSP := hide HS
  have HIM := hide HM
  clear HS HM
  have hnek0 : (k0 != k0) = false := by simp
  have hnek1 : (k1 != k1) = false := by simp
  go_enter Try.func11, Try.ntmps11
  go_wp2_with fail
  refine (toFormatCode a0x a0y a0z _).mono ?_
  rintro e w1 ⟨rfl, hb1⟩
  have HX1 := hide (HX0.out.next hb1)
  clear hb1
  obtain ⟨b0, b1, b2⟩ := HX1.out.cells
  go_wp2_with fail
  refine (toInts a1 _ c1 z1 _ ((HI1.out.below HX1.out.2).more HX1.out.2.size) (by omega)).mono ?_
  rintro e w2 ⟨AP1, cP1, rfl, hcP1, hoP1, hb2⟩
  have HX2 := hide (HX1.out.next hb2)
  have HOP1_2 := hide hoP1
  clear hoP1
  clear hb2
  clear b0 b1 b2
  obtain ⟨b0, b1, b2⟩ := HX2.out.cells
  go_wp2_with fail
  refine (toInts a2 _ c2 z2 _ ((HI2.out.below HX2.out.2).more HX2.out.2.size) (by omega)).mono ?_
  rintro e w3 ⟨AP2, cP2, rfl, hcP2, hoP2, hb3⟩
  have HX3 := hide (HX2.out.next hb3)
  have NP1P2 := hide (HOP1_2.out.ne hoP2 (Nat.le_refl _))
  have NP2P1 := hide (HOP1_2.out.ne' hoP2 (Nat.le_refl _))
  have HOP1_3 := hide (HOP1_2.out.below hb3 (Nat.le_refl _))
  clear HOP1_2
  have HOP2_3 := hide hoP2
  clear hoP2
  clear hb3
  clear b0 b1 b2
  obtain ⟨b0, b1, b2⟩ := HX3.out.cells
  go_wp2_with fail
  refine (HSP.out AP1 _ cP1 AP2 _ cP2 _ _ HOP1_3.out.ints HOP2_3.out.ints (Nat.le_refl _)).mono ?_
  rintro e w4 ⟨rfl, hb4⟩
  have HX4 := hide (HX3.out.next hb4)
  have HOP1_4 := hide (HOP1_3.out.below hb4 (Nat.le_refl _))
  clear HOP1_3
  have HOP2_4 := hide (HOP2_3.out.below hb4 (Nat.le_refl _))
  clear HOP2_3
  clear hb4
  clear b0 b1 b2
  obtain ⟨b0, b1, b2⟩ := HX4.out.cells
  go_wp2_with fail
  refine (toInts a1 _ c1 z1 _ ((HI1.out.below HX4.out.2).more HX4.out.2.size) (by omega)).mono ?_
  rintro e w5 ⟨AX1, cX1, rfl, hcX1, hoX1, hb5⟩
  have HX5 := hide (HX4.out.next hb5)
  have HOX1_5 := hide hoX1
  clear hoX1
  clear hb5
  clear b0 b1 b2
  obtain ⟨b0, b1, b2⟩ := HX5.out.cells
  go_wp2_with fail
  refine (toInts a2 _ c2 z2 _ ((HI2.out.below HX5.out.2).more HX5.out.2.size) (by omega)).mono ?_
  rintro e w6 ⟨AX2, cX2, rfl, hcX2, hoX2, hb6⟩
  have HX6 := hide (HX5.out.next hb6)
  have NX1X2 := hide (HOX1_5.out.ne hoX2 (Nat.le_refl _))
  have NX2X1 := hide (HOX1_5.out.ne' hoX2 (Nat.le_refl _))
  have HOX1_6 := hide (HOX1_5.out.below hb6 (Nat.le_refl _))
  clear HOX1_5
  have HOX2_6 := hide hoX2
  clear hoX2
  clear hb6
  clear b0 b1 b2
  obtain ⟨b0, b1, b2⟩ := HX6.out.cells
  go_wp2_with fail
  refine (toFormatCode a0x a0y a0z _).mono ?_
  rintro e w7 ⟨rfl, hb7⟩
  have HX7 := hide (HX6.out.next hb7)
  have HOX1_7 := hide (HOX1_6.out.below hb7 (Nat.le_refl _))
  clear HOX1_6
  have HOX2_7 := hide (HOX2_6.out.below hb7 (Nat.le_refl _))
  clear HOX2_6
  clear hb7
  clear b0 b1 b2
  obtain ⟨b0, b1, b2⟩ := HX7.out.cells
  go_wp2_with fail
  refine (HIM.out AX1 _ cX1 AX2 _ cX2 _ _ HOX1_7.out.ints HOX2_7.out.ints (Nat.le_refl _)).mono ?_
  rintro e w8 ⟨rfl, hb8⟩
  have HX8 := hide (HX7.out.next hb8)
  have HOX1_8 := hide (HOX1_7.out.below hb8 (Nat.le_refl _))
  clear HOX1_7
  have HOX2_8 := hide (HOX2_7.out.below hb8 (Nat.le_refl _))
  clear HOX2_7
  clear hb8
  clear b0 b1 b2
  obtain ⟨b0, b1, b2⟩ := HX8.out.cells
  go_wp2_with fail
  refine (toInts a1 _ c1 z1 _ ((HI1.out.below HX8.out.2).more HX8.out.2.size) (by omega)).mono ?_
  rintro e w9 ⟨AQ1, cQ1, rfl, hcQ1, hoQ1, hb9⟩
  have HX9 := hide (HX8.out.next hb9)
  have NX1Q1 := hide (HOX1_8.out.ne hoQ1 (Nat.le_refl _))
  have NQ1X1 := hide (HOX1_8.out.ne' hoQ1 (Nat.le_refl _))
  have NX2Q1 := hide (HOX2_8.out.ne hoQ1 (Nat.le_refl _))
  have NQ1X2 := hide (HOX2_8.out.ne' hoQ1 (Nat.le_refl _))
  have HOX1_9 := hide (HOX1_8.out.below hb9 (Nat.le_refl _))
  clear HOX1_8
  have HOX2_9 := hide (HOX2_8.out.below hb9 (Nat.le_refl _))
  clear HOX2_8
  have HOQ1_9 := hide hoQ1
  clear hoQ1
  clear hb9
  clear b0 b1 b2
  obtain ⟨b0, b1, b2⟩ := HX9.out.cells
  go_wp2_with fail
  refine (eqSame AX1 _ cX1 _ AQ1 _ cQ1 _ z1 _ HOX1_9.out.ints HOQ1_9.out.ints (by omega)).mono ?_
  rintro e w10 ⟨rfl, hb10⟩
  have HX10 := hide (HX9.out.next hb10)
  have HOX1_10 := hide (HOX1_9.out.below hb10 (Nat.le_refl _))
  clear HOX1_9
  have HOX2_10 := hide (HOX2_9.out.below hb10 (Nat.le_refl _))
  clear HOX2_9
  have HOQ1_10 := hide (HOQ1_9.out.below hb10 (Nat.le_refl _))
  clear HOQ1_9
  clear hb10
  clear b0 b1 b2
  obtain ⟨b0, b1, b2⟩ := HX10.out.cells
  go_wp2_with fail
  refine (toInts a2 _ c2 z2 _ ((HI2.out.below HX10.out.2).more HX10.out.2.size) (by omega)).mono ?_
  rintro e w11 ⟨AQ2, cQ2, rfl, hcQ2, hoQ2, hb11⟩
  have HX11 := hide (HX10.out.next hb11)
  have NX1Q2 := hide (HOX1_10.out.ne hoQ2 (Nat.le_refl _))
  have NQ2X1 := hide (HOX1_10.out.ne' hoQ2 (Nat.le_refl _))
  have NX2Q2 := hide (HOX2_10.out.ne hoQ2 (Nat.le_refl _))
  have NQ2X2 := hide (HOX2_10.out.ne' hoQ2 (Nat.le_refl _))
  have HOX1_11 := hide (HOX1_10.out.below hb11 (Nat.le_refl _))
  clear HOX1_10
  have HOX2_11 := hide (HOX2_10.out.below hb11 (Nat.le_refl _))
  clear HOX2_10
  have HOQ2_11 := hide hoQ2
  clear hoQ2
  clear hb11
  clear b0 b1 b2
  obtain ⟨b0, b1, b2⟩ := HX11.out.cells
  go_wp2_with fail
  refine (eqSame AX2 _ cX2 _ AQ2 _ cQ2 _ z2 _ HOX2_11.out.ints HOQ2_11.out.ints (by omega)).mono ?_
  rintro e w12 ⟨rfl, hb12⟩
  have HX12 := hide (HX11.out.next hb12)
  have HOX1_12 := hide (HOX1_11.out.below hb12 (Nat.le_refl _))
  clear HOX1_11
  have HOX2_12 := hide (HOX2_11.out.below hb12 (Nat.le_refl _))
  clear HOX2_11
  have HOQ2_12 := hide (HOQ2_11.out.below hb12 (Nat.le_refl _))
  clear HOQ2_11
  clear hb12
  clear b0 b1 b2
  obtain ⟨b0, b1, b2⟩ := HX12.out.cells
  go_wp2_with fail
  go_ret
  exact ⟨rfl, HX12.out.2⟩
end Go.Proofs.Ytkaconpbmppekaa
