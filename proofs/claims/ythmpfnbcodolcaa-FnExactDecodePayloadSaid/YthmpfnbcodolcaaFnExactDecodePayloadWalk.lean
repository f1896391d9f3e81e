/-
  The walk of the law FnExactDecodePayload: it returns true, and nothing that was there before is changed.
  Condition: none.
-/
import Derived.Test.YthmpfnbcodolcaaPy7
import Derived.Test.YthmpfnbcodolcaaLawKit
import Derived.Test.YthmpfnbcodolcaaFLaw
import Derived.Test.YthmpfnbcodolcaaFShell
import Derived.Test.YthmpfnbcodolcaaMarks
namespace Go.Proofs.Ythmpfnbcodolcaa
open Go.RowKit
set_option linter.unusedVariables false

set_option maxRecDepth 100000 in
set_option maxHeartbeats 4000000 in
theorem fnExactDecodePayloadWalk (a0x a0y a0z : Int) (a1 : Option Addr) (n1 c1 : Nat) (z1 : List Int) (w : World) (h0x : (Lit.int .i64 a0x).wf = true) (h0y : (Lit.int .i64 a0y).wf = true) (h0z : (Lit.int .i64 a0z).wf = true) (h1 : Came .i64 w a1 n1 c1 z1) :
    Calls Try.prog 9 #[.agg #[.int .i64 a0x, .int .i64 a0y, .int .i64 a0z], .slice a1 n1 c1] w fun e w' => e = .returned (.bool true) ∧ Below w.heap.size w w' := by
  clear h0x h0y h0z
  have HX0 := hide (Box.start w 50 a0x a0y a0z)
  obtain ⟨hI1, hnc1, hcm1, hwf1⟩ := h1
  have HI1 := hide hI1
  obtain rfl : z1.length = n1 := hI1.len
  clear hI1 hwf1
  unfold maxLen at hcm1
  by_cases hbig1 : 1048576 < z1.length
  · go_enter Try.func9, Try.ntmps9
    go_wp2_with fail
    go_ret
    exact ⟨rfl, HX0.out.2⟩
  have hn1 : z1.length ≤ 1048576 := by omega
  obtain ⟨k0, s0, HS, HM⟩ := dp_both a0x a0y a0z z1 hn1
  have HSP := hide HS
  have HIM := hide HM
  clear HS HM
  have hnek0 : (k0 != k0) = false := by simp
  go_enter Try.func9, Try.ntmps9
  go_wp2_with fail
  refine (toField a0x a0y a0z _).mono ?_
  rintro e w1 ⟨rfl, hb1⟩
  have HX1 := hide (HX0.out.next hb1)
  clear hb1
  obtain ⟨b0, b1, b2⟩ := HX1.out.cells
  go_wp2_with fail
  refine (toInts a1 _ c1 z1 _ ((HI1.out.below HX1.out.2).more HX1.out.2.size) (by omega)).mono ?_
  rintro e w2 ⟨AP1, cP1, rfl, hcP1, hoP1, hb2⟩
  have HX2 := hide (HX1.out.next hb2)
  have HOP1_2 := hide hoP1
  clear hoP1
  clear hb2
  clear b0 b1 b2
  obtain ⟨b0, b1, b2⟩ := HX2.out.cells
  go_wp2_with fail
  refine (HSP.out AP1 _ cP1 _ _ HOP1_2.out.ints (Nat.le_refl _)).mono ?_
  rintro e w3 ⟨rfl, hb3⟩
  have HX3 := hide (HX2.out.next hb3)
  have HOP1_3 := hide (HOP1_2.out.below hb3 (Nat.le_refl _))
  clear HOP1_2
  clear hb3
  clear b0 b1 b2
  obtain ⟨b0, b1, b2⟩ := HX3.out.cells
  go_wp2_with fail
  refine (toInts a1 _ c1 z1 _ ((HI1.out.below HX3.out.2).more HX3.out.2.size) (by omega)).mono ?_
  rintro e w4 ⟨AX1, cX1, rfl, hcX1, hoX1, hb4⟩
  have HX4 := hide (HX3.out.next hb4)
  have HOX1_4 := hide hoX1
  clear hoX1
  clear hb4
  clear b0 b1 b2
  obtain ⟨b0, b1, b2⟩ := HX4.out.cells
  go_wp2_with fail
  refine (toField a0x a0y a0z _).mono ?_
  rintro e w5 ⟨rfl, hb5⟩
  have HX5 := hide (HX4.out.next hb5)
  have HOX1_5 := hide (HOX1_4.out.below hb5 (Nat.le_refl _))
  clear HOX1_4
  clear hb5
  clear b0 b1 b2
  obtain ⟨b0, b1, b2⟩ := HX5.out.cells
  go_wp2_with fail
  refine (HIM.out AX1 _ cX1 _ _ HOX1_5.out.ints (Nat.le_refl _)).mono ?_
  rintro e w6 ⟨rfl, hb6⟩
  have HX6 := hide (HX5.out.next hb6)
  have HOX1_6 := hide (HOX1_5.out.below hb6 (Nat.le_refl _))
  clear HOX1_5
  clear hb6
  clear b0 b1 b2
  obtain ⟨b0, b1, b2⟩ := HX6.out.cells
  go_wp2_with fail
  refine (toInts a1 _ c1 z1 _ ((HI1.out.below HX6.out.2).more HX6.out.2.size) (by omega)).mono ?_
  rintro e w7 ⟨AQ1, cQ1, rfl, hcQ1, hoQ1, hb7⟩
  have HX7 := hide (HX6.out.next hb7)
  have NX1Q1 := hide (HOX1_6.out.ne hoQ1 (Nat.le_refl _))
  have NQ1X1 := hide (HOX1_6.out.ne' hoQ1 (Nat.le_refl _))
  have HOX1_7 := hide (HOX1_6.out.below hb7 (Nat.le_refl _))
  clear HOX1_6
  have HOQ1_7 := hide hoQ1
  clear hoQ1
  clear hb7
  clear b0 b1 b2
  obtain ⟨b0, b1, b2⟩ := HX7.out.cells
  go_wp2_with fail
  refine (eqSame AX1 _ cX1 _ AQ1 _ cQ1 _ z1 _ HOX1_7.out.ints HOQ1_7.out.ints (by omega)).mono ?_
  rintro e w8 ⟨rfl, hb8⟩
  have HX8 := hide (HX7.out.next hb8)
  have HOX1_8 := hide (HOX1_7.out.below hb8 (Nat.le_refl _))
  clear HOX1_7
  have HOQ1_8 := hide (HOQ1_7.out.below hb8 (Nat.le_refl _))
  clear HOQ1_7
  clear hb8
  clear b0 b1 b2
  obtain ⟨b0, b1, b2⟩ := HX8.out.cells
  go_wp2_with fail
  go_ret
  exact ⟨rfl, HX8.out.2⟩
end Go.Proofs.Ythmpfnbcodolcaa
