/-
  The walk of the law FnExactDecodePart: it returns true, and nothing that was there before is changed.
  Condition: none.
-/
import Derived.Test.YthbmfaogjaahoaaRB
import Derived.Test.YthbmfaogjaahoaaRA
import Derived.Test.YthbmfaogjaahoaaLawKit
import Derived.Test.YthbmfaogjaahoaaFLaw
import Derived.Test.YthbmfaogjaahoaaFShell
import Derived.Test.YthbmfaogjaahoaaMarks
namespace Go.Proofs.Ythbmfaogjaahoaa
open Go.RowKit
set_option linter.unusedVariables false

set_option maxRecDepth 100000 in
set_option maxHeartbeats 4000000 in
theorem fnExactDecodePartWalk (a0x a0y a0z : Int) (a1 : Option Addr) (n1 c1 : Nat) (z1 : List Int) (w : World) (h0x : (Lit.int .i64 a0x).wf = true) (h0y : (Lit.int .i64 a0y).wf = true) (h0z : (Lit.int .i64 a0z).wf = true) (h1 : Came .i64 w a1 n1 c1 z1) :
    Calls Try.prog 5 #[.agg #[.int .i64 a0x, .int .i64 a0y, .int .i64 a0z], .slice a1 n1 c1] w fun e w' => e = .returned (.bool true) ∧ Below w.heap.size w w' := by
  clear h0x h0y h0z
  have HX0 := hide (Box.start w 32 a0x a0y a0z)
  obtain ⟨hI1, hnc1, hcm1, hwf1⟩ := h1
  have HI1 := hide hI1
  obtain rfl : z1.length = n1 := hI1.len
  clear hI1 hwf1
  unfold maxLen at hcm1
  by_cases hbig1 : 1048576 < z1.length
  · go_enter Try.func5, Try.ntmps5
    go_wp2_with fail
    go_ret
    exact ⟨rfl, HX0.out.2⟩
  have hn1 : z1.length ≤ 1048576 := by omega
  obtain ⟨X0, k0, HS, HM⟩ := dpt_both a0x a0y a0z z1 hn1
  have HSP := hide HS
  have HIM := hide HM
  clear HS HM
  obtain ⟨xi, xc, xp, xt⟩ := X0
  have hnek0 : (k0 != k0) = false := by simp
  go_enter Try.func5, Try.ntmps5
  go_wp2_with fail
  refine (toField a0x a0y a0z _).mono ?_
  rintro e w1 ⟨rfl, hb1⟩
  have HX1 := hide (HX0.out.next hb1)
  clear hb1
  obtain ⟨b0, b1, b2⟩ := HX1.out.cells
  go_wp2_with fail
  refine (toInts a1 _ c1 z1 _ ((HI1.out.below HX1.out.2).more HX1.out.2.size) (by omega)).mono ?_
  rintro e w2 ⟨AP1, cP1, rfl, hcP1, hoP1, hb2⟩
  have HX2 := hide (HX1.out.next hb2)
  have HOP1_2 := hide hoP1
  clear hoP1
  clear hb2
  clear b0 b1 b2
  obtain ⟨b0, b1, b2⟩ := HX2.out.cells
  go_wp2_with fail
  refine (HSP.out AP1 _ cP1 _ _ HOP1_2.out.ints (Nat.le_refl _)).mono ?_
  rintro e w3 ⟨rfl, hb3⟩
  have HS3 := hide (Box4.start w3 26 xi xc xp xt)
  have HX3 := hide ((HX2.out.next hb3).next HS3.out.2)
  clear hb3 HOP1_2
  clear b0 b1 b2
  obtain ⟨wa, hwa⟩ : ∃ wa, w3.alloc (.cells #[.int .i64 xi, .int .i64 xc, .int .i64 xp, .string xt] 26) = wa := ⟨_, rfl⟩
  rw [hwa] at HS3 HX3
  obtain ⟨b0, b1, b2⟩ := HX3.out.cells
  go_wp2_with fail
  clear hwa
  refine (toInts a1 _ c1 z1 _ ((HI1.out.below HX3.out.2).more HX3.out.2.size) (by omega)).mono ?_
  rintro e w4 ⟨AX1, cX1, rfl, hcX1, hoX1, hb4⟩
  have HX4 := hide (HX3.out.next hb4)
  have HS4 := hide (HS3.out.next hb4)
  have HOX1_4 := hide hoX1
  clear hoX1
  clear hb4
  clear b0 b1 b2
  obtain ⟨b0, b1, b2⟩ := HX4.out.cells
  go_wp2_with fail
  refine (toField a0x a0y a0z _).mono ?_
  rintro e w5 ⟨rfl, hb5⟩
  have HX5 := hide (HX4.out.next hb5)
  have HS5 := hide (HS4.out.next hb5)
  have HOX1_5 := hide (HOX1_4.out.below hb5 (Nat.le_refl _))
  clear HOX1_4
  clear hb5
  clear b0 b1 b2
  obtain ⟨b0, b1, b2⟩ := HX5.out.cells
  go_wp2_with fail
  refine (HIM.out AX1 _ cX1 _ _ HOX1_5.out.ints (Nat.le_refl _)).mono ?_
  rintro e w6 ⟨rfl, hb6⟩
  have HS6 := hide (HS5.out.next hb6)
  have HT6 := hide (Box4.start w6 26 xi xc xp xt)
  have HS7 := hide (HS6.out.next HT6.out.2)
  have HX6 := hide ((HX5.out.next hb6).next HT6.out.2)
  have HOX1_6 := hide ((HOX1_5.out.below hb6 (Nat.le_refl _)).below HT6.out.2 (Nat.le_refl _))
  clear HOX1_5 hb6 b0 b1 b2
  obtain ⟨wb, hwb⟩ : ∃ wb, w6.alloc (.cells #[.int .i64 xi, .int .i64 xc, .int .i64 xp, .string xt] 26) = wb := ⟨_, rfl⟩
  rw [hwb] at HT6 HS7 HX6 HOX1_6
  obtain ⟨b0, b1, b2⟩ := HX6.out.cells
  obtain ⟨s0, s1, s2, s3⟩ := HS7.out.cells
  obtain ⟨t0, t1, t2, t3⟩ := HT6.out.cells
  go_wp2_with fail
  clear hwb s0 s1 s2 s3 t0 t1 t2 t3
  refine (eqPt_same xi xc xp xt _).mono ?_
  rintro e w9 ⟨rfl, hb9⟩
  have HX9 := hide (HX6.out.next hb9)
  have HOX1_9 := hide (HOX1_6.out.below hb9 (Nat.le_refl _))
  clear HX6 HOX1_6 hb9 b0 b1 b2
  have HX6 := HX9
  have HOX1_6 := HOX1_9
  clear HX9 HOX1_9
  obtain ⟨b0, b1, b2⟩ := HX6.out.cells
  go_wp2_with fail
  refine (toInts a1 _ c1 z1 _ ((HI1.out.below HX6.out.2).more HX6.out.2.size) (by omega)).mono ?_
  rintro e w7 ⟨AQ1, cQ1, rfl, hcQ1, hoQ1, hb7⟩
  have HX7 := hide (HX6.out.next hb7)
  have NX1Q1 := hide (HOX1_6.out.ne hoQ1 (Nat.le_refl _))
  have NQ1X1 := hide (HOX1_6.out.ne' hoQ1 (Nat.le_refl _))
  have HOX1_7 := hide (HOX1_6.out.below hb7 (Nat.le_refl _))
  clear HOX1_6
  have HOQ1_7 := hide hoQ1
  clear hoQ1
  clear hb7
  clear b0 b1 b2
  obtain ⟨b0, b1, b2⟩ := HX7.out.cells
  go_wp2_with fail
  refine (eqSame AX1 _ cX1 _ AQ1 _ cQ1 _ z1 _ HOX1_7.out.ints HOQ1_7.out.ints (by omega)).mono ?_
  rintro e w8 ⟨rfl, hb8⟩
  have HX8 := hide (HX7.out.next hb8)
  have HOX1_8 := hide (HOX1_7.out.below hb8 (Nat.le_refl _))
  clear HOX1_7
  have HOQ1_8 := hide (HOQ1_7.out.below hb8 (Nat.le_refl _))
  clear HOQ1_7
  clear hb8
  clear b0 b1 b2
  obtain ⟨b0, b1, b2⟩ := HX8.out.cells
  go_wp2_with fail
  go_ret
  exact ⟨rfl, HX8.out.2⟩
end Go.Proofs.Ythbmfaogjaahoaa
