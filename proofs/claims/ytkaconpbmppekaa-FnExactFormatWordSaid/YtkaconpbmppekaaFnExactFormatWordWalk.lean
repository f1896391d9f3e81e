/-
  The walk of the law FnExactFormatWord: it returns true, and nothing that was there before is changed.
  Condition: none.
-/
import Derived.Test.YtkaconpbmppekaaWd4
import Derived.Test.YtkaconpbmppekaaLawKit
import Derived.Test.YtkaconpbmppekaaWShell
import Derived.Test.YtkaconpbmppekaaWLaw
namespace Go.Proofs.Ytkaconpbmppekaa
open Go.RowKit
set_option linter.unusedVariables false

set_option maxRecDepth 100000 in
set_option maxHeartbeats 4000000 in
theorem fnExactFormatWordWalk (a0x a0y a0z : Int) (a1 : Int) (w : World) (h0x : (Lit.int .i64 a0x).wf = true) (h0y : (Lit.int .i64 a0y).wf = true) (h0z : (Lit.int .i64 a0z).wf = true) (h1 : (Lit.int .i64 a1).wf = true) :
    Calls Try.prog 8 #[.agg #[.int .i64 a0x, .int .i64 a0y, .int .i64 a0z], .int .i64 a1] w fun e w' => e = .returned (.bool true) ∧ Below w.heap.size w w' := by
  have hL := bd_i64 h0y
  clear h0x h0y h0z
  have HX0 := hide (Box.start w 50 a0x a0y a0z)
  obtain ⟨hlo1, hhi1⟩ := bd_i64 h1
  clear h1
  obtain ⟨r0, k0, hlr0, HS, HM⟩ := fw_both a0x a0y a0z a1 hL
  have HSP := hide HS
  have HIM := hide HM
  clear HS HM
  have hnek0 : (k0 != k0) = false := by simp
  go_enter Try.func8, Try.ntmps8
  go_wp2_with fail
  refine (toFormatCode a0x a0y a0z _).mono ?_
  rintro e w1 ⟨rfl, hb1⟩
  have HX1 := hide (HX0.out.next hb1)
  clear hb1
  obtain ⟨b0, b1, b2⟩ := HX1.out.cells
  go_wp2_with fail
  refine (HSP.out _).mono ?_
  rintro e w2 ⟨AW0, cW0, rfl, hcW0, hoW0, hb2⟩
  have HX2 := hide (HX1.out.next hb2)
  have HOW0_2 := hide hoW0
  clear hoW0
  clear hb2
  clear b0 b1 b2
  obtain ⟨b0, b1, b2⟩ := HX2.out.cells
  go_wp2_with fail
  refine (toFormatCode a0x a0y a0z _).mono ?_
  rintro e w3 ⟨rfl, hb3⟩
  have HX3 := hide (HX2.out.next hb3)
  have HOW0_3 := hide (HOW0_2.out.below hb3 (Nat.le_refl _))
  clear HOW0_2
  clear hb3
  clear b0 b1 b2
  obtain ⟨b0, b1, b2⟩ := HX3.out.cells
  go_wp2_with fail
  refine (HIM.out _).mono ?_
  rintro e w4 ⟨AG0, cG0, rfl, hcG0, hoG0, hb4⟩
  have HX4 := hide (HX3.out.next hb4)
  have NW0G0 := hide (HOW0_3.out.ne hoG0 (Nat.le_refl _))
  have NG0W0 := hide (HOW0_3.out.ne' hoG0 (Nat.le_refl _))
  have HOW0_4 := hide (HOW0_3.out.below hb4 (Nat.le_refl _))
  clear HOW0_3
  have HOG0_4 := hide hoG0
  clear hoG0
  clear hb4
  clear b0 b1 b2
  obtain ⟨b0, b1, b2⟩ := HX4.out.cells
  go_wp2_with fail
  refine (eqSame AG0 _ cG0 _ AW0 _ cW0 _ r0 _ HOG0_4.out.ints HOW0_4.out.ints (by omega)).mono ?_
  rintro e w5 ⟨rfl, hb5⟩
  have HX5 := hide (HX4.out.next hb5)
  have HOW0_5 := hide (HOW0_4.out.below hb5 (Nat.le_refl _))
  clear HOW0_4
  have HOG0_5 := hide (HOG0_4.out.below hb5 (Nat.le_refl _))
  clear HOG0_4
  clear hb5
  clear b0 b1 b2
  obtain ⟨b0, b1, b2⟩ := HX5.out.cells
  go_wp2_with fail
  refine (markInts' AG0 _ cG0 _ _ 1 r0 _ HOG0_5.out (by omega) (by omega) (by omega)).mono ?_
  rintro e w6 ⟨rfl, ho6, hg6⟩
  have HX6 := hide (HX5.out.grow' hg6 (fun g hg => Nat.lt_of_lt_of_le HX3.out.lt (HOG0_5.out.lt hg).1))
  have HOW0_6 := hide (HOW0_5.out.grown hg6 NW0G0.out)
  clear HOW0_5
  have HOG0_6 := hide ho6
  clear ho6 hg6 HOG0_5
  clear b0 b1 b2
  obtain ⟨b0, b1, b2⟩ := HX6.out.cells
  go_wp2_with fail
  refine (heldInts' AG0 _ cG0 _ _ 1 _ (HOG0_6.out.ints' (marks_len _ _)) (by omega) (by omega) (by omega)).mono ?_
  rintro e w6 ⟨rfl, rfl⟩
  go_wp2_with fail
  refine (toFormatCode a0x a0y a0z _).mono ?_
  rintro e w7 ⟨rfl, hb7⟩
  have HX7 := hide (HX6.out.next hb7)
  have HOW0_7 := hide (HOW0_6.out.below hb7 (Nat.le_refl _))
  clear HOW0_6
  have HOG0_7 := hide (HOG0_6.out.below hb7 (Nat.le_refl _))
  clear HOG0_6
  clear hb7
  clear b0 b1 b2
  obtain ⟨b0, b1, b2⟩ := HX7.out.cells
  go_wp2_with fail
  refine (HIM.out _).mono ?_
  rintro e w8 ⟨AH0, cH0, rfl, hcH0, hoH0, hb8⟩
  have HX8 := hide (HX7.out.next hb8)
  have NW0H0 := hide (HOW0_7.out.ne hoH0 (Nat.le_refl _))
  have NH0W0 := hide (HOW0_7.out.ne' hoH0 (Nat.le_refl _))
  have NG0H0 := hide (HOG0_7.out.ne hoH0 (Nat.le_refl _))
  have NH0G0 := hide (HOG0_7.out.ne' hoH0 (Nat.le_refl _))
  have HOW0_8 := hide (HOW0_7.out.below hb8 (Nat.le_refl _))
  clear HOW0_7
  have HOG0_8 := hide (HOG0_7.out.below hb8 (Nat.le_refl _))
  clear HOG0_7
  have HOH0_8 := hide hoH0
  clear hoH0
  clear hb8
  clear b0 b1 b2
  obtain ⟨b0, b1, b2⟩ := HX8.out.cells
  go_wp2_with fail
  refine (eqSame AH0 _ cH0 _ AW0 _ cW0 _ r0 _ HOH0_8.out.ints HOW0_8.out.ints (by omega)).mono ?_
  rintro e w9 ⟨rfl, hb9⟩
  have HX9 := hide (HX8.out.next hb9)
  have HOW0_9 := hide (HOW0_8.out.below hb9 (Nat.le_refl _))
  clear HOW0_8
  have HOG0_9 := hide (HOG0_8.out.below hb9 (Nat.le_refl _))
  clear HOG0_8
  have HOH0_9 := hide (HOH0_8.out.below hb9 (Nat.le_refl _))
  clear HOH0_8
  clear hb9
  clear b0 b1 b2
  obtain ⟨b0, b1, b2⟩ := HX9.out.cells
  go_wp2_with fail
  refine (heldInts' AG0 _ cG0 _ _ 1 _ (HOG0_9.out.ints' (marks_len _ _)) (by omega) (by omega) (by omega)).mono ?_
  rintro e w9 ⟨rfl, rfl⟩
  go_wp2_with fail
  go_ret
  exact ⟨rfl, HX9.out.2⟩
end Go.Proofs.Ytkaconpbmppekaa
