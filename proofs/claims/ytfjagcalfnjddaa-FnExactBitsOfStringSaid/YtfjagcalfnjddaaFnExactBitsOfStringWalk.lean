/-
  The walk of the law FnExactBitsOfString: it returns true, and nothing that was there before is changed.
-/
import Derived.Test.YtfjagcalfnjddaaShell
import Derived.Test.YtfjagcalfnjddaaStr
import Derived.Test.YtfjagcalfnjddaaLawKit
namespace Go.Proofs.Ytfjagcalfnjddaa
open Go.RowKit
set_option linter.unusedVariables false

theorem bosOf_len (s : ByteArray) : (bosOf s).length ≤ 1099511627776 := by
  unfold bosOf
  split
  · rw [strBits_len, bytesI_len]; omega
  · simp

set_option maxHeartbeats 1000000 in
theorem fnExactBitsOfStringWalk (s0 : ByteArray) (w : World) (h0 : s0.size ≤ maxLen) :
    Calls Try.prog 9 #[.string s0] w fun e w' => e = .returned (.bool true) ∧ Below w.heap.size w w' := by
  unfold maxLen at h0
  by_cases hbig0 : 1048576 < s0.size
  · go_enter Try.func9, Try.ntmps9
    go_wp2_with fail
    go_ret
    exact ⟨rfl, Below.refl _ _⟩
  have hn0 : s0.size ≤ 1099511627776 := by omega
  have hlen : (bosOf s0).length ≤ 1099511627776 := bosOf_len _
  have HB0 := hide (Below.refl w.heap.size w)
  go_enter Try.func9, Try.ntmps9
  go_wp2_with fail
  refine (specBitsOf s0 w hn0).mono ?_
  rintro e w1 ⟨AW, cW, rfl, hcW, ho1, hb1⟩
  have HB1 := hide (HB0.out.trans (hb1.mono HB0.out.size))
  have HOW_1 := hide ho1
  clear ho1
  clear hb1
  go_wp2_with fail
  refine (implBitsOf s0 w1 hn0).mono ?_
  rintro e w2 ⟨AG, cG, rfl, hcG, ho2, hb2⟩
  have HB2 := hide (HB1.out.trans (hb2.mono HB1.out.size))
  have NWG := hide (HOW_1.out.ne ho2 (Nat.le_refl _))
  have NGW := hide (HOW_1.out.ne' ho2 (Nat.le_refl _))
  have HOW_2 := hide (HOW_1.out.below hb2 (Nat.le_refl _))
  clear HOW_1
  have HOG_2 := hide ho2
  clear ho2
  clear hb2
  go_wp2_with fail
  refine (eqSame AG _ cG _ AW _ cW _ (bosOf s0) w2 HOG_2.out.ints HOW_2.out.ints hlen).mono ?_
  rintro e w3 ⟨rfl, hb3⟩
  have HB3 := hide (HB2.out.trans (hb3.mono HB2.out.size))
  have HOW_3 := hide (HOW_2.out.below hb3 (Nat.le_refl _))
  clear HOW_2
  have HOG_3 := hide (HOG_2.out.below hb3 (Nat.le_refl _))
  clear HOG_2
  clear hb3
  go_wp2_with fail
  refine (markInts' AG _ cG _ _ 1 (bosOf s0) w3 HOG_3.out hlen (by omega) (by omega)).mono ?_
  rintro e w4 ⟨rfl, ho4, hg4⟩
  have HB4 := hide (HB3.out.grown hg4 HB3.out.size (fun g hg => Nat.le_trans HB1.out.size (HOG_3.out.lt hg).1))
  have HOW_4 := hide (HOW_3.out.grown hg4 NWG.out)
  clear HOW_3
  have HOG_4 := hide ho4
  clear ho4 hg4 HOG_3
  go_wp2_with fail
  refine (heldInts' AG _ cG _ _ 1 w4 (HOG_4.out.ints' (marks_len _ _)) hlen (by omega) (by omega)).mono ?_
  rintro e w4 ⟨rfl, rfl⟩
  go_wp2_with fail
  refine (implBitsOf s0 w4 hn0).mono ?_
  rintro e w5 ⟨AH, cH, rfl, hcH, ho5, hb5⟩
  have HB5 := hide (HB4.out.trans (hb5.mono HB4.out.size))
  have NWH := hide (HOW_4.out.ne ho5 (Nat.le_refl _))
  have NHW := hide (HOW_4.out.ne' ho5 (Nat.le_refl _))
  have NGH := hide (HOG_4.out.ne ho5 (Nat.le_refl _))
  have NHG := hide (HOG_4.out.ne' ho5 (Nat.le_refl _))
  have HOW_5 := hide (HOW_4.out.below hb5 (Nat.le_refl _))
  clear HOW_4
  have HOG_5 := hide (HOG_4.out.below hb5 (Nat.le_refl _))
  clear HOG_4
  have HOH_5 := hide ho5
  clear ho5
  clear hb5
  go_wp2_with fail
  refine (eqSame AH _ cH _ AW _ cW _ (bosOf s0) w5 HOH_5.out.ints HOW_5.out.ints hlen).mono ?_
  rintro e w6 ⟨rfl, hb6⟩
  have HB6 := hide (HB5.out.trans (hb6.mono HB5.out.size))
  have HOW_6 := hide (HOW_5.out.below hb6 (Nat.le_refl _))
  clear HOW_5
  have HOG_6 := hide (HOG_5.out.below hb6 (Nat.le_refl _))
  clear HOG_5
  have HOH_6 := hide (HOH_5.out.below hb6 (Nat.le_refl _))
  clear HOH_5
  clear hb6
  go_wp2_with fail
  refine (heldInts' AG _ cG _ _ 1 w6 (HOG_6.out.ints' (marks_len _ _)) hlen (by omega) (by omega)).mono ?_
  rintro e w6 ⟨rfl, rfl⟩
  go_wp2_with fail
  go_ret
  exact ⟨rfl, HB6⟩
end Go.Proofs.Ytfjagcalfnjddaa
