/-
  The walk of the law FnExactWriteMessage: it returns true, and nothing that was there before is changed.
-/
import Derived.Test.YtdccofbfdlebgaaShell
import Derived.Test.YtdccofbfdlebgaaWm3
import Derived.Test.YtdccofbfdlebgaaLawKit
namespace Go.Proofs.Ytdccofbfdlebgaa
open Go.RowKit
set_option linter.unusedVariables false

set_option maxHeartbeats 1000000 in
theorem fnExactWriteMessageWalk (a0 : Option Addr) (n0 c0 : Nat) (z0 : List Int) (s1 : ByteArray) (w : World) (h0 : Came .i64 w a0 n0 c0 z0) (h1 : s1.size ≤ maxLen) :
    Calls Try.prog 12 #[.slice a0 n0 c0, .string s1] w fun e w' => e = .returned (.bool true) ∧ Below w.heap.size w w' := by
  obtain ⟨hI0, hnc0, hcm0, hwf0⟩ := h0
  have HI0 := hide hI0
  have HW0 := hide hwf0
  obtain rfl : z0.length = n0 := hI0.len
  clear hI0 hwf0
  unfold maxLen at hcm0
  unfold maxLen at h1
  by_cases hbig0 : 1048576 < z0.length
  · go_enter Try.func12, Try.ntmps12
    go_wp2_with fail
    go_ret
    exact ⟨rfl, Below.refl _ _⟩
  have hn0 : z0.length ≤ 1099511627776 := by omega
  by_cases hbig1 : 1048576 < s1.size
  · go_enter Try.func12, Try.ntmps12
    go_wp2_with fail
    go_ret
    exact ⟨rfl, Below.refl _ _⟩
  have hn1 : s1.size ≤ 1099511627776 := by omega
  have hlen : (wmOf z0 s1).length ≤ 1099511627776 := wmOf_len _ _
  have hnz0 : z0.length ≤ 1048576 := by omega
  have HB0 := hide (Below.refl w.heap.size w)
  go_enter Try.func12, Try.ntmps12
  go_wp2_with fail
  refine (toInts a0 _ c0 z0 w ((HI0.out.below HB0).more HB0.out.size) hn0).mono ?_
  rintro e w1 ⟨AP0, cP0, rfl, hcP0, ho1, hb1⟩
  have HB1 := hide (HB0.out.trans (hb1.mono HB0.out.size))
  have HOP0_1 := hide ho1
  clear ho1
  clear hb1
  go_wp2_with fail
  refine (specWm AP0 _ cP0 _ z0 s1 hn1 w1 HOP0_1.out.ints (Nat.le_refl _) hnz0).mono ?_
  rintro e w2 ⟨AW, cW, rfl, hcW, ho2, hb2⟩
  have HB2 := hide (HB1.out.trans (hb2.mono HB1.out.size))
  have NP0W := hide (HOP0_1.out.ne ho2 (Nat.le_refl _))
  have NWP0 := hide (HOP0_1.out.ne' ho2 (Nat.le_refl _))
  have HOP0_2 := hide (HOP0_1.out.below hb2 (Nat.le_refl _))
  clear HOP0_1
  have HOW_2 := hide ho2
  clear ho2
  clear hb2
  go_wp2_with fail
  refine (toInts a0 _ c0 z0 w2 ((HI0.out.below HB2).more HB2.out.size) hn0).mono ?_
  rintro e w3 ⟨AX0, cX0, rfl, hcX0, ho3, hb3⟩
  have HB3 := hide (HB2.out.trans (hb3.mono HB2.out.size))
  have NWX0 := hide (HOW_2.out.ne ho3 (Nat.le_refl _))
  have NX0W := hide (HOW_2.out.ne' ho3 (Nat.le_refl _))
  have HOW_3 := hide (HOW_2.out.below hb3 (Nat.le_refl _))
  clear HOW_2
  have HOX0_3 := hide ho3
  clear ho3
  clear hb3
  go_wp2_with fail
  refine (implWm AX0 _ cX0 _ z0 s1 hn1 w3 HOX0_3.out.ints (Nat.le_refl _) hnz0).mono ?_
  rintro e w4 ⟨AG, cG, rfl, hcG, ho4, hb4⟩
  have HB4 := hide (HB3.out.trans (hb4.mono HB3.out.size))
  have NWG := hide (HOW_3.out.ne ho4 (Nat.le_refl _))
  have NGW := hide (HOW_3.out.ne' ho4 (Nat.le_refl _))
  have NX0G := hide (HOX0_3.out.ne ho4 (Nat.le_refl _))
  have NGX0 := hide (HOX0_3.out.ne' ho4 (Nat.le_refl _))
  have HOW_4 := hide (HOW_3.out.below hb4 (Nat.le_refl _))
  clear HOW_3
  have HOX0_4 := hide (HOX0_3.out.below hb4 (Nat.le_refl _))
  clear HOX0_3
  have HOG_4 := hide ho4
  clear ho4
  clear hb4
  go_wp2_with fail
  refine (eqSame AG _ cG _ AW _ cW _ (wmOf z0 s1) w4 HOG_4.out.ints HOW_4.out.ints hlen).mono ?_
  rintro e w5 ⟨rfl, hb5⟩
  have HB5 := hide (HB4.out.trans (hb5.mono HB4.out.size))
  have HOW_5 := hide (HOW_4.out.below hb5 (Nat.le_refl _))
  clear HOW_4
  have HOX0_5 := hide (HOX0_4.out.below hb5 (Nat.le_refl _))
  clear HOX0_4
  have HOG_5 := hide (HOG_4.out.below hb5 (Nat.le_refl _))
  clear HOG_4
  clear hb5
  go_wp2_with fail
  refine (toInts a0 _ c0 z0 w5 ((HI0.out.below HB5).more HB5.out.size) hn0).mono ?_
  rintro e w6 ⟨AQ0, cQ0, rfl, hcQ0, ho6, hb6⟩
  have HB6 := hide (HB5.out.trans (hb6.mono HB5.out.size))
  have NWQ0 := hide (HOW_5.out.ne ho6 (Nat.le_refl _))
  have NQ0W := hide (HOW_5.out.ne' ho6 (Nat.le_refl _))
  have NX0Q0 := hide (HOX0_5.out.ne ho6 (Nat.le_refl _))
  have NQ0X0 := hide (HOX0_5.out.ne' ho6 (Nat.le_refl _))
  have NGQ0 := hide (HOG_5.out.ne ho6 (Nat.le_refl _))
  have NQ0G := hide (HOG_5.out.ne' ho6 (Nat.le_refl _))
  have HOW_6 := hide (HOW_5.out.below hb6 (Nat.le_refl _))
  clear HOW_5
  have HOX0_6 := hide (HOX0_5.out.below hb6 (Nat.le_refl _))
  clear HOX0_5
  have HOG_6 := hide (HOG_5.out.below hb6 (Nat.le_refl _))
  clear HOG_5
  have HOQ0_6 := hide ho6
  clear ho6
  clear hb6
  go_wp2_with fail
  refine (eqSame AX0 _ cX0 _ AQ0 _ cQ0 _ z0 w6 HOX0_6.out.ints HOQ0_6.out.ints hn0).mono ?_
  rintro e w7 ⟨rfl, hb7⟩
  have HB7 := hide (HB6.out.trans (hb7.mono HB6.out.size))
  have HOW_7 := hide (HOW_6.out.below hb7 (Nat.le_refl _))
  clear HOW_6
  have HOX0_7 := hide (HOX0_6.out.below hb7 (Nat.le_refl _))
  clear HOX0_6
  have HOG_7 := hide (HOG_6.out.below hb7 (Nat.le_refl _))
  clear HOG_6
  have HOQ0_7 := hide (HOQ0_6.out.below hb7 (Nat.le_refl _))
  clear HOQ0_6
  clear hb7
  go_wp2_with fail
  refine (markInts' AX0 _ cX0 _ _ 1 z0 w7 HOX0_7.out hn0 (by omega) (by omega)).mono ?_
  rintro e w8 ⟨rfl, ho8, hg8⟩
  have HB8 := hide (HB7.out.grown hg8 HB7.out.size (fun g hg => Nat.le_trans HB2.out.size (HOX0_7.out.lt hg).1))
  have HOW_8 := hide (HOW_7.out.grown hg8 NWX0.out)
  clear HOW_7
  have HOG_8 := hide (HOG_7.out.grown hg8 NGX0.out)
  clear HOG_7
  have HOX0_8 := hide ho8
  clear ho8 hg8 HOX0_7
  go_wp2_with fail
  refine (eqSame AG _ cG _ AW _ cW _ (wmOf z0 s1) w8 HOG_8.out.ints HOW_8.out.ints hlen).mono ?_
  rintro e w9 ⟨rfl, hb9⟩
  have HB9 := hide (HB8.out.trans (hb9.mono HB8.out.size))
  have HOW_9 := hide (HOW_8.out.below hb9 (Nat.le_refl _))
  clear HOW_8
  have HOX0_9 := hide (HOX0_8.out.below hb9 (Nat.le_refl _))
  clear HOX0_8
  have HOG_9 := hide (HOG_8.out.below hb9 (Nat.le_refl _))
  clear HOG_8
  clear hb9
  go_wp2_with fail
  refine (markInts' AG _ cG _ _ 1 (wmOf z0 s1) w9 HOG_9.out hlen (by omega) (by omega)).mono ?_
  rintro e w10 ⟨rfl, ho10, hg10⟩
  have HB10 := hide (HB9.out.grown hg10 HB9.out.size (fun g hg => Nat.le_trans HB3.out.size (HOG_9.out.lt hg).1))
  have HOW_10 := hide (HOW_9.out.grown hg10 NWG.out)
  clear HOW_9
  have HOX0_10 := hide (HOX0_9.out.grown hg10 NX0G.out)
  clear HOX0_9
  have HOG_10 := hide ho10
  clear ho10 hg10 HOG_9
  go_wp2_with fail
  refine (heldInts' AG _ cG _ _ 1 w10 (HOG_10.out.ints' (marks_len _ _)) hlen (by omega) (by omega)).mono ?_
  rintro e w10 ⟨rfl, rfl⟩
  go_wp2_with fail
  refine (toInts a0 _ c0 z0 w10 ((HI0.out.below HB10).more HB10.out.size) hn0).mono ?_
  rintro e w11 ⟨AR0, cR0, rfl, hcR0, ho11, hb11⟩
  have HB11 := hide (HB10.out.trans (hb11.mono HB10.out.size))
  have NWR0 := hide (HOW_10.out.ne ho11 (Nat.le_refl _))
  have NR0W := hide (HOW_10.out.ne' ho11 (Nat.le_refl _))
  have NX0R0 := hide (HOX0_10.out.ne ho11 (Nat.le_refl _))
  have NR0X0 := hide (HOX0_10.out.ne' ho11 (Nat.le_refl _))
  have NGR0 := hide (HOG_10.out.ne ho11 (Nat.le_refl _))
  have NR0G := hide (HOG_10.out.ne' ho11 (Nat.le_refl _))
  have HOW_11 := hide (HOW_10.out.below hb11 (Nat.le_refl _))
  clear HOW_10
  have HOX0_11 := hide (HOX0_10.out.below hb11 (Nat.le_refl _))
  clear HOX0_10
  have HOG_11 := hide (HOG_10.out.below hb11 (Nat.le_refl _))
  clear HOG_10
  have HOR0_11 := hide ho11
  clear ho11
  clear hb11
  go_wp2_with fail
  refine (implWm AR0 _ cR0 _ z0 s1 hn1 w11 HOR0_11.out.ints (Nat.le_refl _) hnz0).mono ?_
  rintro e w12 ⟨AH, cH, rfl, hcH, ho12, hb12⟩
  have HB12 := hide (HB11.out.trans (hb12.mono HB11.out.size))
  have NWH := hide (HOW_11.out.ne ho12 (Nat.le_refl _))
  have NHW := hide (HOW_11.out.ne' ho12 (Nat.le_refl _))
  have NX0H := hide (HOX0_11.out.ne ho12 (Nat.le_refl _))
  have NHX0 := hide (HOX0_11.out.ne' ho12 (Nat.le_refl _))
  have NGH := hide (HOG_11.out.ne ho12 (Nat.le_refl _))
  have NHG := hide (HOG_11.out.ne' ho12 (Nat.le_refl _))
  have NR0H := hide (HOR0_11.out.ne ho12 (Nat.le_refl _))
  have NHR0 := hide (HOR0_11.out.ne' ho12 (Nat.le_refl _))
  have HOW_12 := hide (HOW_11.out.below hb12 (Nat.le_refl _))
  clear HOW_11
  have HOX0_12 := hide (HOX0_11.out.below hb12 (Nat.le_refl _))
  clear HOX0_11
  have HOG_12 := hide (HOG_11.out.below hb12 (Nat.le_refl _))
  clear HOG_11
  have HOR0_12 := hide (HOR0_11.out.below hb12 (Nat.le_refl _))
  clear HOR0_11
  have HOH_12 := hide ho12
  clear ho12
  clear hb12
  go_wp2_with fail
  refine (eqSame AH _ cH _ AW _ cW _ (wmOf z0 s1) w12 HOH_12.out.ints HOW_12.out.ints hlen).mono ?_
  rintro e w13 ⟨rfl, hb13⟩
  have HB13 := hide (HB12.out.trans (hb13.mono HB12.out.size))
  have HOW_13 := hide (HOW_12.out.below hb13 (Nat.le_refl _))
  clear HOW_12
  have HOX0_13 := hide (HOX0_12.out.below hb13 (Nat.le_refl _))
  clear HOX0_12
  have HOG_13 := hide (HOG_12.out.below hb13 (Nat.le_refl _))
  clear HOG_12
  have HOR0_13 := hide (HOR0_12.out.below hb13 (Nat.le_refl _))
  clear HOR0_12
  have HOH_13 := hide (HOH_12.out.below hb13 (Nat.le_refl _))
  clear HOH_12
  clear hb13
  go_wp2_with fail
  refine (heldInts' AG _ cG _ _ 1 w13 (HOG_13.out.ints' (marks_len _ _)) hlen (by omega) (by omega)).mono ?_
  rintro e w13 ⟨rfl, rfl⟩
  go_wp2_with fail
  go_ret
  exact ⟨rfl, HB13⟩
end Go.Proofs.Ytdccofbfdlebgaa
