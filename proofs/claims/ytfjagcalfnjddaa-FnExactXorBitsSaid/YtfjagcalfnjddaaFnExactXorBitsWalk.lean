/-
  The walk of the law FnExactXorBits: it returns true, and nothing that was there before is changed.
-/
import Derived.Test.YtfjagcalfnjddaaShell
import Derived.Test.YtfjagcalfnjddaaDist
import Derived.Test.YtfjagcalfnjddaaLawKit
namespace Go.Proofs.Ytfjagcalfnjddaa
open Go.RowKit
set_option linter.unusedVariables false

theorem xorOf_len (a b : List Int) {k : Nat} (h : a.length ≤ k) : (xorOf a b).length ≤ k := by
  unfold xorOf xorL
  split
  · rw [List.length_zipWith]; omega
  · simp

set_option maxHeartbeats 1000000 in
theorem fnExactXorBitsWalk (a0 : Option Addr) (n0 c0 : Nat) (z0 : List Int) (a1 : Option Addr) (n1 c1 : Nat) (z1 : List Int) (w : World) (h0 : Came .i64 w a0 n0 c0 z0) (h1 : Came .i64 w a1 n1 c1 z1) :
    Calls Try.prog 12 #[.slice a0 n0 c0, .slice a1 n1 c1] w fun e w' => e = .returned (.bool true) ∧ Below w.heap.size w w' := by
  obtain ⟨hI0, hnc0, hcm0, hwf0⟩ := h0
  have HI0 := hide hI0
  have HW0 := hide hwf0
  obtain rfl : z0.length = n0 := hI0.len
  clear hI0 hwf0
  unfold maxLen at hcm0
  obtain ⟨hI1, hnc1, hcm1, hwf1⟩ := h1
  have HI1 := hide hI1
  have HW1 := hide hwf1
  obtain rfl : z1.length = n1 := hI1.len
  clear hI1 hwf1
  unfold maxLen at hcm1
  by_cases hbig0 : 1048576 < z0.length
  · go_enter Try.func12, Try.ntmps12
    go_wp2_with fail
    go_ret
    exact ⟨rfl, Below.refl _ _⟩
  have hn0 : z0.length ≤ 1099511627776 := by omega
  by_cases hbig1 : 1048576 < z1.length
  · go_enter Try.func12, Try.ntmps12
    go_wp2_with fail
    go_ret
    exact ⟨rfl, Below.refl _ _⟩
  have hn1 : z1.length ≤ 1099511627776 := by omega
  have hlen : (xorOf z0 z1).length ≤ 1099511627776 := xorOf_len _ _ hn0
  have HB0 := hide (Below.refl w.heap.size w)
  go_enter Try.func12, Try.ntmps12
  go_wp2_with fail
  refine (toInts a0 _ c0 z0 w ((HI0.out.below HB0).more HB0.out.size) hn0).mono ?_
  rintro e w1 ⟨AP0, cP0, rfl, hcP0, ho1, hb1⟩
  have HB1 := hide (HB0.out.trans (hb1.mono HB0.out.size))
  have HOP0_1 := hide ho1
  clear ho1
  clear hb1
  go_wp2_with fail
  refine (toInts a1 _ c1 z1 w1 ((HI1.out.below HB1).more HB1.out.size) hn1).mono ?_
  rintro e w2 ⟨AP1, cP1, rfl, hcP1, ho2, hb2⟩
  have HB2 := hide (HB1.out.trans (hb2.mono HB1.out.size))
  have NP0P1 := hide (HOP0_1.out.ne ho2 (Nat.le_refl _))
  have NP1P0 := hide (HOP0_1.out.ne' ho2 (Nat.le_refl _))
  have HOP0_2 := hide (HOP0_1.out.below hb2 (Nat.le_refl _))
  clear HOP0_1
  have HOP1_2 := hide ho2
  clear ho2
  clear hb2
  go_wp2_with fail
  refine (specXor AP0 _ cP0 _ z0 AP1 _ cP1 _ z1 w2 HOP0_2.out.ints HOP1_2.out.ints (Nat.le_refl _) (Nat.le_refl _) hn0 hn1).mono ?_
  rintro e w3 ⟨AW, cW, rfl, hcW, ho3, hb3⟩
  have HB3 := hide (HB2.out.trans (hb3.mono HB2.out.size))
  have NP0W := hide (HOP0_2.out.ne ho3 (Nat.le_refl _))
  have NWP0 := hide (HOP0_2.out.ne' ho3 (Nat.le_refl _))
  have NP1W := hide (HOP1_2.out.ne ho3 (Nat.le_refl _))
  have NWP1 := hide (HOP1_2.out.ne' ho3 (Nat.le_refl _))
  have HOP0_3 := hide (HOP0_2.out.below hb3 (Nat.le_refl _))
  clear HOP0_2
  have HOP1_3 := hide (HOP1_2.out.below hb3 (Nat.le_refl _))
  clear HOP1_2
  have HOW_3 := hide ho3
  clear ho3
  clear hb3
  go_wp2_with fail
  refine (toInts a0 _ c0 z0 w3 ((HI0.out.below HB3).more HB3.out.size) hn0).mono ?_
  rintro e w4 ⟨AX0, cX0, rfl, hcX0, ho4, hb4⟩
  have HB4 := hide (HB3.out.trans (hb4.mono HB3.out.size))
  have NWX0 := hide (HOW_3.out.ne ho4 (Nat.le_refl _))
  have NX0W := hide (HOW_3.out.ne' ho4 (Nat.le_refl _))
  have HOW_4 := hide (HOW_3.out.below hb4 (Nat.le_refl _))
  clear HOW_3
  have HOX0_4 := hide ho4
  clear ho4
  clear hb4
  go_wp2_with fail
  refine (toInts a1 _ c1 z1 w4 ((HI1.out.below HB4).more HB4.out.size) hn1).mono ?_
  rintro e w5 ⟨AX1, cX1, rfl, hcX1, ho5, hb5⟩
  have HB5 := hide (HB4.out.trans (hb5.mono HB4.out.size))
  have NWX1 := hide (HOW_4.out.ne ho5 (Nat.le_refl _))
  have NX1W := hide (HOW_4.out.ne' ho5 (Nat.le_refl _))
  have NX0X1 := hide (HOX0_4.out.ne ho5 (Nat.le_refl _))
  have NX1X0 := hide (HOX0_4.out.ne' ho5 (Nat.le_refl _))
  have HOW_5 := hide (HOW_4.out.below hb5 (Nat.le_refl _))
  clear HOW_4
  have HOX0_5 := hide (HOX0_4.out.below hb5 (Nat.le_refl _))
  clear HOX0_4
  have HOX1_5 := hide ho5
  clear ho5
  clear hb5
  go_wp2_with fail
  refine (implXor AX0 _ cX0 _ z0 AX1 _ cX1 _ z1 w5 HOX0_5.out.ints HOX1_5.out.ints (Nat.le_refl _) (Nat.le_refl _) hn0 hn1).mono ?_
  rintro e w6 ⟨AG, cG, rfl, hcG, ho6, hb6⟩
  have HB6 := hide (HB5.out.trans (hb6.mono HB5.out.size))
  have NWG := hide (HOW_5.out.ne ho6 (Nat.le_refl _))
  have NGW := hide (HOW_5.out.ne' ho6 (Nat.le_refl _))
  have NX0G := hide (HOX0_5.out.ne ho6 (Nat.le_refl _))
  have NGX0 := hide (HOX0_5.out.ne' ho6 (Nat.le_refl _))
  have NX1G := hide (HOX1_5.out.ne ho6 (Nat.le_refl _))
  have NGX1 := hide (HOX1_5.out.ne' ho6 (Nat.le_refl _))
  have HOW_6 := hide (HOW_5.out.below hb6 (Nat.le_refl _))
  clear HOW_5
  have HOX0_6 := hide (HOX0_5.out.below hb6 (Nat.le_refl _))
  clear HOX0_5
  have HOX1_6 := hide (HOX1_5.out.below hb6 (Nat.le_refl _))
  clear HOX1_5
  have HOG_6 := hide ho6
  clear ho6
  clear hb6
  go_wp2_with fail
  refine (eqSame AG _ cG _ AW _ cW _ (xorOf z0 z1) w6 HOG_6.out.ints HOW_6.out.ints hlen).mono ?_
  rintro e w7 ⟨rfl, hb7⟩
  have HB7 := hide (HB6.out.trans (hb7.mono HB6.out.size))
  have HOW_7 := hide (HOW_6.out.below hb7 (Nat.le_refl _))
  clear HOW_6
  have HOX0_7 := hide (HOX0_6.out.below hb7 (Nat.le_refl _))
  clear HOX0_6
  have HOX1_7 := hide (HOX1_6.out.below hb7 (Nat.le_refl _))
  clear HOX1_6
  have HOG_7 := hide (HOG_6.out.below hb7 (Nat.le_refl _))
  clear HOG_6
  clear hb7
  go_wp2_with fail
  refine (toInts a0 _ c0 z0 w7 ((HI0.out.below HB7).more HB7.out.size) hn0).mono ?_
  rintro e w8 ⟨AQ0, cQ0, rfl, hcQ0, ho8, hb8⟩
  have HB8 := hide (HB7.out.trans (hb8.mono HB7.out.size))
  have NWQ0 := hide (HOW_7.out.ne ho8 (Nat.le_refl _))
  have NQ0W := hide (HOW_7.out.ne' ho8 (Nat.le_refl _))
  have NX0Q0 := hide (HOX0_7.out.ne ho8 (Nat.le_refl _))
  have NQ0X0 := hide (HOX0_7.out.ne' ho8 (Nat.le_refl _))
  have NX1Q0 := hide (HOX1_7.out.ne ho8 (Nat.le_refl _))
  have NQ0X1 := hide (HOX1_7.out.ne' ho8 (Nat.le_refl _))
  have NGQ0 := hide (HOG_7.out.ne ho8 (Nat.le_refl _))
  have NQ0G := hide (HOG_7.out.ne' ho8 (Nat.le_refl _))
  have HOW_8 := hide (HOW_7.out.below hb8 (Nat.le_refl _))
  clear HOW_7
  have HOX0_8 := hide (HOX0_7.out.below hb8 (Nat.le_refl _))
  clear HOX0_7
  have HOX1_8 := hide (HOX1_7.out.below hb8 (Nat.le_refl _))
  clear HOX1_7
  have HOG_8 := hide (HOG_7.out.below hb8 (Nat.le_refl _))
  clear HOG_7
  have HOQ0_8 := hide ho8
  clear ho8
  clear hb8
  go_wp2_with fail
  refine (eqSame AX0 _ cX0 _ AQ0 _ cQ0 _ z0 w8 HOX0_8.out.ints HOQ0_8.out.ints hn0).mono ?_
  rintro e w9 ⟨rfl, hb9⟩
  have HB9 := hide (HB8.out.trans (hb9.mono HB8.out.size))
  have HOW_9 := hide (HOW_8.out.below hb9 (Nat.le_refl _))
  clear HOW_8
  have HOX0_9 := hide (HOX0_8.out.below hb9 (Nat.le_refl _))
  clear HOX0_8
  have HOX1_9 := hide (HOX1_8.out.below hb9 (Nat.le_refl _))
  clear HOX1_8
  have HOG_9 := hide (HOG_8.out.below hb9 (Nat.le_refl _))
  clear HOG_8
  have HOQ0_9 := hide (HOQ0_8.out.below hb9 (Nat.le_refl _))
  clear HOQ0_8
  clear hb9
  go_wp2_with fail
  refine (toInts a1 _ c1 z1 w9 ((HI1.out.below HB9).more HB9.out.size) hn1).mono ?_
  rintro e w10 ⟨AQ1, cQ1, rfl, hcQ1, ho10, hb10⟩
  have HB10 := hide (HB9.out.trans (hb10.mono HB9.out.size))
  have NWQ1 := hide (HOW_9.out.ne ho10 (Nat.le_refl _))
  have NQ1W := hide (HOW_9.out.ne' ho10 (Nat.le_refl _))
  have NX0Q1 := hide (HOX0_9.out.ne ho10 (Nat.le_refl _))
  have NQ1X0 := hide (HOX0_9.out.ne' ho10 (Nat.le_refl _))
  have NX1Q1 := hide (HOX1_9.out.ne ho10 (Nat.le_refl _))
  have NQ1X1 := hide (HOX1_9.out.ne' ho10 (Nat.le_refl _))
  have NGQ1 := hide (HOG_9.out.ne ho10 (Nat.le_refl _))
  have NQ1G := hide (HOG_9.out.ne' ho10 (Nat.le_refl _))
  have HOW_10 := hide (HOW_9.out.below hb10 (Nat.le_refl _))
  clear HOW_9
  have HOX0_10 := hide (HOX0_9.out.below hb10 (Nat.le_refl _))
  clear HOX0_9
  have HOX1_10 := hide (HOX1_9.out.below hb10 (Nat.le_refl _))
  clear HOX1_9
  have HOG_10 := hide (HOG_9.out.below hb10 (Nat.le_refl _))
  clear HOG_9
  have HOQ1_10 := hide ho10
  clear ho10
  clear hb10
  go_wp2_with fail
  refine (eqSame AX1 _ cX1 _ AQ1 _ cQ1 _ z1 w10 HOX1_10.out.ints HOQ1_10.out.ints hn1).mono ?_
  rintro e w11 ⟨rfl, hb11⟩
  have HB11 := hide (HB10.out.trans (hb11.mono HB10.out.size))
  have HOW_11 := hide (HOW_10.out.below hb11 (Nat.le_refl _))
  clear HOW_10
  have HOX0_11 := hide (HOX0_10.out.below hb11 (Nat.le_refl _))
  clear HOX0_10
  have HOX1_11 := hide (HOX1_10.out.below hb11 (Nat.le_refl _))
  clear HOX1_10
  have HOG_11 := hide (HOG_10.out.below hb11 (Nat.le_refl _))
  clear HOG_10
  have HOQ1_11 := hide (HOQ1_10.out.below hb11 (Nat.le_refl _))
  clear HOQ1_10
  clear hb11
  go_wp2_with fail
  refine (markInts' AX0 _ cX0 _ _ 1 z0 w11 HOX0_11.out hn0 (by omega) (by omega)).mono ?_
  rintro e w12 ⟨rfl, ho12, hg12⟩
  have HB12 := hide (HB11.out.grown hg12 HB11.out.size (fun g hg => Nat.le_trans HB3.out.size (HOX0_11.out.lt hg).1))
  have HOW_12 := hide (HOW_11.out.grown hg12 NWX0.out)
  clear HOW_11
  have HOX1_12 := hide (HOX1_11.out.grown hg12 NX1X0.out)
  clear HOX1_11
  have HOG_12 := hide (HOG_11.out.grown hg12 NGX0.out)
  clear HOG_11
  have HOX0_12 := hide ho12
  clear ho12 hg12 HOX0_11
  go_wp2_with fail
  refine (markInts' AX1 _ cX1 _ _ (1 + z0.length) z1 w12 HOX1_12.out hn1 (by omega) (by omega)).mono ?_
  rintro e w13 ⟨rfl, ho13, hg13⟩
  have HB13 := hide (HB12.out.grown hg13 HB12.out.size (fun g hg => Nat.le_trans HB4.out.size (HOX1_12.out.lt hg).1))
  have HOW_13 := hide (HOW_12.out.grown hg13 NWX1.out)
  clear HOW_12
  have HOX0_13 := hide (HOX0_12.out.grown hg13 NX0X1.out)
  clear HOX0_12
  have HOG_13 := hide (HOG_12.out.grown hg13 NGX1.out)
  clear HOG_12
  have HOX1_13 := hide ho13
  clear ho13 hg13 HOX1_12
  go_wp2_with fail
  refine (eqSame AG _ cG _ AW _ cW _ (xorOf z0 z1) w13 HOG_13.out.ints HOW_13.out.ints hlen).mono ?_
  rintro e w14 ⟨rfl, hb14⟩
  have HB14 := hide (HB13.out.trans (hb14.mono HB13.out.size))
  have HOW_14 := hide (HOW_13.out.below hb14 (Nat.le_refl _))
  clear HOW_13
  have HOX0_14 := hide (HOX0_13.out.below hb14 (Nat.le_refl _))
  clear HOX0_13
  have HOX1_14 := hide (HOX1_13.out.below hb14 (Nat.le_refl _))
  clear HOX1_13
  have HOG_14 := hide (HOG_13.out.below hb14 (Nat.le_refl _))
  clear HOG_13
  clear hb14
  go_wp2_with fail
  refine (markInts' AG _ cG _ _ 1 (xorOf z0 z1) w14 HOG_14.out hlen (by omega) (by omega)).mono ?_
  rintro e w15 ⟨rfl, ho15, hg15⟩
  have HB15 := hide (HB14.out.grown hg15 HB14.out.size (fun g hg => Nat.le_trans HB5.out.size (HOG_14.out.lt hg).1))
  have HOW_15 := hide (HOW_14.out.grown hg15 NWG.out)
  clear HOW_14
  have HOX0_15 := hide (HOX0_14.out.grown hg15 NX0G.out)
  clear HOX0_14
  have HOX1_15 := hide (HOX1_14.out.grown hg15 NX1G.out)
  clear HOX1_14
  have HOG_15 := hide ho15
  clear ho15 hg15 HOG_14
  go_wp2_with fail
  refine (heldInts' AG _ cG _ _ 1 w15 (HOG_15.out.ints' (marks_len _ _)) hlen (by omega) (by omega)).mono ?_
  rintro e w15 ⟨rfl, rfl⟩
  go_wp2_with fail
  refine (toInts a0 _ c0 z0 w15 ((HI0.out.below HB15).more HB15.out.size) hn0).mono ?_
  rintro e w16 ⟨AR0, cR0, rfl, hcR0, ho16, hb16⟩
  have HB16 := hide (HB15.out.trans (hb16.mono HB15.out.size))
  have NWR0 := hide (HOW_15.out.ne ho16 (Nat.le_refl _))
  have NR0W := hide (HOW_15.out.ne' ho16 (Nat.le_refl _))
  have NX0R0 := hide (HOX0_15.out.ne ho16 (Nat.le_refl _))
  have NR0X0 := hide (HOX0_15.out.ne' ho16 (Nat.le_refl _))
  have NX1R0 := hide (HOX1_15.out.ne ho16 (Nat.le_refl _))
  have NR0X1 := hide (HOX1_15.out.ne' ho16 (Nat.le_refl _))
  have NGR0 := hide (HOG_15.out.ne ho16 (Nat.le_refl _))
  have NR0G := hide (HOG_15.out.ne' ho16 (Nat.le_refl _))
  have HOW_16 := hide (HOW_15.out.below hb16 (Nat.le_refl _))
  clear HOW_15
  have HOX0_16 := hide (HOX0_15.out.below hb16 (Nat.le_refl _))
  clear HOX0_15
  have HOX1_16 := hide (HOX1_15.out.below hb16 (Nat.le_refl _))
  clear HOX1_15
  have HOG_16 := hide (HOG_15.out.below hb16 (Nat.le_refl _))
  clear HOG_15
  have HOR0_16 := hide ho16
  clear ho16
  clear hb16
  go_wp2_with fail
  refine (toInts a1 _ c1 z1 w16 ((HI1.out.below HB16).more HB16.out.size) hn1).mono ?_
  rintro e w17 ⟨AR1, cR1, rfl, hcR1, ho17, hb17⟩
  have HB17 := hide (HB16.out.trans (hb17.mono HB16.out.size))
  have NWR1 := hide (HOW_16.out.ne ho17 (Nat.le_refl _))
  have NR1W := hide (HOW_16.out.ne' ho17 (Nat.le_refl _))
  have NX0R1 := hide (HOX0_16.out.ne ho17 (Nat.le_refl _))
  have NR1X0 := hide (HOX0_16.out.ne' ho17 (Nat.le_refl _))
  have NX1R1 := hide (HOX1_16.out.ne ho17 (Nat.le_refl _))
  have NR1X1 := hide (HOX1_16.out.ne' ho17 (Nat.le_refl _))
  have NGR1 := hide (HOG_16.out.ne ho17 (Nat.le_refl _))
  have NR1G := hide (HOG_16.out.ne' ho17 (Nat.le_refl _))
  have NR0R1 := hide (HOR0_16.out.ne ho17 (Nat.le_refl _))
  have NR1R0 := hide (HOR0_16.out.ne' ho17 (Nat.le_refl _))
  have HOW_17 := hide (HOW_16.out.below hb17 (Nat.le_refl _))
  clear HOW_16
  have HOX0_17 := hide (HOX0_16.out.below hb17 (Nat.le_refl _))
  clear HOX0_16
  have HOX1_17 := hide (HOX1_16.out.below hb17 (Nat.le_refl _))
  clear HOX1_16
  have HOG_17 := hide (HOG_16.out.below hb17 (Nat.le_refl _))
  clear HOG_16
  have HOR0_17 := hide (HOR0_16.out.below hb17 (Nat.le_refl _))
  clear HOR0_16
  have HOR1_17 := hide ho17
  clear ho17
  clear hb17
  go_wp2_with fail
  refine (implXor AR0 _ cR0 _ z0 AR1 _ cR1 _ z1 w17 HOR0_17.out.ints HOR1_17.out.ints (Nat.le_refl _) (Nat.le_refl _) hn0 hn1).mono ?_
  rintro e w18 ⟨AH, cH, rfl, hcH, ho18, hb18⟩
  have HB18 := hide (HB17.out.trans (hb18.mono HB17.out.size))
  have NWH := hide (HOW_17.out.ne ho18 (Nat.le_refl _))
  have NHW := hide (HOW_17.out.ne' ho18 (Nat.le_refl _))
  have NX0H := hide (HOX0_17.out.ne ho18 (Nat.le_refl _))
  have NHX0 := hide (HOX0_17.out.ne' ho18 (Nat.le_refl _))
  have NX1H := hide (HOX1_17.out.ne ho18 (Nat.le_refl _))
  have NHX1 := hide (HOX1_17.out.ne' ho18 (Nat.le_refl _))
  have NGH := hide (HOG_17.out.ne ho18 (Nat.le_refl _))
  have NHG := hide (HOG_17.out.ne' ho18 (Nat.le_refl _))
  have NR0H := hide (HOR0_17.out.ne ho18 (Nat.le_refl _))
  have NHR0 := hide (HOR0_17.out.ne' ho18 (Nat.le_refl _))
  have NR1H := hide (HOR1_17.out.ne ho18 (Nat.le_refl _))
  have NHR1 := hide (HOR1_17.out.ne' ho18 (Nat.le_refl _))
  have HOW_18 := hide (HOW_17.out.below hb18 (Nat.le_refl _))
  clear HOW_17
  have HOX0_18 := hide (HOX0_17.out.below hb18 (Nat.le_refl _))
  clear HOX0_17
  have HOX1_18 := hide (HOX1_17.out.below hb18 (Nat.le_refl _))
  clear HOX1_17
  have HOG_18 := hide (HOG_17.out.below hb18 (Nat.le_refl _))
  clear HOG_17
  have HOR0_18 := hide (HOR0_17.out.below hb18 (Nat.le_refl _))
  clear HOR0_17
  have HOR1_18 := hide (HOR1_17.out.below hb18 (Nat.le_refl _))
  clear HOR1_17
  have HOH_18 := hide ho18
  clear ho18
  clear hb18
  go_wp2_with fail
  refine (eqSame AH _ cH _ AW _ cW _ (xorOf z0 z1) w18 HOH_18.out.ints HOW_18.out.ints hlen).mono ?_
  rintro e w19 ⟨rfl, hb19⟩
  have HB19 := hide (HB18.out.trans (hb19.mono HB18.out.size))
  have HOW_19 := hide (HOW_18.out.below hb19 (Nat.le_refl _))
  clear HOW_18
  have HOX0_19 := hide (HOX0_18.out.below hb19 (Nat.le_refl _))
  clear HOX0_18
  have HOX1_19 := hide (HOX1_18.out.below hb19 (Nat.le_refl _))
  clear HOX1_18
  have HOG_19 := hide (HOG_18.out.below hb19 (Nat.le_refl _))
  clear HOG_18
  have HOR0_19 := hide (HOR0_18.out.below hb19 (Nat.le_refl _))
  clear HOR0_18
  have HOR1_19 := hide (HOR1_18.out.below hb19 (Nat.le_refl _))
  clear HOR1_18
  have HOH_19 := hide (HOH_18.out.below hb19 (Nat.le_refl _))
  clear HOH_18
  clear hb19
  go_wp2_with fail
  refine (heldInts' AG _ cG _ _ 1 w19 (HOG_19.out.ints' (marks_len _ _)) hlen (by omega) (by omega)).mono ?_
  rintro e w19 ⟨rfl, rfl⟩
  go_wp2_with fail
  go_ret
  exact ⟨rfl, HB19⟩
end Go.Proofs.Ytfjagcalfnjddaa
