/-
  The walk of the law FnCorrected: it returns true, and nothing that was there before is changed.
  Condition: none.
-/
import Derived.Test.YtpheembgjdgniaaGreatJE
import Derived.Test.YtpheembgjdgniaaGreatJH
import Derived.Test.YtpheembgjdgniaaGreatDValG
import Derived.Test.YtpheembgjdgniaaGreatDDraw4
import Derived.Test.YtpheembgjdgniaaGreatCLaw
namespace Go.Proofs.YtpheembgjdgniaaGreat
open Go.RowKit
set_option linter.unusedVariables false
set_option linter.unusedSimpArgs false

set_option maxRecDepth 100000 in
set_option maxHeartbeats 8000000 in
theorem fnCorrectedWalk (a0 : Option Addr) (n0 c0 : Nat) (z0 : List Int) (w : World) (h0 : Came .u8 w a0 n0 c0 z0) :
    Calls Tryz.prog 3 #[.slice a0 n0 c0] w fun e w' => e = .returned (.bool true) ∧ Below w.heap.size w w' := by
  obtain ⟨hI, hnc, hcm, hwf⟩ := h0
  have HI := hide hI
  have HBY := hide (show ∀ b ∈ z0, 0 ≤ b ∧ b ≤ 255 from fun b hb => bd_u8 (hwf b hb))
  clear hI hwf
  unfold maxLen at hcm
  by_cases hbig : 4096 < n0
  · go_enter Tryz.func3, Tryz.ntmps3
    go_wp2_with fail
    refine (big_yes a0 n0 c0 w hbig (by omega)).mono ?_
    rintro e w ⟨rfl, rfl⟩
    go_wp2_with fail
    go_ret
    exact ⟨rfl, Below.refl _ _⟩
  have hn0 : n0 ≤ 4096 := by omega
  go_enter Tryz.func3, Tryz.ntmps3
  go_wp2_with fail
  refine (big_no a0 n0 c0 w hn0).mono ?_
  rintro e w ⟨rfl, rfl⟩
  go_wp2_with fail
  refine (drawCor a0 n0 c0 z0 w HI hn0 HBY).mono ?_
  rintro e w1 ⟨p, k, γ, L, C, z1, A1, c1, z2, A2, c2, rfl, hL0, hL1, hC0, hC1, hl1, hl2, hn1, hn2, hI1, hI2, hb⟩
  have HB1 := hide hb
  have HX1 := hide (CBox.start w1 p k γ L C)
  have hCb : -9223372036854775808 ≤ C ∧ C ≤ 9223372036854775807 := by omega
  have I1_1 := hide ((hI1.below HX1.out.2).more HX1.out.2.size)
  have I2_1 := hide ((hI2.below HX1.out.2).more HX1.out.2.size)
  have I0_1 := hide (((HI.out.below hb).more hb.size).below HX1.out.2 |>.more HX1.out.2.size)
  clear hI1 hI2 hb HI
  obtain ⟨b0, b1, b2, b3, b4⟩ := HX1.out.cells
  clear I0_1
  obtain ⟨r, s, cd, hr, hs, hS, hM, hQ, hC⟩ := cor_key p k γ L C z1 z2 (by omega) (by omega) hCb
  have HS := hide hS
  have HM := hide hM
  have HQ := hide hQ
  have HC := hide hC
  clear hS hM hQ hC
  have hcc : (cd != cd) = false := by simp
  go_wp2_with fail
  refine (HM.out A1 _ c1 A2 _ c2 _ _ I1_1.out I2_1.out hn1 hn2 (Nat.le_refl _)).mono ?_
  rintro e w2 ⟨Ag, cg, Ah, ch, rfl, hcg, hch, hog, hoh, hne, hb⟩
  have HX2 := hide (HX1.out.next hb)
  have I1_2 := hide ((I1_1.out.below hb).more hb.size)
  have I2_2 := hide ((I2_1.out.below hb).more hb.size)
  clear I1_1
  clear I2_1
  have Ig_2 := hide (hog.ints)
  clear hog
  have Ih_2 := hide (hoh.ints)
  clear hoh
  clear hb b0 b1 b2 b3 b4
  obtain ⟨b0, b1, b2, b3, b4⟩ := HX2.out.cells
  clear hch hne
  go_wp2_with fail
  refine (HS.out A1 _ c1 A2 _ c2 _ _ I1_2.out I2_2.out hn1 hn2 (Nat.le_refl _)).mono ?_
  rintro e w3 ⟨Av, cv, Aw, cw, rfl, hcv, hcw, hov, how, hne, hb⟩
  have HX3 := hide (HX2.out.next hb)
  have I1_3 := hide ((I1_2.out.below hb).more hb.size)
  have I2_3 := hide ((I2_2.out.below hb).more hb.size)
  have Ig_3 := hide ((Ig_2.out.below hb).more hb.size)
  have Ih_3 := hide ((Ih_2.out.below hb).more hb.size)
  clear I1_2
  clear I2_2
  clear Ig_2
  clear Ih_2
  have Iv_3 := hide (hov.ints)
  clear hov
  have Iw_3 := hide (how.ints)
  clear how
  clear hb b0 b1 b2 b3 b4
  obtain ⟨b0, b1, b2, b3, b4⟩ := HX3.out.cells
  clear hcv hcw hne
  go_wp2_with fail
  refine (likeSame Ag _ cg _ Av _ cv _ r _ Ig_3.out Iv_3.out (by omega)).mono ?_
  rintro e w4 ⟨rfl, hb⟩
  have HX4 := hide (HX3.out.next hb)
  have I1_4 := hide ((I1_3.out.below hb).more hb.size)
  have I2_4 := hide ((I2_3.out.below hb).more hb.size)
  have Ig_4 := hide ((Ig_3.out.below hb).more hb.size)
  have Ih_4 := hide ((Ih_3.out.below hb).more hb.size)
  have Iv_4 := hide ((Iv_3.out.below hb).more hb.size)
  have Iw_4 := hide ((Iw_3.out.below hb).more hb.size)
  clear I1_3
  clear I2_3
  clear Ig_3
  clear Ih_3
  clear Iv_3
  clear Iw_3
  clear hb b0 b1 b2 b3 b4
  obtain ⟨b0, b1, b2, b3, b4⟩ := HX4.out.cells
  clear Iv_4
  go_wp2_with fail
  refine (likeSame Ah _ ch _ Aw _ cw _ s _ Ih_4.out Iw_4.out (by omega)).mono ?_
  rintro e w5 ⟨rfl, hb⟩
  have HX5 := hide (HX4.out.next hb)
  have I1_5 := hide ((I1_4.out.below hb).more hb.size)
  have I2_5 := hide ((I2_4.out.below hb).more hb.size)
  have Ig_5 := hide ((Ig_4.out.below hb).more hb.size)
  have Ih_5 := hide ((Ih_4.out.below hb).more hb.size)
  have Iw_5 := hide ((Iw_4.out.below hb).more hb.size)
  clear I1_4
  clear I2_4
  clear Ig_4
  clear Ih_4
  clear Iw_4
  clear hb b0 b1 b2 b3 b4
  obtain ⟨b0, b1, b2, b3, b4⟩ := HX5.out.cells
  clear Ih_5 Iw_5
  rcases HC.out with hcd | ⟨hcd, m, hmC, hm5, hD, hW⟩
  · have e1 : (cd != 0) = true := by simpa using hcd
    have e2 : (cd == 0) = false := by simpa using hcd
    have e3 : decide (cd = 0) = false := by simpa using hcd
    rw [e3] at HQ
    clear hcd e3
    go_wp2_with fail
    refine (HQ.out A1 _ c1 A2 _ c2 _ _ I1_5.out I2_5.out hn1 hn2 (Nat.le_refl _)).mono ?_
    rintro e w6 ⟨rfl, hb⟩
    have HX6 := hide (HX5.out.next hb)
    have I1_6 := hide ((I1_5.out.below hb).more hb.size)
    have I2_6 := hide ((I2_5.out.below hb).more hb.size)
    have Ig_6 := hide ((Ig_5.out.below hb).more hb.size)
    clear I1_5
    clear I2_5
    clear Ig_5
    clear hb b0 b1 b2 b3 b4
    obtain ⟨b0, b1, b2, b3, b4⟩ := HX6.out.cells
    go_wp2_with fail
    go_ret
    exact ⟨rfl, HB1.out.trans (HX6.out.2.mono HB1.out.size)⟩
  · subst hcd
    rw [show decide ((0 : Int) = 0) = true from rfl] at HQ
    have HD := hide hD
    have HW := hide hW
    clear hD hW hcc HC HS HM
    go_wp2_with fail
    refine (HQ.out A1 _ c1 A2 _ c2 _ _ I1_5.out I2_5.out hn1 hn2 (Nat.le_refl _)).mono ?_
    rintro e w6 ⟨rfl, hb⟩
    have HX6 := hide (HX5.out.next hb)
    have I1_6 := hide ((I1_5.out.below hb).more hb.size)
    have I2_6 := hide ((I2_5.out.below hb).more hb.size)
    have Ig_6 := hide ((Ig_5.out.below hb).more hb.size)
    clear I1_5
    clear I2_5
    clear Ig_5
    clear hb b0 b1 b2 b3 b4
    obtain ⟨b0, b1, b2, b3, b4⟩ := HX6.out.cells
    go_wp2_with fail
    refine (HD.out A1 _ c1 Ag _ cg A2 _ c2 _ _ I1_6.out Ig_6.out I2_6.out hn1 hcg hn2 (Nat.le_refl _)).mono ?_
    rintro e w7 ⟨rfl, hb⟩
    have HX7 := hide (HX6.out.next hb)
    have I1_7 := hide ((I1_6.out.below hb).more hb.size)
    have I2_7 := hide ((I2_6.out.below hb).more hb.size)
    have Ig_7 := hide ((Ig_6.out.below hb).more hb.size)
    clear I1_6
    clear I2_6
    clear Ig_6
    clear hb b0 b1 b2 b3 b4
    obtain ⟨b0, b1, b2, b3, b4⟩ := HX7.out.cells
    go_wp2_with fail
    refine (HW.out Ag _ cg _ _ Ig_7.out hcg (Nat.le_refl _)).mono ?_
    rintro e w8 ⟨rfl, hb⟩
    have HX8 := hide (HX7.out.next hb)
    have I1_8 := hide ((I1_7.out.below hb).more hb.size)
    have I2_8 := hide ((I2_7.out.below hb).more hb.size)
    have Ig_8 := hide ((Ig_7.out.below hb).more hb.size)
    clear I1_7
    clear I2_7
    clear Ig_7
    clear hb b0 b1 b2 b3 b4
    obtain ⟨b0, b1, b2, b3, b4⟩ := HX8.out.cells
    go_wp2_with fail
    go_ret
    exact ⟨rfl, HB1.out.trans (HX8.out.2.mono HB1.out.size)⟩
end Go.Proofs.YtpheembgjdgniaaGreat
