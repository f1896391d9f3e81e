/-
  The walk of the law FnLocators: it returns true, and nothing that was there before is changed.
  Condition: none.
-/
import Derived.Test.YtpheembgjdgniaaJE
import Derived.Test.YtpheembgjdgniaaJH
import Derived.Test.YtpheembgjdgniaaDValL
import Derived.Test.YtpheembgjdgniaaDDraw2
import Derived.Test.YtpheembgjdgniaaCLaw
namespace Go.Proofs.Ytpheembgjdgniaa
open Go.RowKit
set_option linter.unusedVariables false
set_option linter.unusedSimpArgs false

set_option maxRecDepth 100000 in
set_option maxHeartbeats 8000000 in
theorem fnLocatorsWalk (a0 : Option Addr) (n0 c0 : Nat) (z0 : List Int) (w : World) (h0 : Came .u8 w a0 n0 c0 z0) :
    Calls Try.prog 5 #[.slice a0 n0 c0] w fun e w' => e = .returned (.bool true) ∧ Below w.heap.size w w' := by
  obtain ⟨hI, hnc, hcm, hwf⟩ := h0
  have HI := hide hI
  have HBY := hide (show ∀ b ∈ z0, 0 ≤ b ∧ b ≤ 255 from fun b hb => bd_u8 (hwf b hb))
  clear hI hwf
  unfold maxLen at hcm
  by_cases hbig : 4096 < n0
  · go_enter Try.func5, Try.ntmps5
    go_wp2_with fail
    refine (big_yes a0 n0 c0 w hbig (by omega)).mono ?_
    rintro e w ⟨rfl, rfl⟩
    go_wp2_with fail
    go_ret
    exact ⟨rfl, Below.refl _ _⟩
  have hn0 : n0 ≤ 4096 := by omega
  go_enter Try.func5, Try.ntmps5
  go_wp2_with fail
  refine (big_no a0 n0 c0 w hn0).mono ?_
  rintro e w ⟨rfl, rfl⟩
  go_wp2_with fail
  refine (drawLoc a0 n0 c0 z0 w HI hn0 HBY).mono ?_
  rintro e w1 ⟨p, k, γ, L, C, z1, A1, c1, rfl, hL0, hL1, hC0, hC1, hl1, hn1, hI1, hb⟩
  have HB1 := hide hb
  have HX1 := hide (CBox.start w1 p k γ L C)
  have hCb : -9223372036854775808 ≤ C ∧ C ≤ 9223372036854775807 := by omega
  have I1_1 := hide ((hI1.below HX1.out.2).more HX1.out.2.size)
  have I0_1 := hide (((HI.out.below hb).more hb.size).below HX1.out.2 |>.more HX1.out.2.size)
  clear hI1 hb HI
  obtain ⟨b0, b1, b2, b3, b4⟩ := HX1.out.cells
  clear I0_1
  obtain ⟨r, cd, hr, hS, hM, hC⟩ := loc_key p k γ L C z1 (by omega) hCb
  have HS := hide hS
  have HM := hide hM
  have HC := hide hC
  clear hS hM hC
  have hcc : (cd != cd) = false := by simp
  go_wp2_with fail
  refine (HM.out A1 _ c1 _ _ I1_1.out hn1 (Nat.le_refl _)).mono ?_
  rintro e w2 ⟨Ag, cg, rfl, hcg, hog, hb⟩
  have HX2 := hide (HX1.out.next hb)
  have I1_2 := hide ((I1_1.out.below hb).more hb.size)
  clear I1_1
  have Ig_2 := hide (hog.ints)
  clear hog
  clear hb b0 b1 b2 b3 b4
  obtain ⟨b0, b1, b2, b3, b4⟩ := HX2.out.cells
  go_wp2_with fail
  refine (HS.out A1 _ c1 _ _ I1_2.out hn1 (Nat.le_refl _)).mono ?_
  rintro e w3 ⟨Av, cv, rfl, hcv, hov, hb⟩
  have HX3 := hide (HX2.out.next hb)
  have I1_3 := hide ((I1_2.out.below hb).more hb.size)
  have Ig_3 := hide ((Ig_2.out.below hb).more hb.size)
  clear I1_2
  clear Ig_2
  have Iv_3 := hide (hov.ints)
  clear hov
  clear hb b0 b1 b2 b3 b4
  obtain ⟨b0, b1, b2, b3, b4⟩ := HX3.out.cells
  clear hcv
  go_wp2_with fail
  refine (likeSame Ag _ cg _ Av _ cv _ r _ Ig_3.out Iv_3.out (by omega)).mono ?_
  rintro e w4 ⟨rfl, hb⟩
  have HX4 := hide (HX3.out.next hb)
  have I1_4 := hide ((I1_3.out.below hb).more hb.size)
  have Ig_4 := hide ((Ig_3.out.below hb).more hb.size)
  have Iv_4 := hide ((Iv_3.out.below hb).more hb.size)
  clear I1_3
  clear Ig_3
  clear Iv_3
  clear hb b0 b1 b2 b3 b4
  obtain ⟨b0, b1, b2, b3, b4⟩ := HX4.out.cells
  clear Iv_4
  rcases HC.out with hcd | ⟨hcd, hlen, hI⟩
  · have e1 : (cd != 0) = true := by simpa using hcd
    clear hcd
    go_wp2_with fail
    go_ret
    exact ⟨rfl, HB1.out.trans (HX4.out.2.mono HB1.out.size)⟩
  · subst hcd
    have HI := hide hI
    have hll : ((r.length : Int) == (z1.length : Int) + 1) = true := by rw [hlen]; simp
    clear hI hcc HS HM HC hlen
    go_wp2_with fail
    refine (HI.out Ag _ cg _ _ Ig_4.out hcg (Nat.le_refl _)).mono ?_
    rintro e w5 ⟨Ab, cb, rfl, hcb, hob, hb⟩
    have HX5 := hide (HX4.out.next hb)
    have I1_5 := hide ((I1_4.out.below hb).more hb.size)
    have Ig_5 := hide ((Ig_4.out.below hb).more hb.size)
    clear I1_4
    clear Ig_4
    have Ib_5 := hide (hob.ints)
    clear hob
    clear hb b0 b1 b2 b3 b4
    obtain ⟨b0, b1, b2, b3, b4⟩ := HX5.out.cells
    clear hcb
    go_wp2_with fail
    refine (likeSame Ab _ cb _ A1 _ c1 _ z1 _ Ib_5.out I1_5.out (by omega)).mono ?_
    rintro e w6 ⟨rfl, hb⟩
    have HX6 := hide (HX5.out.next hb)
    have I1_6 := hide ((I1_5.out.below hb).more hb.size)
    have Ig_6 := hide ((Ig_5.out.below hb).more hb.size)
    have Ib_6 := hide ((Ib_5.out.below hb).more hb.size)
    clear I1_5
    clear Ig_5
    clear Ib_5
    clear hb b0 b1 b2 b3 b4
    obtain ⟨b0, b1, b2, b3, b4⟩ := HX6.out.cells
    go_wp2_with fail
    go_ret
    exact ⟨rfl, HB1.out.trans (HX6.out.2.mono HB1.out.size)⟩
end Go.Proofs.Ytpheembgjdgniaa
