/-
  The walk of the law FnPolyDivision: it returns true, and nothing that was there before is changed.
  Condition: none.
-/
import Derived.Test.YthafkohopkgckaaPolyMath3
import Derived.Test.YthafkohopkgckaaLike
import Derived.Test.YthafkohopkgckaaPValA
import Derived.Test.YthafkohopkgckaaPDraw2
namespace Go.Proofs.Ythafkohopkgckaa
open Go.RowKit
set_option linter.unusedVariables false
set_option linter.unusedSimpArgs false

set_option maxRecDepth 100000 in
set_option maxHeartbeats 8000000 in
theorem fnPolyDivisionWalk (a0 : Option Addr) (n0 c0 : Nat) (z0 : List Int) (w : World) (h0 : Came .u8 w a0 n0 c0 z0) :
    Calls Try.prog 5 #[.slice a0 n0 c0] w fun e w' => e = .returned (.bool true) ∧ Below w.heap.size w w' := by
  obtain ⟨hI, hnc, hcm, hwf⟩ := h0
  have HI := hide hI
  have HBY := hide (show ∀ b ∈ z0, 0 ≤ b ∧ b ≤ 255 from fun b hb => bd_u8 (hwf b hb))
  clear hI hwf
  unfold maxLen at hcm
  by_cases hbig : 4096 < n0
  · go_enter Try.func5, Try.ntmps5
    go_wp2_with fail
    refine (big_yes a0 n0 c0 w hbig (by omega)).mono ?_
    rintro e w ⟨rfl, rfl⟩
    go_wp2_with fail
    go_ret
    exact ⟨rfl, Below.refl _ _⟩
  have hn0 : n0 ≤ 4096 := by omega
  go_enter Try.func5, Try.ntmps5
  go_wp2_with fail
  refine (big_no a0 n0 c0 w hn0).mono ?_
  rintro e w ⟨rfl, rfl⟩
  go_wp2_with fail
  refine (drawDiv a0 n0 c0 z0 w HI hn0 HBY).mono ?_
  rintro e w1 ⟨p, k, γ, z1, A1, c1, z2, A2, c2, rfl, hz1, hz2, hI1, hI2, hb⟩
  have HB1 := hide hb
  have HX1 := hide (Box.start w1 25 p k γ)
  have I1_1 := hide ((hI1.below HX1.out.2).more HX1.out.2.size)
  have I2_1 := hide ((hI2.below HX1.out.2).more HX1.out.2.size)
  have I0_1 := hide (((HI.out.below hb).more hb.size).below HX1.out.2 |>.more HX1.out.2.size)
  clear hI1 hI2 hb HI
  obtain ⟨b0, b1, b2⟩ := HX1.out.cells
  obtain ⟨r, r', cd, hr, hr', hS, hM, hC⟩ := div_key p k γ z1 z2 hz1 hz2
  have HS := hide hS
  have HM := hide hM
  have HC := hide hC
  clear hS hM hC
  have hcc : (cd != cd) = false := by simp
  go_wp2_with fail
  refine (HM.out A1 _ c1 A2 _ c2 _ _ I1_1.out I2_1.out (Nat.le_refl _)).mono ?_
  rintro e w2 ⟨Ag, cg, Ah, ch, rfl, hcg, hch, hog, hoh, hne, hb⟩
  have HX2 := hide (HX1.out.next hb)
  have I1_2 := hide ((I1_1.out.below hb).more hb.size)
  have I2_2 := hide ((I2_1.out.below hb).more hb.size)
  have I0_2 := hide ((I0_1.out.below hb).more hb.size)
  clear I1_1
  clear I2_1
  clear I0_1
  have Ig_2 := hide (hog.ints)
  clear hog
  have Ih_2 := hide (hoh.ints)
  clear hoh
  clear hb b0 b1 b2
  obtain ⟨b0, b1, b2⟩ := HX2.out.cells
  clear hcg hch hne
  go_wp2_with fail
  refine (HS.out A1 _ c1 A2 _ c2 _ _ I1_2.out I2_2.out (Nat.le_refl _)).mono ?_
  rintro e w3 ⟨Av, cv, Aw, cw, rfl, hcv, hcw, hov, how, hne, hb⟩
  have HX3 := hide (HX2.out.next hb)
  have I1_3 := hide ((I1_2.out.below hb).more hb.size)
  have I2_3 := hide ((I2_2.out.below hb).more hb.size)
  have I0_3 := hide ((I0_2.out.below hb).more hb.size)
  have Ig_3 := hide ((Ig_2.out.below hb).more hb.size)
  have Ih_3 := hide ((Ih_2.out.below hb).more hb.size)
  clear I1_2
  clear I2_2
  clear I0_2
  clear Ig_2
  clear Ih_2
  have Iv_3 := hide (hov.ints)
  clear hov
  have Iw_3 := hide (how.ints)
  clear how
  clear hb b0 b1 b2
  obtain ⟨b0, b1, b2⟩ := HX3.out.cells
  clear hcv hcw hne
  go_wp2_with fail
  refine (likeSame Ag _ cg _ Av _ cv _ r _ Ig_3.out Iv_3.out (by omega)).mono ?_
  rintro e w4 ⟨rfl, hb⟩
  have HX4 := hide (HX3.out.next hb)
  have I1_4 := hide ((I1_3.out.below hb).more hb.size)
  have I2_4 := hide ((I2_3.out.below hb).more hb.size)
  have I0_4 := hide ((I0_3.out.below hb).more hb.size)
  have Ig_4 := hide ((Ig_3.out.below hb).more hb.size)
  have Ih_4 := hide ((Ih_3.out.below hb).more hb.size)
  have Iv_4 := hide ((Iv_3.out.below hb).more hb.size)
  have Iw_4 := hide ((Iw_3.out.below hb).more hb.size)
  clear I1_3
  clear I2_3
  clear I0_3
  clear Ig_3
  clear Ih_3
  clear Iv_3
  clear Iw_3
  clear hb b0 b1 b2
  obtain ⟨b0, b1, b2⟩ := HX4.out.cells
  go_wp2_with fail
  refine (likeSame Ah _ ch _ Aw _ cw _ r' _ Ih_4.out Iw_4.out (by omega)).mono ?_
  rintro e w5 ⟨rfl, hb⟩
  have HX5 := hide (HX4.out.next hb)
  have I1_5 := hide ((I1_4.out.below hb).more hb.size)
  have I2_5 := hide ((I2_4.out.below hb).more hb.size)
  have I0_5 := hide ((I0_4.out.below hb).more hb.size)
  have Ig_5 := hide ((Ig_4.out.below hb).more hb.size)
  have Ih_5 := hide ((Ih_4.out.below hb).more hb.size)
  have Iv_5 := hide ((Iv_4.out.below hb).more hb.size)
  have Iw_5 := hide ((Iw_4.out.below hb).more hb.size)
  clear I1_4
  clear I2_4
  clear I0_4
  clear Ig_4
  clear Ih_4
  clear Iv_4
  clear Iw_4
  clear hb b0 b1 b2
  obtain ⟨b0, b1, b2⟩ := HX5.out.cells
  rcases HC.out with hcd | ⟨hcd, hf, R, ps, qs, hR, hz1e, hz2e, hp, hpl, hq, hql, hre, hre', hq0⟩
  · have e1 : (cd != 0) = true := by simpa using hcd
    clear hcd
    go_wp2_with fail
    go_ret
    exact ⟨rfl, HB1.out.trans (HX5.out.2.mono HB1.out.size)⟩
  · subst hcd hz1e hz2e hre hre'
    have HQL := hide (show (quoP ps qs).length ≤ 512 by unfold quoP; split; simp; rw [tab_len]; omega)
    have HRL := hide (show (remP ps qs).length ≤ 512 by have := @rem_le R ps qs; omega)
    have HTQ := hide (tr_quo hp hq hq0)
    have HTR := hide (tr_rem (q := qs) hp)
    have HPL := hide (show plen (quoP ps qs) qs ≤ 512 by unfold plen; split; omega; have hql2 : (quoP ps qs).length + qs.length ≤ ps.length + 1 ∨ (quoP ps qs).length = 0 := by { unfold quoP; split; right; rfl; left; rw [tab_len]; omega }; omega)
    have HML := hide (show (mulP (quoP ps qs) qs).length ≤ 512 by rw [mulP, tab_len]; exact HPL.out)
    have HSUM := hide (div_sum' hp hq hq0)
    have HLT := hide (rem_len (p := ps) hq hq0)
    have HV1 := hide (mul_val hR (quoP ps qs) qs (iv_small (by have := HQL.out; omega)) (iv_small (by omega)) HTQ.out HQL.out hq hql (pErr_ok2 hf hR HTQ.out HQL.out hq hql) HPL.out).2
    have HTM := hide (tr_mul HTQ.out hq)
    have HV2 := hide (add_val hR (mulP (quoP ps qs) qs) (remP ps qs) (iv_small (by have := HML.out; omega)) (iv_small (by have := HRL.out; omega)) HTM.out HML.out HTR.out HRL.out (pErr_ok2 hf hR HTM.out HML.out HTR.out HRL.out))
    rw [HSUM.out] at HV2
    have HV3 := hide (isPoly_val hR (remP ps qs) (iv_small (by have := HRL.out; omega)) HTR.out HRL.out (pErr_ok1 hf hR HTR.out HRL.out))
    clear hcc HS HM HC hq0
    go_wp2_with fail
    refine (HV1.out Ag _ cg A2 _ c2 _ _ Ig_5.out I2_5.out (Nat.le_refl _)).mono ?_
    rintro e w6 ⟨Ay, cy, rfl, hcy, hoy, hb⟩
    have HX6 := hide (HX5.out.next hb)
    have I1_6 := hide ((I1_5.out.below hb).more hb.size)
    have I2_6 := hide ((I2_5.out.below hb).more hb.size)
    have I0_6 := hide ((I0_5.out.below hb).more hb.size)
    have Ig_6 := hide ((Ig_5.out.below hb).more hb.size)
    have Ih_6 := hide ((Ih_5.out.below hb).more hb.size)
    clear I1_5
    clear I2_5
    clear I0_5
    clear Ig_5
    clear Ih_5
    have Iy_6 := hide (hoy.ints)
    clear hoy
    clear hb b0 b1 b2
    obtain ⟨b0, b1, b2⟩ := HX6.out.cells
    clear hcy
    go_wp2_with fail
    refine (HV2.out Ay _ cy Ah _ ch _ _ Iy_6.out Ih_6.out (Nat.le_refl _)).mono ?_
    rintro e w7 ⟨Az, cz, rfl, hcz, hoz, hb⟩
    have HX7 := hide (HX6.out.next hb)
    have I1_7 := hide ((I1_6.out.below hb).more hb.size)
    have I2_7 := hide ((I2_6.out.below hb).more hb.size)
    have I0_7 := hide ((I0_6.out.below hb).more hb.size)
    have Ig_7 := hide ((Ig_6.out.below hb).more hb.size)
    have Ih_7 := hide ((Ih_6.out.below hb).more hb.size)
    have Iy_7 := hide ((Iy_6.out.below hb).more hb.size)
    clear I1_6
    clear I2_6
    clear I0_6
    clear Ig_6
    clear Ih_6
    clear Iy_6
    have Iz_7 := hide (hoz.ints)
    clear hoz
    clear hb b0 b1 b2
    obtain ⟨b0, b1, b2⟩ := HX7.out.cells
    clear hcz
    go_wp2_with fail
    refine (likeSame Az _ cz _ A1 _ c1 _ (iv ps) _ Iz_7.out I1_7.out (by omega)).mono ?_
    rintro e w8 ⟨rfl, hb⟩
    have HX8 := hide (HX7.out.next hb)
    have I1_8 := hide ((I1_7.out.below hb).more hb.size)
    have I2_8 := hide ((I2_7.out.below hb).more hb.size)
    have I0_8 := hide ((I0_7.out.below hb).more hb.size)
    have Ig_8 := hide ((Ig_7.out.below hb).more hb.size)
    have Ih_8 := hide ((Ih_7.out.below hb).more hb.size)
    have Iy_8 := hide ((Iy_7.out.below hb).more hb.size)
    have Iz_8 := hide ((Iz_7.out.below hb).more hb.size)
    clear I1_7
    clear I2_7
    clear I0_7
    clear Ig_7
    clear Ih_7
    clear Iy_7
    clear Iz_7
    clear hb b0 b1 b2
    obtain ⟨b0, b1, b2⟩ := HX8.out.cells
    have hlt : (iv (remP ps qs)).length < (iv qs).length := by rw [iv_len, iv_len]; exact HLT.out
    go_wp2_with fail
    refine (HV3.out Ah _ ch _ _ Ih_8.out (Nat.le_refl _)).mono ?_
    rintro e w9 ⟨rfl, hb⟩
    have HX9 := hide (HX8.out.next hb)
    have I1_9 := hide ((I1_8.out.below hb).more hb.size)
    have I2_9 := hide ((I2_8.out.below hb).more hb.size)
    have I0_9 := hide ((I0_8.out.below hb).more hb.size)
    have Ig_9 := hide ((Ig_8.out.below hb).more hb.size)
    have Ih_9 := hide ((Ih_8.out.below hb).more hb.size)
    have Iy_9 := hide ((Iy_8.out.below hb).more hb.size)
    have Iz_9 := hide ((Iz_8.out.below hb).more hb.size)
    clear I1_8
    clear I2_8
    clear I0_8
    clear Ig_8
    clear Ih_8
    clear Iy_8
    clear Iz_8
    clear hb b0 b1 b2
    obtain ⟨b0, b1, b2⟩ := HX9.out.cells
    go_wp2_with fail
    go_ret
    exact ⟨rfl, HB1.out.trans (HX9.out.2.mono HB1.out.size)⟩
end Go.Proofs.Ythafkohopkgckaa
