/-
  The walk of the law FnPolyGcd: it returns true, and nothing that was there before is changed.
  Condition: none.
-/
import Derived.Test.YthafkohopkgckaaPolyMath3
import Derived.Test.YthafkohopkgckaaLike
import Derived.Test.YthafkohopkgckaaPValG
import Derived.Test.YthafkohopkgckaaPDraw3
namespace Go.Proofs.Ythafkohopkgckaa
open Go.RowKit
set_option linter.unusedVariables false
set_option linter.unusedSimpArgs false

set_option maxRecDepth 100000 in
set_option maxHeartbeats 8000000 in
theorem fnPolyGcdWalk (a0 : Option Addr) (n0 c0 : Nat) (z0 : List Int) (w : World) (h0 : Came .u8 w a0 n0 c0 z0) :
    Calls Try.prog 8 #[.slice a0 n0 c0] w fun e w' => e = .returned (.bool true) ∧ Below w.heap.size w w' := by
  obtain ⟨hI, hnc, hcm, hwf⟩ := h0
  have HI := hide hI
  have HBY := hide (show ∀ b ∈ z0, 0 ≤ b ∧ b ≤ 255 from fun b hb => bd_u8 (hwf b hb))
  clear hI hwf
  unfold maxLen at hcm
  by_cases hbig : 4096 < n0
  · go_enter Try.func8, Try.ntmps8
    go_wp2_with fail
    refine (big_yes a0 n0 c0 w hbig (by omega)).mono ?_
    rintro e w ⟨rfl, rfl⟩
    go_wp2_with fail
    go_ret
    exact ⟨rfl, Below.refl _ _⟩
  have hn0 : n0 ≤ 4096 := by omega
  go_enter Try.func8, Try.ntmps8
  go_wp2_with fail
  refine (big_no a0 n0 c0 w hn0).mono ?_
  rintro e w ⟨rfl, rfl⟩
  go_wp2_with fail
  refine (drawGcd a0 n0 c0 z0 w HI hn0 HBY).mono ?_
  rintro e w1 ⟨p, k, γ, z1, A1, c1, z2, A2, c2, rfl, hz1, hz2, hI1, hI2, hb⟩
  have HB1 := hide hb
  have HX1 := hide (Box.start w1 25 p k γ)
  have I1_1 := hide ((hI1.below HX1.out.2).more HX1.out.2.size)
  have I2_1 := hide ((hI2.below HX1.out.2).more HX1.out.2.size)
  have I0_1 := hide (((HI.out.below hb).more hb.size).below HX1.out.2 |>.more HX1.out.2.size)
  clear hI1 hI2 hb HI
  obtain ⟨b0, b1, b2⟩ := HX1.out.cells
  obtain ⟨r, cd, hr, hS, hM, hC⟩ := gcd_key p k γ z1 z2 hz1 hz2
  have HS := hide hS
  have HM := hide hM
  have HC := hide hC
  clear hS hM hC
  have hcc : (cd != cd) = false := by simp
  go_wp2_with fail
  refine (HM.out A1 _ c1 A2 _ c2 _ _ I1_1.out I2_1.out (Nat.le_refl _)).mono ?_
  rintro e w2 ⟨Ag, cg, rfl, hcg, hog, hb⟩
  have HX2 := hide (HX1.out.next hb)
  have I1_2 := hide ((I1_1.out.below hb).more hb.size)
  have I2_2 := hide ((I2_1.out.below hb).more hb.size)
  have I0_2 := hide ((I0_1.out.below hb).more hb.size)
  clear I1_1
  clear I2_1
  clear I0_1
  have Ig_2 := hide (hog.ints)
  clear hog
  clear hb b0 b1 b2
  obtain ⟨b0, b1, b2⟩ := HX2.out.cells
  clear hcg
  go_wp2_with fail
  refine (HS.out A1 _ c1 A2 _ c2 _ _ I1_2.out I2_2.out (Nat.le_refl _)).mono ?_
  rintro e w3 ⟨Av, cv, rfl, hcv, hov, hb⟩
  have HX3 := hide (HX2.out.next hb)
  have I1_3 := hide ((I1_2.out.below hb).more hb.size)
  have I2_3 := hide ((I2_2.out.below hb).more hb.size)
  have I0_3 := hide ((I0_2.out.below hb).more hb.size)
  have Ig_3 := hide ((Ig_2.out.below hb).more hb.size)
  clear I1_2
  clear I2_2
  clear I0_2
  clear Ig_2
  have Iv_3 := hide (hov.ints)
  clear hov
  clear hb b0 b1 b2
  obtain ⟨b0, b1, b2⟩ := HX3.out.cells
  clear hcv
  go_wp2_with fail
  refine (likeSame Ag _ cg _ Av _ cv _ r _ Ig_3.out Iv_3.out (by omega)).mono ?_
  rintro e w4 ⟨rfl, hb⟩
  have HX4 := hide (HX3.out.next hb)
  have I1_4 := hide ((I1_3.out.below hb).more hb.size)
  have I2_4 := hide ((I2_3.out.below hb).more hb.size)
  have I0_4 := hide ((I0_3.out.below hb).more hb.size)
  have Ig_4 := hide ((Ig_3.out.below hb).more hb.size)
  have Iv_4 := hide ((Iv_3.out.below hb).more hb.size)
  clear I1_3
  clear I2_3
  clear I0_3
  clear Ig_3
  clear Iv_3
  clear hb b0 b1 b2
  obtain ⟨b0, b1, b2⟩ := HX4.out.cells
  rcases HC.out with hcd | ⟨hcd, hf, R, ps, qs, hR, hz1e, hz2e, hp, hpl, hq, hql, hre, hpos⟩
  · have e1 : (cd != 0) = true := by simpa using hcd
    clear hcd
    go_wp2_with fail
    go_ret
    exact ⟨rfl, HB1.out.trans (HX4.out.2.mono HB1.out.size)⟩
  · subst hcd hz1e hz2e hre
    obtain ⟨hTg, hr1, hr2, hgp, hgl, hgm⟩ := gcdM_facts hp hq hpos
    obtain ⟨gs, hgs⟩ : ∃ gs, gs = gcdM ps qs := ⟨_, rfl⟩
    rw [← hgs] at hTg hr1 hr2 hgp hgl hgm
    rw [← hgs] at Ig_4 ⊢
    have hgsl : gs.length ≤ 512 := by omega
    have HD1 := hide (div_val hR ps gs (iv_small (by omega)) (iv_small (by omega)) hp hpl hTg hgsl (pErr_ok2 hf hR hp hpl hTg hgsl) hgp).2
    have HD2 := hide (div_val hR qs gs (iv_small (by omega)) (iv_small (by omega)) hq hql hTg hgsl (pErr_ok2 hf hR hq hql hTg hgsl) hgp).2
    rw [hr1] at HD1
    rw [hr2] at HD2
    have HLE := hide (show (iv gs)[gs.length - 1]? = some 1 by rw [iv_at (by omega)]; exact congrArg some (by show (((lastE gs).val : Nat) : Int) = 1; rw [hgl]; rfl))
    clear hcc HS HM HC hr1 hr2 hgl hgm hgs
    go_wp2_with fail
    refine (HD1.out A1 _ c1 Ag _ cg _ _ I1_4.out Ig_4.out (Nat.le_refl _)).mono ?_
    rintro e w5 ⟨Ab, cb, Ac, cc, rfl, hcb, hcc, hob, hoc, hne, hb⟩
    have HX5 := hide (HX4.out.next hb)
    have I1_5 := hide ((I1_4.out.below hb).more hb.size)
    have I2_5 := hide ((I2_4.out.below hb).more hb.size)
    have I0_5 := hide ((I0_4.out.below hb).more hb.size)
    have Ig_5 := hide ((Ig_4.out.below hb).more hb.size)
    clear I1_4
    clear I2_4
    clear I0_4
    clear Ig_4
    clear hb b0 b1 b2
    obtain ⟨b0, b1, b2⟩ := HX5.out.cells
    clear hcb hcc hob hoc hne
    go_wp2_with fail
    refine (HD2.out A2 _ c2 Ag _ cg _ _ I2_5.out Ig_5.out (Nat.le_refl _)).mono ?_
    rintro e w6 ⟨Ad, cd, Ae, ce, rfl, hcb, hcc, hob, hoc, hne, hb⟩
    have HX6 := hide (HX5.out.next hb)
    have I1_6 := hide ((I1_5.out.below hb).more hb.size)
    have I2_6 := hide ((I2_5.out.below hb).more hb.size)
    have I0_6 := hide ((I0_5.out.below hb).more hb.size)
    have Ig_6 := hide ((Ig_5.out.below hb).more hb.size)
    clear I1_5
    clear I2_5
    clear I0_5
    clear Ig_5
    clear hb b0 b1 b2
    obtain ⟨b0, b1, b2⟩ := HX6.out.cells
    clear hcb hcc hob hoc hne
    have e6 : (iv ([] : List (El R))).length = 0 := rfl
    obtain ⟨n, hn⟩ : ∃ n, (iv gs).length = n := ⟨_, rfl⟩
    rw [hn] at Ig_6 ⊢
    have hnl : n = gs.length := by rw [← hn, iv_len]
    obtain ⟨m, hm⟩ : ∃ m, m = n - 1 := ⟨_, rfl⟩
    have hmn : m < n := by omega
    have hnb : n ≤ 1000 := by omega
    have hmb : m ≤ 1000 := by omega
    have hn0 : (0 : Int) < (n : Int) := by omega
    have hn1 : 0 < n := by omega
    have hw1 : (n : Int) - 1 = (m : Int) := by omega
    obtain ⟨b, off, x, rfl, hb, hx, hc⟩ := Ig_6.out.at_ hmn
    have hx1 : x = 1 := by have h1 := HLE.out; rw [show gs.length - 1 = m by omega] at h1; rw [h1] at hx; injection hx with hx; exact hx.symm
    subst hx1
    clear hx hb hn hnl hm
    go_wp2_with fail
    go_ret
    exact ⟨rfl, HB1.out.trans (HX6.out.2.mono HB1.out.size)⟩
end Go.Proofs.Ythafkohopkgckaa
