/-
  The walk of the law FnPolyProducts: it returns true, and nothing that was there before is changed.
  Condition: none.
-/
import Derived.Test.YthafkohopkgckaaPolyMath3
import Derived.Test.YthafkohopkgckaaLike
import Derived.Test.YthafkohopkgckaaPVal1
import Derived.Test.YthafkohopkgckaaPDraw2
import Derived.Test.YthafkohopkgckaaDice2
namespace Go.Proofs.Ythafkohopkgckaa
open Go.RowKit
set_option linter.unusedVariables false
set_option linter.unusedSimpArgs false

theorem after_dice {w w' : World} {g B n : Nat} {A a0 : Option Addr} {n0 c0 : Nat} {z0 zs : List Int} (h : Ints .i64 w B A n zs) (hg : w.grownBy w' (some g)) (hd : Dice w g g a0 n0 c0 z0) (hB : B ≤ g) : Ints .i64 w' w'.heap.size A n zs :=
  (h.keep fun b o hb => World.cell?_of_block (hg.block b (by have := hd.lt; omega) (fun e => by injection e with e; omega))).more (by have := hd.lt; have := hg.size; omega)

set_option maxRecDepth 100000 in
set_option maxHeartbeats 8000000 in
theorem fnPolyProductsWalk (a0 : Option Addr) (n0 c0 : Nat) (z0 : List Int) (w : World) (h0 : Came .u8 w a0 n0 c0 z0) :
    Calls Try.prog 4 #[.slice a0 n0 c0] w fun e w' => e = .returned (.bool true) ∧ Below w.heap.size w w' := by
  obtain ⟨hI, hnc, hcm, hwf⟩ := h0
  have HI := hide hI
  have HBY := hide (show ∀ b ∈ z0, 0 ≤ b ∧ b ≤ 255 from fun b hb => bd_u8 (hwf b hb))
  clear hI hwf
  unfold maxLen at hcm
  by_cases hbig : 4096 < n0
  · go_enter Try.func4, Try.ntmps4
    go_wp2_with fail
    refine (big_yes a0 n0 c0 w hbig (by omega)).mono ?_
    rintro e w ⟨rfl, rfl⟩
    go_wp2_with fail
    go_ret
    exact ⟨rfl, Below.refl _ _⟩
  have hn0 : n0 ≤ 4096 := by omega
  go_enter Try.func4, Try.ntmps4
  go_wp2_with fail
  refine (big_no a0 n0 c0 w hn0).mono ?_
  rintro e w ⟨rfl, rfl⟩
  go_wp2_with fail
  refine (drawPMul a0 n0 c0 z0 w HI hn0 HBY).mono ?_
  rintro e w1 ⟨p, k, γ, z1, A1, c1, z2, A2, c2, rfl, hz1, hz2, hI1, hI2, hb⟩
  have HB1 := hide hb
  have HX1 := hide (Box.start w1 25 p k γ)
  have I1_1 := hide ((hI1.below HX1.out.2).more HX1.out.2.size)
  have I2_1 := hide ((hI2.below HX1.out.2).more HX1.out.2.size)
  have I0_1 := hide (((HI.out.below hb).more hb.size).below HX1.out.2 |>.more HX1.out.2.size)
  clear hI1 hI2 hb HI
  obtain ⟨b0, b1, b2⟩ := HX1.out.cells
  obtain ⟨r, cd, hr, hS, hM, hC⟩ := mul_key p k γ z1 z2 hz1 hz2
  have HS := hide hS
  have HM := hide hM
  have HC := hide hC
  clear hS hM hC
  have hcc : (cd != cd) = false := by simp
  go_wp2_with fail
  refine (HM.out A1 _ c1 A2 _ c2 _ _ I1_1.out I2_1.out (Nat.le_refl _)).mono ?_
  rintro e w2 ⟨Ag, cg, rfl, hcg, hog, hb⟩
  have HX2 := hide (HX1.out.next hb)
  have I1_2 := hide ((I1_1.out.below hb).more hb.size)
  have I2_2 := hide ((I2_1.out.below hb).more hb.size)
  have I0_2 := hide ((I0_1.out.below hb).more hb.size)
  clear I1_1
  clear I2_1
  clear I0_1
  have Ig_2 := hide (hog.ints)
  clear hog
  clear hb b0 b1 b2
  obtain ⟨b0, b1, b2⟩ := HX2.out.cells
  clear hcg
  go_wp2_with fail
  refine (HS.out A1 _ c1 A2 _ c2 _ _ I1_2.out I2_2.out (Nat.le_refl _)).mono ?_
  rintro e w3 ⟨Av, cv, rfl, hcv, hov, hb⟩
  have HX3 := hide (HX2.out.next hb)
  have I1_3 := hide ((I1_2.out.below hb).more hb.size)
  have I2_3 := hide ((I2_2.out.below hb).more hb.size)
  have I0_3 := hide ((I0_2.out.below hb).more hb.size)
  have Ig_3 := hide ((Ig_2.out.below hb).more hb.size)
  clear I1_2
  clear I2_2
  clear I0_2
  clear Ig_2
  have Iv_3 := hide (hov.ints)
  clear hov
  clear hb b0 b1 b2
  obtain ⟨b0, b1, b2⟩ := HX3.out.cells
  clear hcv
  go_wp2_with fail
  refine (likeSame Ag _ cg _ Av _ cv _ r _ Ig_3.out Iv_3.out (by omega)).mono ?_
  rintro e w4 ⟨rfl, hb⟩
  have HX4 := hide (HX3.out.next hb)
  have I1_4 := hide ((I1_3.out.below hb).more hb.size)
  have I2_4 := hide ((I2_3.out.below hb).more hb.size)
  have I0_4 := hide ((I0_3.out.below hb).more hb.size)
  have Ig_4 := hide ((Ig_3.out.below hb).more hb.size)
  have Iv_4 := hide ((Iv_3.out.below hb).more hb.size)
  clear I1_3
  clear I2_3
  clear I0_3
  clear Ig_3
  clear Iv_3
  clear hb b0 b1 b2
  obtain ⟨b0, b1, b2⟩ := HX4.out.cells
  rcases HC.out with hcd | ⟨hcd, hf, R, ps, qs, hR, hz1e, hz2e, hp, hpl, hq, hql, hre, hbg⟩
  · have e1 : (cd != 0) = true := by simpa using hcd
    clear hcd
    go_wp2_with fail
    go_ret
    exact ⟨rfl, HB1.out.trans (HX4.out.2.mono HB1.out.size)⟩
  subst hcd hz1e hz2e hre
  clear hcc HS HM HC
  by_cases h40 : 40 < (iv ps).length
  · go_wp2_with fail
    go_ret
    exact ⟨rfl, HB1.out.trans (HX4.out.2.mono HB1.out.size)⟩
  by_cases h41 : 40 < (iv qs).length
  · go_wp2_with fail
    go_ret
    exact ⟨rfl, HB1.out.trans (HX4.out.2.mono HB1.out.size)⟩
  have e40 : decide ((40 : Int) < ((iv ps).length : Int)) = false := by rw [decide_eq_false_iff_not]; omega
  have e41 : decide ((40 : Int) < ((iv qs).length : Int)) = false := by rw [decide_eq_false_iff_not]; omega
  clear h40 h41
  go_wp2_with fail
  refine (roll_any a0 n0 c0 z0 301 _ I0_4.out hn0 HBY.out).mono ?_
  rintro e w5 ⟨rfl, hd, hb⟩
  have HX5 := hide (HX4.out.next hb)
  have HD := hide hd
  have I1_5 := hide (I1_4.out.below hb)
  clear I1_4
  have I2_5 := hide (I2_4.out.below hb)
  clear I2_4
  have Ig_5 := hide (Ig_4.out.below hb)
  clear Ig_4
  clear hd hb b0 b1 b2 I0_4
  go_wp2_with fail
  refine (below_any _ _ a0 n0 c0 z0 3 _ HD.out (by omega) (by omega)).mono ?_
  rintro e w6 ⟨zz, rfl, hzz, hd, hg⟩
  have HX6 := hide (HX5.out.grown hg HX4.out.lt)
  have I1_6 := hide (after_dice I1_5.out hg HD.out (Nat.le_refl _))
  have I2_6 := hide (after_dice I2_5.out hg HD.out (Nat.le_refl _))
  have Ig_6 := hide (after_dice Ig_5.out hg HD.out (Nat.le_refl _))
  clear hd hg
  obtain ⟨b0, b1, b2⟩ := HX6.out.cells
  have hq3 := R.three
  obtain ⟨X, rfl⟩ : ∃ X : El R, zz = X.val := ⟨⟨zz, by omega⟩, rfl⟩
  have HML := hide (show (mulP ps qs).length ≤ 512 by rw [mulP, tab_len]; exact hbg)
  have HTM := hide (tr_mul hp hq)
  have HE1 := hide (eval_val hR ps (iv_small (by omega)) hp hpl (pErr_ok1 hf hR hp hpl) X)
  have HE2 := hide (eval_val hR qs (iv_small (by omega)) hq hql (pErr_ok1 hf hR hq hql) X)
  have HE3 := hide (eval_val hR (mulP ps qs) (iv_small (by have := HML.out; omega)) HTM.out HML.out (pErr_ok1 hf hR HTM.out HML.out) X)
  rw [ev_mul] at HE3
  have HFM := hide (fMulE hf hR (ev X ps) (ev X qs))
  go_wp2_with fail
  refine (HE1.out A1 _ c1 _ _ I1_6.out (Nat.le_refl _)).mono ?_
  rintro e w7 ⟨rfl, hb⟩
  have HX7 := hide (HX6.out.next hb)
  have I1_7 := hide ((I1_6.out.below hb).more hb.size)
  have I2_7 := hide ((I2_6.out.below hb).more hb.size)
  have Ig_7 := hide ((Ig_6.out.below hb).more hb.size)
  clear I1_6
  clear I2_6
  clear Ig_6
  clear hb b0 b1 b2
  obtain ⟨b0, b1, b2⟩ := HX7.out.cells
  go_wp2_with fail
  refine (HE2.out A2 _ c2 _ _ I2_7.out (Nat.le_refl _)).mono ?_
  rintro e w8 ⟨rfl, hb⟩
  have HX8 := hide (HX7.out.next hb)
  have I1_8 := hide ((I1_7.out.below hb).more hb.size)
  have I2_8 := hide ((I2_7.out.below hb).more hb.size)
  have Ig_8 := hide ((Ig_7.out.below hb).more hb.size)
  clear I1_7
  clear I2_7
  clear Ig_7
  clear hb b0 b1 b2
  obtain ⟨b0, b1, b2⟩ := HX8.out.cells
  go_wp2_with fail
  refine (HE3.out Ag _ cg _ _ Ig_8.out (Nat.le_refl _)).mono ?_
  rintro e w9 ⟨rfl, hb⟩
  have HX9 := hide (HX8.out.next hb)
  have I1_9 := hide ((I1_8.out.below hb).more hb.size)
  have I2_9 := hide ((I2_8.out.below hb).more hb.size)
  have Ig_9 := hide ((Ig_8.out.below hb).more hb.size)
  clear I1_8
  clear I2_8
  clear Ig_8
  clear hb b0 b1 b2
  obtain ⟨b0, b1, b2⟩ := HX9.out.cells
  go_wp2_with fail
  refine (implMul p k γ _ _ _).mono ?_
  rw [HFM.out.1, HFM.out.2]
  rintro e w10 ⟨rfl, hb⟩
  have HX10 := hide (HX9.out.next hb)
  have I1_10 := hide ((I1_9.out.below hb).more hb.size)
  have I2_10 := hide ((I2_9.out.below hb).more hb.size)
  have Ig_10 := hide ((Ig_9.out.below hb).more hb.size)
  clear hb b0 b1 b2
  obtain ⟨b0, b1, b2⟩ := HX10.out.cells
  have hmm : ((((ev X ps * ev X qs).val : Nat) : Int) != (((ev X ps * ev X qs).val : Nat) : Int)) = false := by simp
  by_cases hq0 : qs.length = 0
  · have e5 : (((iv qs).length : Int) == 0) = true := by rw [iv_len, hq0]; rfl
    clear hq0
    go_wp2_with fail
    go_ret
    exact ⟨rfl, HB1.out.trans (HX10.out.2.mono HB1.out.size)⟩
  · have e5 : (((iv qs).length : Int) == 0) = false := by rw [iv_len]; simp; intro h; rw [h] at hq0; exact hq0 rfl
    have HDV := hide (div_val hR (mulP ps qs) qs (iv_small (by have := HML.out; omega)) (iv_small (by omega)) HTM.out HML.out hq hql (pErr_ok2 hf hR HTM.out HML.out hq hql) (by omega)).2
    have HBK := hide (div_back hp hq (by omega))
    rw [HBK.out.1, HBK.out.2] at HDV
    clear hq0
    go_wp2_with fail
    refine (HDV.out Ag _ cg A2 _ c2 _ _ Ig_10.out I2_10.out (Nat.le_refl _)).mono ?_
    rintro e w11 ⟨Ab, cb, Ac, cc, rfl, hcb, hcc, hob, hoc, hne, hb⟩
    have HX11 := hide (HX10.out.next hb)
    have I1_11 := hide ((I1_10.out.below hb).more hb.size)
    have I2_11 := hide ((I2_10.out.below hb).more hb.size)
    have Ig_11 := hide ((Ig_10.out.below hb).more hb.size)
    clear I1_10
    clear I2_10
    clear Ig_10
    have Ib_11 := hide (hob.ints)
    clear hob
    clear hb b0 b1 b2
    obtain ⟨b0, b1, b2⟩ := HX11.out.cells
    clear hcb hcc hoc hne
    go_wp2_with fail
    refine (likeSame Ab _ cb _ A1 _ c1 _ (iv ps) _ Ib_11.out I1_11.out (by rw [iv_len]; omega)).mono ?_
    rintro e w12 ⟨rfl, hb⟩
    have HX12 := hide (HX11.out.next hb)
    have I1_12 := hide ((I1_11.out.below hb).more hb.size)
    have I2_12 := hide ((I2_11.out.below hb).more hb.size)
    have Ig_12 := hide ((Ig_11.out.below hb).more hb.size)
    have Ib_12 := hide ((Ib_11.out.below hb).more hb.size)
    clear I1_11
    clear I2_11
    clear Ig_11
    clear Ib_11
    clear hb b0 b1 b2
    obtain ⟨b0, b1, b2⟩ := HX12.out.cells
    have e6 : (iv ([] : List (El R))).length = 0 := rfl
    go_wp2_with fail
    go_ret
    exact ⟨rfl, HB1.out.trans (HX12.out.2.mono HB1.out.size)⟩
end Go.Proofs.Ythafkohopkgckaa
