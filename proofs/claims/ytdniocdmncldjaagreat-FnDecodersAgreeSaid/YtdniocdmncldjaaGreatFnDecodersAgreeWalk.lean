/-
  The walk of the law FnDecodersAgree: it returns true, and nothing that was there before is changed.
  Condition: none.
-/
import Derived.Test.YtdniocdmncldjaaGreatJE
import Derived.Test.YtdniocdmncldjaaGreatJH
import Derived.Test.YtdniocdmncldjaaGreatDBoth4
import Derived.Test.YtdniocdmncldjaaGreatJU
import Derived.Test.YtdniocdmncldjaaGreatJV
import Derived.Test.YtdniocdmncldjaaGreatCLaw
namespace Go.Proofs.YtdniocdmncldjaaGreat
open Go.RowKit
set_option linter.unusedVariables false
set_option linter.unusedSimpArgs false

theorem dec_key (p k g L C : Int) (z z' : List Int) (hz : z.length ≤ 1048576) (hz' : z'.length ≤ 1048576) (hC : -9223372036854775808 ≤ C ∧ C ≤ 9223372036854775807) : ∃ (r s : List Int) (cd : Int), r.length ≤ 1048576 ∧ s.length ≤ 1048576 ∧ D2 7 p k g L C z z' (NewIIK r s cd) ∧ D2 8 p k g L C z z' (NewIIK r s cd) ∧ D2 9 p k g L C z z' (NewIIK r s cd) := by
  rcases xErr_cases p k g L C z' [z] with ⟨cd, h, hne⟩ | ⟨_, R, γ, l, c, E, rfl, rfl, hc, rfl, hE, hw⟩
  · exact ⟨[], [], cd, by simp, by simp, cbr_badI p k g L C z z' cd hz hz' hC h hne, (cor_bad p k g L C z z' cd hz hz' hC h hne).2, cbr_spec (cor_badS p k g L C z z' cd hz hz' hC h hne)⟩
  · obtain ⟨ws, rfl, hl⟩ := hw z (List.mem_singleton.2 rfl)
    by_cases ho : ∃ cz, Okw γ l c E ws cz
    · obtain ⟨cz, ho⟩ := ho
      have h255 := hc.l255
      have hd := (difs_idx (l := l) (b := cz) hl).len
      exact ⟨_, _, 0, by rw [iv_len, ho.1]; omega, by rw [nv_len]; omega, cbr_yesI hc ws hl E hE hz hz' cz ho, (cor_yes hc ws hl E hE hz hz' cz ho).2, cbr_spec (cor_yesS hc ws hl E hE hz hz' cz ho)⟩
    · have ho' : ∀ cz, ¬ Okw γ l c E ws cz := fun cz h => ho ⟨cz, h⟩
      exact ⟨[], [], 7, by simp, by simp, cbr_noI hc ws hl E hE hz hz' ho', (cor_no hc ws hl E hE hz hz' ho').2, cbr_spec (cor_noS hc ws hl E hE hz hz' ho')⟩

set_option maxRecDepth 100000 in
set_option maxHeartbeats 8000000 in
theorem fnDecodersAgreeWalk (a0 : Option Addr) (n0 c0 : Nat) (z0 : List Int) (w : World) (h0 : Came .u8 w a0 n0 c0 z0) :
    Calls Tryz.prog 3 #[.slice a0 n0 c0] w fun e w' => e = .returned (.bool true) ∧ Below w.heap.size w w' := by
  obtain ⟨hI, hnc, hcm, hwf⟩ := h0
  have HI := hide hI
  have HBY := hide (show ∀ b ∈ z0, 0 ≤ b ∧ b ≤ 255 from fun b hb => bd_u8 (hwf b hb))
  clear hI hwf
  unfold maxLen at hcm
  by_cases hbig : 4096 < n0
  · go_enter Tryz.func3, Tryz.ntmps3
    go_wp2_with fail
    refine (big_yes a0 n0 c0 w hbig (by omega)).mono ?_
    rintro e w ⟨rfl, rfl⟩
    go_wp2_with fail
    go_ret
    exact ⟨rfl, Below.refl _ _⟩
  have hn0 : n0 ≤ 4096 := by omega
  go_enter Tryz.func3, Tryz.ntmps3
  go_wp2_with fail
  refine (big_no a0 n0 c0 w hn0).mono ?_
  rintro e w ⟨rfl, rfl⟩
  go_wp2_with fail
  refine (drawCbr a0 n0 c0 z0 w HI hn0 HBY).mono ?_
  rintro e w1 ⟨p, k, γ, L, C, z1, A1, c1, z2, A2, c2, rfl, hL0, hL1, hC0, hC1, hl1, hl2, hn1, hn2, hI1, hI2, hb⟩
  have HB1 := hide hb
  have HX1 := hide (CBox.start w1 p k γ L C)
  have hCb : -9223372036854775808 ≤ C ∧ C ≤ 9223372036854775807 := by omega
  have I1_1 := hide ((hI1.below HX1.out.2).more HX1.out.2.size)
  have I2_1 := hide ((hI2.below HX1.out.2).more HX1.out.2.size)
  have I0_1 := hide (((HI.out.below hb).more hb.size).below HX1.out.2 |>.more HX1.out.2.size)
  clear hI1 hI2 hb HI
  obtain ⟨b0, b1, b2, b3, b4⟩ := HX1.out.cells
  clear I0_1
  obtain ⟨r, s, cd, hr, hs, hR, hM, hS⟩ := dec_key p k γ L C z1 z2 (by omega) (by omega) hCb
  have HR := hide hR
  have HM := hide hM
  have HS := hide hS
  clear hR hM hS
  have hcc : (cd == cd) = true := by simp
  go_wp2_with fail
  refine (HR.out A1 _ c1 A2 _ c2 _ _ I1_1.out I2_1.out hn1 hn2 (Nat.le_refl _)).mono ?_
  rintro e w2 ⟨Ag, cg, Ah, ch, rfl, hcg, hch, hog, hoh, hne, hb⟩
  have HX2 := hide (HX1.out.next hb)
  have I1_2 := hide ((I1_1.out.below hb).more hb.size)
  have I2_2 := hide ((I2_1.out.below hb).more hb.size)
  clear I1_1
  clear I2_1
  have Ig_2 := hide hog.ints
  have Ih_2 := hide hoh.ints
  clear hog hoh hne hb hcg hch b0 b1 b2 b3 b4
  obtain ⟨b0, b1, b2, b3, b4⟩ := HX2.out.cells
  go_wp2_with fail
  refine (HM.out A1 _ c1 A2 _ c2 _ _ I1_2.out I2_2.out hn1 hn2 (Nat.le_refl _)).mono ?_
  rintro e w3 ⟨Av, cv, Aw, cw, rfl, hcv, hcw, hog, hoh, hne, hb⟩
  have HX3 := hide (HX2.out.next hb)
  have I1_3 := hide ((I1_2.out.below hb).more hb.size)
  have I2_3 := hide ((I2_2.out.below hb).more hb.size)
  have Ig_3 := hide ((Ig_2.out.below hb).more hb.size)
  have Ih_3 := hide ((Ih_2.out.below hb).more hb.size)
  clear I1_2
  clear I2_2
  clear Ig_2
  clear Ih_2
  have Iv_3 := hide hog.ints
  have Iw_3 := hide hoh.ints
  clear hog hoh hne hb hcv hcw b0 b1 b2 b3 b4
  obtain ⟨b0, b1, b2, b3, b4⟩ := HX3.out.cells
  go_wp2_with fail
  refine (HS.out A1 _ c1 A2 _ c2 _ _ I1_3.out I2_3.out hn1 hn2 (Nat.le_refl _)).mono ?_
  rintro e w4 ⟨Ax, cx, Ay, cy, rfl, hcx, hcy, hog, hoh, hne, hb⟩
  have HX4 := hide (HX3.out.next hb)
  have I1_4 := hide ((I1_3.out.below hb).more hb.size)
  have I2_4 := hide ((I2_3.out.below hb).more hb.size)
  have Ig_4 := hide ((Ig_3.out.below hb).more hb.size)
  have Ih_4 := hide ((Ih_3.out.below hb).more hb.size)
  have Iv_4 := hide ((Iv_3.out.below hb).more hb.size)
  have Iw_4 := hide ((Iw_3.out.below hb).more hb.size)
  clear I1_3 I2_3
  clear Ig_3
  clear Ih_3
  clear Iv_3
  clear Iw_3
  have Ix_4 := hide hog.ints
  have Iy_4 := hide hoh.ints
  clear hog hoh hne hb hcx hcy b0 b1 b2 b3 b4
  obtain ⟨b0, b1, b2, b3, b4⟩ := HX4.out.cells
  go_wp2_with fail
  refine (likeSame Ag _ cg _ Av _ cv _ r _ Ig_4.out Iv_4.out (by omega)).mono ?_
  rintro e w5 ⟨rfl, hb⟩
  have HX5 := hide (HX4.out.next hb)
  have I1_5 := hide ((I1_4.out.below hb).more hb.size)
  have I2_5 := hide ((I2_4.out.below hb).more hb.size)
  have Ig_5 := hide ((Ig_4.out.below hb).more hb.size)
  have Ih_5 := hide ((Ih_4.out.below hb).more hb.size)
  have Iv_5 := hide ((Iv_4.out.below hb).more hb.size)
  have Iw_5 := hide ((Iw_4.out.below hb).more hb.size)
  have Ix_5 := hide ((Ix_4.out.below hb).more hb.size)
  have Iy_5 := hide ((Iy_4.out.below hb).more hb.size)
  clear I1_4
  clear I2_4
  clear Ig_4
  clear Ih_4
  clear Iv_4
  clear Iw_4
  clear Ix_4
  clear Iy_4
  clear hb b0 b1 b2 b3 b4
  obtain ⟨b0, b1, b2, b3, b4⟩ := HX5.out.cells
  go_wp2_with fail
  refine (likeSame Ah _ ch _ Aw _ cw _ s _ Ih_5.out Iw_5.out (by omega)).mono ?_
  rintro e w6 ⟨rfl, hb⟩
  have HX6 := hide (HX5.out.next hb)
  have I1_6 := hide ((I1_5.out.below hb).more hb.size)
  have I2_6 := hide ((I2_5.out.below hb).more hb.size)
  have Ig_6 := hide ((Ig_5.out.below hb).more hb.size)
  have Ih_6 := hide ((Ih_5.out.below hb).more hb.size)
  have Iv_6 := hide ((Iv_5.out.below hb).more hb.size)
  have Iw_6 := hide ((Iw_5.out.below hb).more hb.size)
  have Ix_6 := hide ((Ix_5.out.below hb).more hb.size)
  have Iy_6 := hide ((Iy_5.out.below hb).more hb.size)
  clear I1_5
  clear I2_5
  clear Ig_5
  clear Ih_5
  clear Iv_5
  clear Iw_5
  clear Ix_5
  clear Iy_5
  clear hb b0 b1 b2 b3 b4
  obtain ⟨b0, b1, b2, b3, b4⟩ := HX6.out.cells
  go_wp2_with fail
  refine (likeSame Ag _ cg _ Ax _ cx _ r _ Ig_6.out Ix_6.out (by omega)).mono ?_
  rintro e w7 ⟨rfl, hb⟩
  have HX7 := hide (HX6.out.next hb)
  have I1_7 := hide ((I1_6.out.below hb).more hb.size)
  have I2_7 := hide ((I2_6.out.below hb).more hb.size)
  have Ig_7 := hide ((Ig_6.out.below hb).more hb.size)
  have Ih_7 := hide ((Ih_6.out.below hb).more hb.size)
  have Iv_7 := hide ((Iv_6.out.below hb).more hb.size)
  have Iw_7 := hide ((Iw_6.out.below hb).more hb.size)
  have Ix_7 := hide ((Ix_6.out.below hb).more hb.size)
  have Iy_7 := hide ((Iy_6.out.below hb).more hb.size)
  clear I1_6
  clear I2_6
  clear Ig_6
  clear Ih_6
  clear Iv_6
  clear Iw_6
  clear Ix_6
  clear Iy_6
  clear hb b0 b1 b2 b3 b4
  obtain ⟨b0, b1, b2, b3, b4⟩ := HX7.out.cells
  go_wp2_with fail
  go_ret
  exact ⟨rfl, HB1.out.trans (HX7.out.2.mono HB1.out.size)⟩
end Go.Proofs.YtdniocdmncldjaaGreat
