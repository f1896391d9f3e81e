/-
  The walk of the law FnErrorRecurrence: it returns true, and nothing that was there before is changed.
  Condition: none.
-/
import Derived.Test.YtdniocdmncldjaaGreatJE
import Derived.Test.YtdniocdmncldjaaGreatJH
import Derived.Test.YtdniocdmncldjaaGreatCHalf
import Derived.Test.YtdniocdmncldjaaGreatJT
import Derived.Test.YtdniocdmncldjaaGreatJU
import Derived.Test.YtdniocdmncldjaaGreatJV
import Derived.Test.YtdniocdmncldjaaGreatCLaw
namespace Go.Proofs.YtdniocdmncldjaaGreat
open Go.RowKit
set_option linter.unusedVariables false
set_option linter.unusedSimpArgs false

set_option maxHeartbeats 4000000 in
theorem er_key (p k g L C : Int) (z : List Int) (hz : z.length ≤ 1048576) (hC : -9223372036854775808 ≤ C ∧ C ≤ 9223372036854775807) : ∃ (r : List Int) (cd : Int), r.length ≤ 1048576 ∧ D1 13 p k g L C z (NewIK r cd) ∧ D1 12 p k g L C z (NewIK r cd) ∧
    ((cd != 0) = true ∨ (cd = 0 ∧ ∃ (s : List Int) (n : Nat), s.length ≤ 64 ∧ r.length = n + 1 ∧ D1 14 p k g L C z (NewIK s 0) ∧ C1 15 p k g s (NewIK r 0) ∧ C1 16 p k g s (GivesII (n : Int) 0))) := by
  have h0 : (nv []).length ≤ 1048576 := by simp [nv]
  rcases xErr_cases p k g L C [] [z] with ⟨cd, h, hne⟩ | ⟨_, R, γ, l, c, E, rfl, rfl, hc, hE0, hE, hw⟩
  · exact ⟨[], cd, by simp, el_noS hne (cor_badS p k g L C z [] cd hz (by simp) hC h hne), el_noI hne (cbr_badI p k g L C z [] cd hz (by simp) hC h hne), .inl hne⟩
  · obtain rfl : E = [] := by
      cases E with
      | nil => rfl
      | cons a E => cases hE0
    obtain ⟨ws, rfl, hl⟩ := hw z (List.mem_singleton.2 rfl)
    by_cases ho : ∃ cz, Okw γ l c [] ws cz
    · obtain ⟨cz, ho⟩ := ho
      have h255 := hc.l255
      have hd := difs_idx (l := l) (b := cz) hl
      have hdl := hd.len
      have hll : (locP (locs γ l (difs ws cz))).length = (difs ws cz).length + 1 := by rw [loc_len (locs_ne hc.far _), locs_len]
      have he : errs l [] ws cz = difs ws cz := by
        rw [errs, difs, hl]
        exact List.filter_congr fun i _ => by simp
      have hb := ho.2.2
      obtain ⟨f1, f2⟩ := reg_final (num := numE hc.fld) hc.far (num_zero hc.fld) (num_succ hc.fld) hE hl ho (t := cf (synW γ c ws)) (fun j hj => by
        show _ = cf (keyP γ l c ws []) (j + 0)
        rw [keyP, cf_omeg]
        show _ = if j + 0 < c then _ else _
        rw [if_pos (by simpa using hj), ps_comm]
        exact (congrFun (ps_one _) j).symm)
      rw [he] at f1 f2 hb
      have hsl := syn_len γ c ws
      have hq : sqErr p k g (iv (synW γ c ws)) = 0 := sqErr_ok hc.fld hc.ok (by rw [hsl]; exact hc.c64)
      have hr := rc_valI hc.fld (synW γ c ws) (by rw [hsl]; exact hc.c64) hq
      have hs := sl_valI hc.fld (synW γ c ws) (by rw [hsl]; exact hc.c64) hq
      rw [hsl] at hr hs
      have f1' : (bm (cf (synW γ c ws)) c).C = locP (locs γ l (difs ws cz)) := f1
      have f2' : (bm (cf (synW γ c ws)) c).L = (difs ws cz).length := f2
      have hb' : ¬ c < 2 * (bm (cf (synW γ c ws)) c).L := by
        rw [f2']
        have : 2 * (difs ws cz).length + 0 ≤ c := hb
        omega
      rw [(recL_yes hb').1, recK_yes hb', f1'] at hr
      rw [f2'] at hs
      refine ⟨_, 0, ?_, el_yesS hc (difs ws cz) hd (cor_yesS hc ws hl [] hE hz h0 cz ho), el_yesI hc (difs ws cz) hd (cbr_yesI hc ws hl [] hE hz h0 cz ho), .inr ⟨rfl, iv (synW γ c ws), (difs ws cz).length, by rw [iv_len, hsl]; exact hc.c64, by rw [iv_len, hll], syn_valI hc ws hz hl, hr, hs⟩⟩
      rw [iv_len, hll]; omega
    · have ho' : ∀ cz, ¬ Okw γ l c [] ws cz := fun cz h => ho ⟨cz, h⟩
      exact ⟨[], 7, by simp, el_noS rfl (cor_noS hc ws hl [] hE hz h0 ho'), el_noI rfl (cbr_noI hc ws hl [] hE hz h0 ho'), .inl rfl⟩

set_option maxRecDepth 100000 in
set_option maxHeartbeats 8000000 in
theorem fnErrorRecurrenceWalk (a0 : Option Addr) (n0 c0 : Nat) (z0 : List Int) (w : World) (h0 : Came .u8 w a0 n0 c0 z0) :
    Calls Tryz.prog 4 #[.slice a0 n0 c0] w fun e w' => e = .returned (.bool true) ∧ Below w.heap.size w w' := by
  obtain ⟨hI, hnc, hcm, hwf⟩ := h0
  have HI := hide hI
  have HBY := hide (show ∀ b ∈ z0, 0 ≤ b ∧ b ≤ 255 from fun b hb => bd_u8 (hwf b hb))
  clear hI hwf
  unfold maxLen at hcm
  by_cases hbig : 4096 < n0
  · go_enter Tryz.func4, Tryz.ntmps4
    go_wp2_with fail
    refine (big_yes a0 n0 c0 w hbig (by omega)).mono ?_
    rintro e w ⟨rfl, rfl⟩
    go_wp2_with fail
    go_ret
    exact ⟨rfl, Below.refl _ _⟩
  have hn0 : n0 ≤ 4096 := by omega
  go_enter Tryz.func4, Tryz.ntmps4
  go_wp2_with fail
  refine (big_no a0 n0 c0 w hn0).mono ?_
  rintro e w ⟨rfl, rfl⟩
  go_wp2_with fail
  refine (drawElo a0 n0 c0 z0 w HI hn0 HBY).mono ?_
  rintro e w1 ⟨p, k, γ, L, C, z1, A1, c1, rfl, hL0, hL1, hC0, hC1, hl1, hn1, hI1, hb⟩
  have HB1 := hide hb
  have HX1 := hide (CBox.start w1 p k γ L C)
  have hCb : -9223372036854775808 ≤ C ∧ C ≤ 9223372036854775807 := by omega
  have I1_1 := hide ((hI1.below HX1.out.2).more HX1.out.2.size)
  clear hI1 hb HI
  obtain ⟨b0, b1, b2, b3, b4⟩ := HX1.out.cells
  obtain ⟨r, cd, hr, hS, hM, hC⟩ := er_key p k γ L C z1 (by omega) hCb
  have HS := hide hS
  have HM := hide hM
  have HC := hide hC
  clear hS hM hC
  have hcc : (cd != cd) = false := by simp
  go_wp2_with fail
  refine (HM.out A1 _ c1 _ _ I1_1.out hn1 (Nat.le_refl _)).mono ?_
  rintro e w2 ⟨Ag, cg, rfl, hcg, hog, hb⟩
  have HX2 := hide (HX1.out.next hb)
  have I1_2 := hide ((I1_1.out.below hb).more hb.size)
  clear I1_1
  have Ig_2 := hide hog.ints
  clear hog hb b0 b1 b2 b3 b4
  obtain ⟨b0, b1, b2, b3, b4⟩ := HX2.out.cells
  go_wp2_with fail
  refine (HS.out A1 _ c1 _ _ I1_2.out hn1 (Nat.le_refl _)).mono ?_
  rintro e w3 ⟨Av, cv, rfl, hcv, hov, hb⟩
  have HX3 := hide (HX2.out.next hb)
  have I1_3 := hide ((I1_2.out.below hb).more hb.size)
  have Ig_3 := hide ((Ig_2.out.below hb).more hb.size)
  clear I1_2 Ig_2
  have Iv_3 := hide hov.ints
  clear hov hb hcv b0 b1 b2 b3 b4
  obtain ⟨b0, b1, b2, b3, b4⟩ := HX3.out.cells
  go_wp2_with fail
  refine (likeSame Ag _ cg _ Av _ cv _ r _ Ig_3.out Iv_3.out (by omega)).mono ?_
  rintro e w4 ⟨rfl, hb⟩
  have HX4 := hide (HX3.out.next hb)
  have I1_4 := hide ((I1_3.out.below hb).more hb.size)
  have Ig_4 := hide ((Ig_3.out.below hb).more hb.size)
  clear I1_3 Ig_3 Iv_3
  clear hb b0 b1 b2 b3 b4
  obtain ⟨b0, b1, b2, b3, b4⟩ := HX4.out.cells
  rcases HC.out with hcd | ⟨hcd, s, m, hs, hrm, hY, hR, hN⟩
  · go_wp2_with fail
    go_ret
    exact ⟨rfl, HB1.out.trans (HX4.out.2.mono HB1.out.size)⟩
  · subst hcd
    have HY := hide hY
    have HR := hide hR
    have HN := hide hN
    have HRM := hide hrm
    clear hY hR hN hrm HC HS HM hcc
    go_wp2_with fail
    refine (HY.out A1 _ c1 _ _ I1_4.out hn1 (Nat.le_refl _)).mono ?_
    rintro e w5 ⟨As, cs, rfl, hcs, hos, hb⟩
    have HX5 := hide (HX4.out.next hb)
    have Ig_5 := hide ((Ig_4.out.below hb).more hb.size)
    have Is_5 := hide hos.ints
    clear I1_4 Ig_4 hos hb b0 b1 b2 b3 b4
    obtain ⟨b0, b1, b2, b3, b4⟩ := HX5.out.cells
    go_wp2_with fail
    refine (HR.out As _ cs _ _ Is_5.out (Nat.le_refl _)).mono ?_
    rintro e w6 ⟨Ar, cr, rfl, hcr, hor, hb⟩
    have HX6 := hide (HX5.out.next hb)
    have Ig_6 := hide ((Ig_5.out.below hb).more hb.size)
    have Is_6 := hide ((Is_5.out.below hb).more hb.size)
    have Ir_6 := hide hor.ints
    clear Ig_5 Is_5 hor hcr hb b0 b1 b2 b3 b4
    obtain ⟨b0, b1, b2, b3, b4⟩ := HX6.out.cells
    go_wp2_with fail
    refine (HN.out As _ cs _ _ Is_6.out (Nat.le_refl _)).mono ?_
    rintro e w7 ⟨rfl, hb⟩
    have HX7 := hide (HX6.out.next hb)
    have Ig_7 := hide ((Ig_6.out.below hb).more hb.size)
    have Ir_7 := hide ((Ir_6.out.below hb).more hb.size)
    clear Ig_6 Is_6 Ir_6 hb b0 b1 b2 b3 b4
    obtain ⟨b0, b1, b2, b3, b4⟩ := HX7.out.cells
    go_wp2_with fail
    refine (likeSame Ar _ cr _ Ag _ cg _ r _ Ir_7.out Ig_7.out (by omega)).mono ?_
    rintro e w8 ⟨rfl, hb⟩
    have HX8 := hide (HX7.out.next hb)
    have hq3 : ((m : Int) == (r.length : Int) - 1) = true := by
      have := HRM.out
      simp only [beq_iff_eq]; omega
    clear Ig_7 Ir_7 hb b0 b1 b2 b3 b4
    go_wp2_with fail
    go_ret
    exact ⟨rfl, HB1.out.trans (HX8.out.2.mono HB1.out.size)⟩
end Go.Proofs.YtdniocdmncldjaaGreat
