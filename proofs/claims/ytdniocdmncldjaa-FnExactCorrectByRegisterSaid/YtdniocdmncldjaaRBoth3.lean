/-
  What CorrectByRegister and ErrorLocator return, of the model and of the program.
  Condition: lists shorter than 2^20; the number of check elements is an int64.
-/
import Derived.Test.YtdniocdmncldjaaRBoth2
namespace Go.Proofs.Ytdniocdmncldjaa
open Go.RowKit
set_option linter.unusedSimpArgs false
set_option linter.unusedVariables false

set_option maxRecDepth 100000 in
set_option maxHeartbeats 4000000 in
theorem cbr_spec {p k g L C : Int} {z z' r s : List Int} {cd : Int} (h : D2 47 p k g L C z z' (NewIIK r s cd)) : D2 26 p k g L C z z' (NewIIK r s cd) := by
  intro A n cw A' n' cw' B w hI hJ hcap hcap' hB
  have HX0 := hide (CBox.start w p k g L C)
  have HI := hide hI
  have HJ := hide hJ
  have HH := hide h
  clear hI hJ h
  obtain ⟨c0, c1, c2, c3, c4⟩ := HX0.out.cells
  go_enter Try.func26, Try.ntmps26
  go_wp2_with fail
  refine (HH.out A n cw A' n' cw' B _ (HI.out.below (HX0.out.2.mono hB)) (HJ.out.below (HX0.out.2.mono hB)) hcap hcap' (Nat.le_trans hB (Nat.le_of_lt HX0.out.lt))).mono ?_
  rintro e w1 ⟨A1, m1, A2, m2, rfl, hm1, hm2, ho1, ho2, hne, hb⟩
  have HX1 := hide (HX0.out.next hb)
  have HF := hide (newIIK_of (w := w) (cd := cd) ho1 ho2 hne.1 HX1.out.2 (Nat.le_of_lt HX0.out.lt))
  clear ho1 ho2 hne hb hm1 hm2 c0 c1 c2 c3 c4
  go_wp2_with fail
  go_ret3
  exact HF.out

set_option maxRecDepth 100000 in
set_option maxHeartbeats 4000000 in
theorem el_noS {p k g L C : Int} {z : List Int} {cd : Int} (hne : (cd != 0) = true) (h : D2 47 p k g L C z [] (NewIIK [] [] cd)) : D1 29 p k g L C z (NewIK [] cd) := by
  intro A n cw B w hI hcap hB
  have HX0 := hide (CBox.start w p k g L C)
  have HI := hide hI
  have HH := hide h
  clear hI h
  obtain ⟨c0, c1, c2, c3, c4⟩ := HX0.out.cells
  go_enter Try.func29, Try.ntmps29
  go_wp2_with fail
  refine (HH.out A n cw none 0 0 B _ (HI.out.below (HX0.out.2.mono hB)) Ints.empty hcap (Nat.le_refl _) (Nat.le_trans hB (Nat.le_of_lt HX0.out.lt))).mono ?_
  rintro e w1 ⟨A1, m1, A2, m2, rfl, hm1, hm2, ho1, ho2, _, hb⟩
  have HX1 := hide (HX0.out.next hb)
  clear ho1 ho2 hb hm1 hm2 c0 c1 c2 c3 c4
  go_wp2_with fail
  go_ret2
  exact newIK_nil HX1.out.2

set_option maxRecDepth 100000 in
set_option maxHeartbeats 4000000 in
theorem el_yesS {R : Fld} {γ : El R} {p k g : Int} {l c : Nat} (hc : CodeIs R γ p k g l c) {z r : List Int} (D : List Nat) (hD : Idx l D) (h : D2 47 p k g l c z [] (NewIIK r (nv D) 0)) : D1 29 p k g l c z (NewIK (iv (locP (locs γ l D))) 0) := by
  have hl255 := hc.l255
  have hDl := hD.len
  obtain ⟨nD, hnD⟩ : ∃ nD, D.length = nD := ⟨_, rfl⟩
  rw [hnD] at hDl
  have HND := hide hnD
  obtain ⟨Q, hQ⟩ : ∃ Q, locP (locs γ l D) = Q := ⟨_, rfl⟩
  have HQ := hide hQ
  rw [hQ]
  clear hnD hQ
  intro A n cw B w hI hcap hB
  have HX0 := hide (CBox.start w p k g l c)
  have HI := hide hI
  have HH := hide h
  clear hI h
  obtain ⟨c0, c1, c2, c3, c4⟩ := HX0.out.cells
  go_enter Try.func29, Try.ntmps29
  go_wp2_with fail
  refine (HH.out A n cw none 0 0 B _ (HI.out.below (HX0.out.2.mono hB)) Ints.empty hcap (Nat.le_refl _) (Nat.le_trans hB (Nat.le_of_lt HX0.out.lt))).mono ?_
  rintro e w1 ⟨A1, m1, A2, m2, rfl, hm1, hm2, ho1, ho2, _, hb⟩
  rw [nv_len, HND.out] at hm2 ho2 ⊢
  have HX1 := hide (HX0.out.next hb)
  have hx2 := ho2.ints
  rw [nv_len, HND.out] at hx2
  have HD1 := hide hx2
  clear ho1 ho2 hx2 hb hm1 hm2 c0 c1 c2 c3 c4
  obtain ⟨c0, c1, c2, c3, c4⟩ := HX1.out.cells
  go_wp2_with fail
  refine (specLocPoly hc D hD.2 A2 nD m2 _ _ HD1.out (Nat.le_refl _) (by omega)).mono ?_
  rw [HQ.out]
  rintro e w2 ⟨A3, m3, rfl, hm3, ho3, hb⟩
  have HX2 := hide (HX1.out.next hb)
  have HO3 := hide (ho3.low (base' := w.heap.size) (Nat.le_of_lt HX1.out.lt))
  clear ho3 hb hm3 c0 c1 c2 c3 c4
  go_wp2_with fail
  go_ret2
  exact newIK_of HO3.out HX2.out.2 (Nat.le_refl _)

set_option maxRecDepth 100000 in
set_option maxHeartbeats 4000000 in
theorem el_noI {p k g L C : Int} {z : List Int} {cd : Int} (hne : (cd != 0) = true) (h : D2 28 p k g L C z [] (NewIIK [] [] cd)) : D1 30 p k g L C z (NewIK [] cd) := by
  intro A n cw B w hI hcap hB
  have HX0 := hide (CBox.start w p k g L C)
  have HI := hide hI
  have HH := hide h
  clear hI h
  obtain ⟨c0, c1, c2, c3, c4⟩ := HX0.out.cells
  go_enter Try.func30, Try.ntmps30
  go_wp2_with fail
  refine (HH.out A n cw none 0 0 B _ (HI.out.below (HX0.out.2.mono hB)) Ints.empty hcap (Nat.le_refl _) (Nat.le_trans hB (Nat.le_of_lt HX0.out.lt))).mono ?_
  rintro e w1 ⟨A1, m1, A2, m2, rfl, hm1, hm2, ho1, ho2, _, hb⟩
  have HX1 := hide (HX0.out.next hb)
  clear ho1 ho2 hb hm1 hm2 c0 c1 c2 c3 c4
  go_wp2_with fail
  go_ret2
  exact newIK_nil HX1.out.2

set_option maxRecDepth 100000 in
set_option maxHeartbeats 4000000 in
theorem el_yesI {R : Fld} {γ : El R} {p k g : Int} {l c : Nat} (hc : CodeIs R γ p k g l c) {z r : List Int} (D : List Nat) (hD : Idx l D) (h : D2 28 p k g l c z [] (NewIIK r (nv D) 0)) : D1 30 p k g l c z (NewIK (iv (locP (locs γ l D))) 0) := by
  have hl255 := hc.l255
  have hDl := hD.len
  obtain ⟨nD, hnD⟩ : ∃ nD, D.length = nD := ⟨_, rfl⟩
  rw [hnD] at hDl
  have HND := hide hnD
  obtain ⟨Q, hQ⟩ : ∃ Q, locP (locs γ l D) = Q := ⟨_, rfl⟩
  have HQ := hide hQ
  rw [hQ]
  clear hnD hQ
  intro A n cw B w hI hcap hB
  have HX0 := hide (CBox.start w p k g l c)
  have HI := hide hI
  have HH := hide h
  clear hI h
  obtain ⟨c0, c1, c2, c3, c4⟩ := HX0.out.cells
  go_enter Try.func30, Try.ntmps30
  go_wp2_with fail
  refine (HH.out A n cw none 0 0 B _ (HI.out.below (HX0.out.2.mono hB)) Ints.empty hcap (Nat.le_refl _) (Nat.le_trans hB (Nat.le_of_lt HX0.out.lt))).mono ?_
  rintro e w1 ⟨A1, m1, A2, m2, rfl, hm1, hm2, ho1, ho2, _, hb⟩
  rw [nv_len, HND.out] at hm2 ho2 ⊢
  have HX1 := hide (HX0.out.next hb)
  have hx2 := ho2.ints
  rw [nv_len, HND.out] at hx2
  have HD1 := hide hx2
  clear ho1 ho2 hx2 hb hm1 hm2 c0 c1 c2 c3 c4
  obtain ⟨c0, c1, c2, c3, c4⟩ := HX1.out.cells
  go_wp2_with fail
  refine (implLocPoly hc D hD.2 A2 nD m2 _ _ HD1.out (Nat.le_refl _) (by omega)).mono ?_
  rw [HQ.out]
  rintro e w2 ⟨A3, m3, rfl, hm3, ho3, hb⟩
  have HX2 := hide (HX1.out.next hb)
  have HO3 := hide (ho3.low (base' := w.heap.size) (Nat.le_of_lt HX1.out.lt))
  clear ho3 hb hm3 c0 c1 c2 c3 c4
  go_wp2_with fail
  go_ret2
  exact newIK_of HO3.out HX2.out.2 (Nat.le_refl _)

theorem difs_idx {R : Fld} {l : Nat} {a b : List (El R)} (h : a.length = l) : Idx l (difs a b) := by rw [difs, h]; exact idx_filter _ _
section
variable (p k g L C : Int) (z z' : List Int)
theorem cbr_both (hz : z.length ≤ 1048576) (hz' : z'.length ≤ 1048576) (hC : -9223372036854775808 ≤ C ∧ C ≤ 9223372036854775807) : ∃ (r s : List Int) (cd : Int), r.length ≤ 1048576 ∧ s.length ≤ 1048576 ∧ D2 26 p k g L C z z' (NewIIK r s cd) ∧ D2 28 p k g L C z z' (NewIIK r s cd) := by
  rcases xErr_cases p k g L C z' [z] with ⟨cd, h, hne⟩ | ⟨_, R, γ, l, c, E, rfl, rfl, hc, rfl, hE, hw⟩
  · exact ⟨[], [], cd, by simp, by simp, cbr_spec (cor_badS p k g L C z z' cd hz hz' hC h hne), cbr_badI p k g L C z z' cd hz hz' hC h hne⟩
  · obtain ⟨ws, rfl, hl⟩ := hw z (List.mem_singleton.2 rfl)
    by_cases ho : ∃ cz, Okw γ l c E ws cz
    · obtain ⟨cz, ho⟩ := ho
      have h255 := hc.l255
      have hd := (difs_idx (l := l) (b := cz) hl).len
      exact ⟨_, _, 0, by rw [iv_len, ho.1]; omega, by rw [nv_len]; omega, cbr_spec (cor_yesS hc ws hl E hE hz hz' cz ho), cbr_yesI hc ws hl E hE hz hz' cz ho⟩
    · have ho' : ∀ cz, ¬ Okw γ l c E ws cz := fun cz h => ho ⟨cz, h⟩
      exact ⟨[], [], 7, by simp, by simp, cbr_spec (cor_noS hc ws hl E hE hz hz' ho'), cbr_noI hc ws hl E hE hz hz' ho'⟩
theorem el_both (hz : z.length ≤ 1048576) (hC : -9223372036854775808 ≤ C ∧ C ≤ 9223372036854775807) : ∃ (r : List Int) (cd : Int), r.length ≤ 1048576 ∧ D1 29 p k g L C z (NewIK r cd) ∧ D1 30 p k g L C z (NewIK r cd) := by
  have h0 : (nv []).length ≤ 1048576 := by simp [nv]
  rcases xErr_cases p k g L C [] [z] with ⟨cd, h, hne⟩ | ⟨_, R, γ, l, c, E, rfl, rfl, hc, hE0, hE, hw⟩
  · exact ⟨[], cd, by simp, el_noS hne (cor_badS p k g L C z [] cd hz (by simp) hC h hne), el_noI hne (cbr_badI p k g L C z [] cd hz (by simp) hC h hne)⟩
  · obtain rfl : E = [] := by
      cases E with
      | nil => rfl
      | cons a E => cases hE0
    obtain ⟨ws, rfl, hl⟩ := hw z (List.mem_singleton.2 rfl)
    by_cases ho : ∃ cz, Okw γ l c [] ws cz
    · obtain ⟨cz, ho⟩ := ho
      have h255 := hc.l255
      have hd := difs_idx (l := l) (b := cz) hl
      have hdl := hd.len
      refine ⟨_, 0, ?_, el_yesS hc (difs ws cz) hd (cor_yesS hc ws hl [] hE hz h0 cz ho), el_yesI hc (difs ws cz) hd (cbr_yesI hc ws hl [] hE hz h0 cz ho)⟩
      rw [iv_len, loc_len (locs_ne hc.far _), locs_len]; omega
    · have ho' : ∀ cz, ¬ Okw γ l c [] ws cz := fun cz h => ho ⟨cz, h⟩
      exact ⟨[], 7, by simp, el_noS rfl (cor_noS hc ws hl [] hE hz h0 ho'), el_noI rfl (cbr_noI hc ws hl [] hE hz h0 ho')⟩
end
end Go.Proofs.Ytdniocdmncldjaa
