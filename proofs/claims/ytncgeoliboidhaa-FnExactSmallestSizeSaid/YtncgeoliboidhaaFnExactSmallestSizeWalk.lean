/-
  The walk of the law FnExactSmallestSize: it returns true, and nothing that was there before is changed.
  Condition: none.
-/
import Derived.Test.YtncgeoliboidhaaFmSm2
import Derived.Test.YtncgeoliboidhaaFmLaw
import Derived.Test.YtncgeoliboidhaaVL
import Derived.Test.YtncgeoliboidhaaTail2
namespace Go.Proofs.Ytncgeoliboidhaa
open Go.RowKit
set_option linter.unusedVariables false
set_option linter.unusedSimpArgs false

set_option maxRecDepth 100000 in
set_option maxHeartbeats 8000000 in
theorem fnExactSmallestSizeWalk (s : ByteArray) (κ p k g : Int) (A : Option Addr) (n c : Nat) (C : Int) (A' : Option Addr) (n' c' : Nat) (zs ls : List Int) (a1 : Int) (a2 : ByteArray) (w : World) (hs : s.size ≤ maxLen) (hC : (Lit.int .i64 C).wf = true) (hI : Came .i64 w A n c zs) (hJ : Came .i64 w A' n' c' ls) (h1 : (Lit.int .i64 a1).wf = true) (h2 : a2.size ≤ maxLen) :
    Calls Try.prog 7 #[.agg #[.string s, .int .i64 κ, .int .i64 p, .int .i64 k, .int .i64 g, .slice A n c, .int .i64 C, .slice A' n' c'], .int .i64 a1, .string a2] w fun e w' => e = .returned (.bool true) ∧ Below w.heap.size w w' := by
  obtain ⟨hI, hnc, hcm, _⟩ := hI
  obtain ⟨hJ, hnc', hcm', _⟩ := hJ
  unfold maxLen at *
  have HX := hide (FBoxL.start w s κ p k g A n c C A' n' c')
  have HI := hide hI
  have HJ := hide hJ
  obtain rfl : zs.length = n := hI.len
  obtain rfl : ls.length = n' := hJ.len
  clear hI hJ hC
  obtain ⟨c0, c1, c2, c3, c4, c5, c6, c7⟩ := HX.out.cells
  by_cases hbig0 : 1048576 < a2.size
  · go_enter Try.func7, Try.ntmps7
    go_wp2_with fail
    go_ret
    exact ⟨rfl, HX.out.2⟩
  have hm : a2.size ≤ 1048576 := by omega
  clear hbig0
  by_cases hbig : 1048576 < s.size + zs.length + ls.length
  · have HSZ := hide (fun w' => szFm_no s κ p k g A zs.length c C A' ls.length c' w' hbig (by omega) (by omega) (by omega))
    clear hbig
    go_enter Try.func7, Try.ntmps7
    go_wp2_with fail
    refine (HSZ.out _).mono ?_
    rintro e w1 ⟨rfl, hb⟩
    have HX1 := hide (HX.out.next hb)
    clear hb c0 c1 c2 c3 c4 c5 c6 c7
    go_wp2_with fail
    go_ret
    exact ⟨rfl, HX1.out.2⟩
  have HSZ := hide (fun w' => szFm s κ p k g A zs.length c C A' ls.length c' w' (by omega))
  have hls : zs.length ≤ 1048576 ∧ ls.length ≤ 1048576 ∧ s.size ≤ 1048576 := by omega
  have hnn : ¬ (((1048576 - s.size - zs.length - ls.length : Nat) : Int) < 0) := by omega
  generalize 1048576 - s.size - zs.length - ls.length = lf at *
  obtain ⟨v, cd, HS, HM⟩ := bothFSmallestSize s κ p k g C zs ls a1 a2 hm (by omega) hls.1 hls.2.1
  have HS := hide HS
  have HM := hide HM
  have hq1 : (v != v) = false := by simp
  have hq2 : (cd != cd) = false := by simp
  clear h1
  have HNN := hide hls
  clear hls hbig
  go_enter Try.func7, Try.ntmps7
  go_wp2_with fail
  refine (HSZ.out _).mono ?_
  rintro e w1 ⟨rfl, hb⟩
  have HX1 := hide (HX.out.next hb)
  clear hb
  clear c0 c1 c2 c3 c4 c5 c6 c7
  obtain ⟨c0, c1, c2, c3, c4, c5, c6, c7⟩ := HX1.out.cells
  go_wp2_with fail
  refine (toFm s κ p k g A _ c C A' _ c' zs ls _ ((HI.out.below HX1.out.2).more HX1.out.2.size) ((HJ.out.below HX1.out.2).more HX1.out.2.size) (by have := HNN.out; omega) (by have := HNN.out; omega)).mono ?_
  rintro e w2 ⟨P, Pc, P', Pd, rfl, Pi, Pj, hb⟩
  have HX2 := hide (HX1.out.next hb)
  have HPi := hide Pi
  have HPj := hide Pj
  clear hb Pi Pj
  clear c0 c1 c2 c3 c4 c5 c6 c7
  obtain ⟨c0, c1, c2, c3, c4, c5, c6, c7⟩ := HX2.out.cells
  go_wp2_with fail
  refine (HS.out P _ Pc P' _ Pd _ HPi.out HPj.out).mono ?_
  rintro e w3 ⟨rfl, hb⟩
  have HX3 := hide (HX2.out.next hb)
  clear hb HPi HPj
  clear c0 c1 c2 c3 c4 c5 c6 c7
  obtain ⟨c0, c1, c2, c3, c4, c5, c6, c7⟩ := HX3.out.cells
  go_wp2_with fail
  refine (toFm s κ p k g A _ c C A' _ c' zs ls _ ((HI.out.below HX3.out.2).more HX3.out.2.size) ((HJ.out.below HX3.out.2).more HX3.out.2.size) (by have := HNN.out; omega) (by have := HNN.out; omega)).mono ?_
  rintro e w5 ⟨R0, R0c, R0', R0d, rfl, R0i, R0j, hb⟩
  have HX5 := hide (HX3.out.next hb)
  have HR0i := hide R0i
  have HR0j := hide R0j
  clear hb R0i R0j
  have HY := hide (FBox.start w5 s κ p k g R0 zs.length R0c C R0' ls.length R0d)
  obtain ⟨w6, hw6⟩ : ∃ w6, w5.alloc (.cells #[.string s, .int .i64 κ, .int .i64 p, .int .i64 k, .int .i64 g, .slice R0 zs.length R0c, .int .i64 C, .slice R0' ls.length R0d] 31) = w6 := ⟨_, rfl⟩
  rw [hw6] at HY
  have HX6 := hide (HX5.out.next HY.out.2)
  have HRI := hide ((HR0i.out.below HY.out.2).more HY.out.2.size)
  have HRJ := hide ((HR0j.out.below HY.out.2).more HY.out.2.size)
  clear HR0i HR0j
  clear c0 c1 c2 c3 c4 c5 c6 c7
  obtain ⟨c0, c1, c2, c3, c4, c5, c6, c7⟩ := HX6.out.cells
  obtain ⟨d0, d1, d2, d3, d4, d5, d6, d7⟩ := HY.out.cells
  go_wp2_with fail
  clear hw6
  refine (HM.out R0 _ R0c R0' _ R0d _ HRI.out HRJ.out).mono ?_
  rintro e w7 ⟨rfl, hb⟩
  have HX7 := hide (HX6.out.next hb)
  have HY7 := hide (HY.out.next hb)
  have HRI7 := hide ((HRI.out.below hb).more hb.size)
  have HRJ7 := hide ((HRJ.out.below hb).more hb.size)
  clear hb d0 d1 d2 d3 d4 d5 d6 d7
  clear c0 c1 c2 c3 c4 c5 c6 c7
  obtain ⟨c0, c1, c2, c3, c4, c5, c6, c7⟩ := HX7.out.cells
  obtain ⟨d0, d1, d2, d3, d4, d5, d6, d7⟩ := HY7.out.cells
  go_wp2_with fail
  have HXd := hide (HX7.out.next ((Below.refl w7.heap.size w7).drew))
  have HYd := hide (HY7.out.next ((Below.refl w7.heap.size w7).drew))
  have HRId := hide (show Ints .i64 w7.drew w7.heap.size R0 zs.length zs from HRI7.out)
  have HRJd := hide (show Ints .i64 w7.drew w7.heap.size R0' ls.length ls from HRJ7.out)
  refine tail_begin (fun w' => (w'.cell? ⟨w5.heap.size, 0, none⟩ = some (.string s) ∧ w'.cell? ⟨w5.heap.size, 1, none⟩ = some (.int .i64 κ) ∧ w'.cell? ⟨w5.heap.size, 2, none⟩ = some (.int .i64 p) ∧ w'.cell? ⟨w5.heap.size, 3, none⟩ = some (.int .i64 k) ∧ w'.cell? ⟨w5.heap.size, 4, none⟩ = some (.int .i64 g) ∧ w'.cell? ⟨w5.heap.size, 5, none⟩ = some (.slice R0 zs.length R0c) ∧ w'.cell? ⟨w5.heap.size, 6, none⟩ = some (.int .i64 C) ∧ w'.cell? ⟨w5.heap.size, 7, none⟩ = some (.slice R0' ls.length R0d)) ∧ (w'.cell? ⟨w.heap.size, 0, none⟩ = some (.string s) ∧ w'.cell? ⟨w.heap.size, 1, none⟩ = some (.int .i64 κ) ∧ w'.cell? ⟨w.heap.size, 2, none⟩ = some (.int .i64 p) ∧ w'.cell? ⟨w.heap.size, 3, none⟩ = some (.int .i64 k) ∧ w'.cell? ⟨w.heap.size, 4, none⟩ = some (.int .i64 g) ∧ w'.cell? ⟨w.heap.size, 5, none⟩ = some (.slice A zs.length c) ∧ w'.cell? ⟨w.heap.size, 6, none⟩ = some (.int .i64 C) ∧ w'.cell? ⟨w.heap.size, 7, none⟩ = some (.slice A' ls.length c'))) 5 (by kernel_rfl) ⟨HYd.out.cells, HXd.out.cells⟩ (fun hS' => ?_)
  obtain ⟨wd, hwd⟩ : ∃ q, w7.drew = q := ⟨_, rfl⟩
  have hsd : wd.heap.size = w7.heap.size := by rw [← hwd]; rfl
  rw [hwd] at hS' HXd HYd HRId HRJd ⊢
  rw [← hsd] at HRId HRJd
  clear hwd hsd c0 c1 c2 c3 c4 c5 c6 c7 d0 d1 d2 d3 d4 d5 d6 d7
  refine tail_take2 0 rfl (by kernel_rfl) (by kernel_rfl) (by kernel_rfl) (by decide) (fun _ _ _ h => h) (by rfl) (v := ?_) ?_ (by assumption) ?_
  rotate_left 1
  · intro w' hS'; obtain ⟨⟨d0, d1, d2, d3, d4, d5, d6, d7⟩, c0, c1, c2, c3, c4, c5, c6, c7⟩ := hS'; go_simp; try with_reducible rfl
  try simp only [Act.put, List.setIfInBounds_toArray, List.set_cons_zero, List.set_cons_succ]
  refine tail_take2 1 rfl (by kernel_rfl) (by kernel_rfl) (by kernel_rfl) (by decide) (fun _ _ _ h => h) (by rfl) (v := ?_) ?_ (by assumption) ?_
  rotate_left 1
  · intro w' hS'; obtain ⟨⟨d0, d1, d2, d3, d4, d5, d6, d7⟩, c0, c1, c2, c3, c4, c5, c6, c7⟩ := hS'; go_simp; try with_reducible rfl
  try simp only [Act.put, List.setIfInBounds_toArray, List.set_cons_zero, List.set_cons_succ]
  refine tail_call 2 rfl (by kernel_rfl) rfl (fun K hK => ?_)
  go_simp
  go_at_call 12; refine (toFm s κ p k g A _ c C A' _ c' zs ls _ ((HI.out.below HXd.out.2).more HXd.out.2.size) ((HJ.out.below HXd.out.2).more HXd.out.2.size) (by have := HNN.out; omega) (by have := HNN.out; omega)).mono ?_; rintro e we ⟨Q, Qc, Q', Qd, rfl, Qi, Qj, hb⟩; have HXe := hide (HXd.out.next hb); have HYe := hide (HYd.out.next hb); have HRIe := hide ((HRId.out.below hb).more hb.size); have HRJe := hide ((HRJd.out.below hb).more hb.size); have HQi := hide Qi; have HQj := hide Qj; clear hb Qi Qj
  refine hK.out _ _ (by (try dsimp only); exact ⟨HYe.out.cells, HXe.out.cells⟩) (fun hS' => ?_)
  clear hK K
  try simp only [Act.put, List.setIfInBounds_toArray, List.set_cons_zero, List.set_cons_succ]
  refine tail_call 3 rfl (by kernel_rfl) rfl (fun K hK => ?_)
  go_simp
  go_at_call 14; refine (eqFm s κ p k g C R0 _ R0c R0' _ R0d Q _ Qc Q' _ Qd zs ls _ HRIe.out HRJe.out HQi.out HQj.out (by have := HNN.out; omega) (by have := HNN.out; omega)).mono ?_; rintro e wf ⟨rfl, hb⟩; have HXf := hide (HXe.out.next hb); have HYf := hide (HYe.out.next hb); clear hb
  refine hK.out _ _ (by (try dsimp only); exact ⟨HYf.out.cells, HXf.out.cells⟩) (fun hS' => ?_)
  clear hK K
  try simp only [Act.put, List.setIfInBounds_toArray, List.set_cons_zero, List.set_cons_succ]
  refine tail_take2 4 rfl (by kernel_rfl) (by kernel_rfl) (by kernel_rfl) (by decide) (fun _ _ _ h => h) (by rfl) (v := ?_) ?_ (by assumption) ?_
  rotate_left 1
  · intro w' hS'; obtain ⟨⟨d0, d1, d2, d3, d4, d5, d6, d7⟩, c0, c1, c2, c3, c4, c5, c6, c7⟩ := hS'; go_simp; try with_reducible rfl
  try simp only [Act.put, List.setIfInBounds_toArray, List.set_cons_zero, List.set_cons_succ]
  refine tail_end (by kernel_rfl) ?_
  go_wp2_with fail
  go_ret
  exact ⟨rfl, HXf.out.2⟩
end Go.Proofs.Ytncgeoliboidhaa
