/-
  The walk of the law FnExactLayoutOf: it returns true, and nothing that was there before is changed.
  Condition: none.
-/
import Derived.Test.YtncgeoliboidhaaFmBoth1
import Derived.Test.YtncgeoliboidhaaFmLaw
import Derived.Test.YtncgeoliboidhaaVL
import Derived.Test.YtncgeoliboidhaaTail2
namespace Go.Proofs.Ytncgeoliboidhaa
open Go.RowKit
set_option linter.unusedVariables false
set_option linter.unusedSimpArgs false

set_option maxRecDepth 100000 in
set_option maxHeartbeats 2000000 in
theorem eqLayF (x y z d k c : Int) (w : World) :
    Calls Try.prog 19 #[.agg #[.int .i64 x, .int .i64 y, .int .i64 z, .int .i64 d, .int .i64 k, .int .i64 c], .agg #[.int .i64 x, .int .i64 y, .int .i64 z, .int .i64 d, .int .i64 k, .int .i64 c]] w (Gives (.bool true) w) := by
  have e1 : (d != d) = false := by simp
  have e2 : (k != k) = false := by simp
  have e3 : (c != c) = false := by simp
  have HX := hide (Bxf.start w 39 #[.int .i64 x, .int .i64 y, .int .i64 z, .int .i64 d, .int .i64 k, .int .i64 c])
  obtain ⟨w1, hw1⟩ : ∃ w1, w.alloc (.cells #[.int .i64 x, .int .i64 y, .int .i64 z, .int .i64 d, .int .i64 k, .int .i64 c] 39) = w1 := ⟨_, rfl⟩
  rw [hw1] at HX
  have HY := hide (Bxf.start w1 39 #[.int .i64 x, .int .i64 y, .int .i64 z, .int .i64 d, .int .i64 k, .int .i64 c])
  obtain ⟨w2, hw2⟩ : ∃ w2, w1.alloc (.cells #[.int .i64 x, .int .i64 y, .int .i64 z, .int .i64 d, .int .i64 k, .int .i64 c] 39) = w2 := ⟨_, rfl⟩
  rw [hw2] at HY
  have HX2 := hide (HX.out.next HY.out.2)
  obtain ⟨a0, a1, a2, a3, a4, a5, _, _, _, _, _, _⟩ := row6F HX2.out.1
  obtain ⟨b0, b1, b2, b3, b4, b5, _, _, _, _, _, _⟩ := row6F HY.out.1
  go_enter Try.func19, Try.ntmps19
  go_wp2_with fail
  refine (eqFldF x y z _).mono ?_
  rintro e w3 ⟨rfl, hb⟩
  have HX3 := hide (HX2.out.next hb)
  have HY3 := hide (HY.out.next hb)
  clear hb a0 a1 a2 a3 a4 a5 b0 b1 b2 b3 b4 b5
  obtain ⟨a0, a1, a2, a3, a4, a5, _, _, _, _, _, _⟩ := row6F HX3.out.1
  obtain ⟨b0, b1, b2, b3, b4, b5, _, _, _, _, _, _⟩ := row6F HY3.out.1
  go_wp2_with fail
  go_ret
  exact ⟨rfl, HX3.out.2⟩

set_option maxRecDepth 100000 in
set_option maxHeartbeats 8000000 in
theorem fnExactLayoutOfWalk (s : ByteArray) (κ p k g : Int) (A : Option Addr) (n c : Nat) (C : Int) (A' : Option Addr) (n' c' : Nat) (zs ls : List Int) (a1 : Int) (a2 : Int) (w : World) (hs : s.size ≤ maxLen) (hC : (Lit.int .i64 C).wf = true) (hI : Came .i64 w A n c zs) (hJ : Came .i64 w A' n' c' ls) (h1 : (Lit.int .i64 a1).wf = true) (h2 : (Lit.int .i64 a2).wf = true) :
    Calls Try.prog 5 #[.agg #[.string s, .int .i64 κ, .int .i64 p, .int .i64 k, .int .i64 g, .slice A n c, .int .i64 C, .slice A' n' c'], .int .i64 a1, .int .i64 a2] w fun e w' => e = .returned (.bool true) ∧ Below w.heap.size w w' := by
  obtain ⟨hI, hnc, hcm, _⟩ := hI
  obtain ⟨hJ, hnc', hcm', _⟩ := hJ
  unfold maxLen at *
  have HX := hide (FBoxL.start w s κ p k g A n c C A' n' c')
  have HI := hide hI
  have HJ := hide hJ
  obtain rfl : zs.length = n := hI.len
  obtain rfl : ls.length = n' := hJ.len
  clear hI hJ hC
  obtain ⟨c0, c1, c2, c3, c4, c5, c6, c7⟩ := HX.out.cells
  by_cases hbig : 1048576 < s.size + zs.length + ls.length
  · have HSZ := hide (fun w' => szFm_no s κ p k g A zs.length c C A' ls.length c' w' hbig (by omega) (by omega) (by omega))
    clear hbig
    go_enter Try.func5, Try.ntmps5
    go_wp2_with fail
    refine (HSZ.out _).mono ?_
    rintro e w1 ⟨rfl, hb⟩
    have HX1 := hide (HX.out.next hb)
    clear hb c0 c1 c2 c3 c4 c5 c6 c7
    go_wp2_with fail
    go_ret
    exact ⟨rfl, HX1.out.2⟩
  have HSZ := hide (fun w' => szFm s κ p k g A zs.length c C A' ls.length c' w' (by omega))
  have hls : zs.length ≤ 1048576 ∧ ls.length ≤ 1048576 ∧ s.size ≤ 1048576 := by omega
  have hnn : ¬ (((1048576 - s.size - zs.length - ls.length : Nat) : Int) < 0) := by omega
  generalize 1048576 - s.size - zs.length - ls.length = lf at *
  obtain ⟨v0, v1, v2, v3, v4, v5, cd, HS, HM⟩ := bothFLayoutOf s κ p k g C zs ls a1 a2 (by omega) hls.1 hls.2.1
  have HS := hide HS
  have HM := hide HM
  have hq2 : (cd != cd) = false := by simp
  clear h1
  clear h2
  have HNN := hide hls
  clear hls hbig
  go_enter Try.func5, Try.ntmps5
  go_wp2_with fail
  refine (HSZ.out _).mono ?_
  rintro e w1 ⟨rfl, hb⟩
  have HX1 := hide (HX.out.next hb)
  clear hb
  clear c0 c1 c2 c3 c4 c5 c6 c7
  obtain ⟨c0, c1, c2, c3, c4, c5, c6, c7⟩ := HX1.out.cells
  go_wp2_with fail
  refine (toFm s κ p k g A _ c C A' _ c' zs ls _ ((HI.out.below HX1.out.2).more HX1.out.2.size) ((HJ.out.below HX1.out.2).more HX1.out.2.size) (by have := HNN.out; omega) (by have := HNN.out; omega)).mono ?_
  rintro e w2 ⟨P, Pc, P', Pd, rfl, Pi, Pj, hb⟩
  have HX2 := hide (HX1.out.next hb)
  have HPi := hide Pi
  have HPj := hide Pj
  clear hb Pi Pj
  clear c0 c1 c2 c3 c4 c5 c6 c7
  obtain ⟨c0, c1, c2, c3, c4, c5, c6, c7⟩ := HX2.out.cells
  go_wp2_with fail
  refine (HS.out P _ Pc P' _ Pd _ HPi.out HPj.out).mono ?_
  rintro e w3 ⟨rfl, hb⟩
  have HX3 := hide (HX2.out.next hb)
  clear hb HPi HPj
  have HU := hide (Bxf.start w3 39 #[.int .i64 v0, .int .i64 v1, .int .i64 v2, .int .i64 v3, .int .i64 v4, .int .i64 v5])
  obtain ⟨wu, hwu⟩ : ∃ wu, w3.alloc (.cells #[.int .i64 v0, .int .i64 v1, .int .i64 v2, .int .i64 v3, .int .i64 v4, .int .i64 v5] 39) = wu := ⟨_, rfl⟩
  rw [hwu] at HU
  have HX4 := hide (HX3.out.next HU.out.2)
  clear c0 c1 c2 c3 c4 c5 c6 c7
  obtain ⟨c0, c1, c2, c3, c4, c5, c6, c7⟩ := HX4.out.cells
  go_wp2_with fail
  clear hwu
  refine (toFm s κ p k g A _ c C A' _ c' zs ls _ ((HI.out.below HX4.out.2).more HX4.out.2.size) ((HJ.out.below HX4.out.2).more HX4.out.2.size) (by have := HNN.out; omega) (by have := HNN.out; omega)).mono ?_
  rintro e w5 ⟨R0, R0c, R0', R0d, rfl, R0i, R0j, hb⟩
  have HX5 := hide (HX4.out.next hb)
  have HR0i := hide R0i
  have hbU := hide hb
  have HR0j := hide R0j
  clear hb R0i R0j
  have HY := hide (FBox.start w5 s κ p k g R0 zs.length R0c C R0' ls.length R0d)
  obtain ⟨w6, hw6⟩ : ∃ w6, w5.alloc (.cells #[.string s, .int .i64 κ, .int .i64 p, .int .i64 k, .int .i64 g, .slice R0 zs.length R0c, .int .i64 C, .slice R0' ls.length R0d] 31) = w6 := ⟨_, rfl⟩
  rw [hw6] at HY
  have HX6 := hide (HX5.out.next HY.out.2)
  have HU6 := hide (HU.out.next (hbU.out.trans (HY.out.2.mono hbU.out.size)))
  have HRI := hide ((HR0i.out.below HY.out.2).more HY.out.2.size)
  have HRJ := hide ((HR0j.out.below HY.out.2).more HY.out.2.size)
  clear HR0i HR0j
  clear c0 c1 c2 c3 c4 c5 c6 c7
  obtain ⟨c0, c1, c2, c3, c4, c5, c6, c7⟩ := HX6.out.cells
  obtain ⟨d0, d1, d2, d3, d4, d5, d6, d7⟩ := HY.out.cells
  go_wp2_with fail
  clear hw6
  refine (HM.out R0 _ R0c R0' _ R0d _ HRI.out HRJ.out).mono ?_
  rintro e w7 ⟨rfl, hb⟩
  have HX7 := hide (HX6.out.next hb)
  have HY7 := hide (HY.out.next hb)
  have HRI7 := hide ((HRI.out.below hb).more hb.size)
  have HRJ7 := hide ((HRJ.out.below hb).more hb.size)
  have HU7 := hide (HU6.out.next hb)
  clear hb d0 d1 d2 d3 d4 d5 d6 d7
  have HV := hide (Bxf.start w7 39 #[.int .i64 v0, .int .i64 v1, .int .i64 v2, .int .i64 v3, .int .i64 v4, .int .i64 v5])
  obtain ⟨w8, hw8⟩ : ∃ w8, w7.alloc (.cells #[.int .i64 v0, .int .i64 v1, .int .i64 v2, .int .i64 v3, .int .i64 v4, .int .i64 v5] 39) = w8 := ⟨_, rfl⟩
  rw [hw8] at HV
  have HX8 := hide (HX7.out.next HV.out.2)
  have HY8 := hide (HY7.out.next HV.out.2)
  have HU8 := hide (HU7.out.next HV.out.2)
  have HRI8 := hide ((HRI7.out.below HV.out.2).more HV.out.2.size)
  have HRJ8 := hide ((HRJ7.out.below HV.out.2).more HV.out.2.size)
  clear c0 c1 c2 c3 c4 c5 c6 c7
  obtain ⟨c0, c1, c2, c3, c4, c5, c6, c7⟩ := HX8.out.cells
  obtain ⟨y0, y1, y2, y3, y4, y5, _, _, _, _, _, _⟩ := row6F HU8.out.1
  obtain ⟨x0, x1, x2, x3, x4, x5, _, _, _, _, _, _⟩ := row6F HV.out.1
  go_wp2_with fail
  clear hw8
  refine (eqLayF v0 v1 v2 v3 v4 v5 _).mono ?_
  rintro e w9 ⟨rfl, hb⟩
  have HX9 := hide (HX8.out.next hb)
  have HY9 := hide (HY8.out.next hb)
  have HRI9 := hide ((HRI8.out.below hb).more hb.size)
  have HRJ9 := hide ((HRJ8.out.below hb).more hb.size)
  clear hb y0 y1 y2 y3 y4 y5 x0 x1 x2 x3 x4 x5
  clear c0 c1 c2 c3 c4 c5 c6 c7
  obtain ⟨c0, c1, c2, c3, c4, c5, c6, c7⟩ := HX9.out.cells
  obtain ⟨d0, d1, d2, d3, d4, d5, d6, d7⟩ := HY9.out.cells
  go_wp2_with fail
  have HXd := hide (HX9.out.next ((Below.refl w9.heap.size w9).drew))
  have HYd := hide (HY9.out.next ((Below.refl w9.heap.size w9).drew))
  have HRId := hide (show Ints .i64 w9.drew w9.heap.size R0 zs.length zs from HRI9.out)
  have HRJd := hide (show Ints .i64 w9.drew w9.heap.size R0' ls.length ls from HRJ9.out)
  refine tail_begin (fun w' => (w'.cell? ⟨w5.heap.size, 0, none⟩ = some (.string s) ∧ w'.cell? ⟨w5.heap.size, 1, none⟩ = some (.int .i64 κ) ∧ w'.cell? ⟨w5.heap.size, 2, none⟩ = some (.int .i64 p) ∧ w'.cell? ⟨w5.heap.size, 3, none⟩ = some (.int .i64 k) ∧ w'.cell? ⟨w5.heap.size, 4, none⟩ = some (.int .i64 g) ∧ w'.cell? ⟨w5.heap.size, 5, none⟩ = some (.slice R0 zs.length R0c) ∧ w'.cell? ⟨w5.heap.size, 6, none⟩ = some (.int .i64 C) ∧ w'.cell? ⟨w5.heap.size, 7, none⟩ = some (.slice R0' ls.length R0d)) ∧ (w'.cell? ⟨w.heap.size, 0, none⟩ = some (.string s) ∧ w'.cell? ⟨w.heap.size, 1, none⟩ = some (.int .i64 κ) ∧ w'.cell? ⟨w.heap.size, 2, none⟩ = some (.int .i64 p) ∧ w'.cell? ⟨w.heap.size, 3, none⟩ = some (.int .i64 k) ∧ w'.cell? ⟨w.heap.size, 4, none⟩ = some (.int .i64 g) ∧ w'.cell? ⟨w.heap.size, 5, none⟩ = some (.slice A zs.length c) ∧ w'.cell? ⟨w.heap.size, 6, none⟩ = some (.int .i64 C) ∧ w'.cell? ⟨w.heap.size, 7, none⟩ = some (.slice A' ls.length c'))) 5 (by kernel_rfl) ⟨HYd.out.cells, HXd.out.cells⟩ (fun hS' => ?_)
  obtain ⟨wd, hwd⟩ : ∃ q, w9.drew = q := ⟨_, rfl⟩
  have hsd : wd.heap.size = w9.heap.size := by rw [← hwd]; rfl
  rw [hwd] at hS' HXd HYd HRId HRJd ⊢
  rw [← hsd] at HRId HRJd
  clear hwd hsd c0 c1 c2 c3 c4 c5 c6 c7 d0 d1 d2 d3 d4 d5 d6 d7
  refine tail_take2 0 rfl (by kernel_rfl) (by kernel_rfl) (by kernel_rfl) (by decide) (fun _ _ _ h => h) (by rfl) (v := ?_) ?_ (by assumption) ?_
  rotate_left 1
  · intro w' hS'; obtain ⟨⟨d0, d1, d2, d3, d4, d5, d6, d7⟩, c0, c1, c2, c3, c4, c5, c6, c7⟩ := hS'; go_simp; try with_reducible rfl
  try simp only [Act.put, List.setIfInBounds_toArray, List.set_cons_zero, List.set_cons_succ]
  refine tail_take2 1 rfl (by kernel_rfl) (by kernel_rfl) (by kernel_rfl) (by decide) (fun _ _ _ h => h) (by rfl) (v := ?_) ?_ (by assumption) ?_
  rotate_left 1
  · intro w' hS'; obtain ⟨⟨d0, d1, d2, d3, d4, d5, d6, d7⟩, c0, c1, c2, c3, c4, c5, c6, c7⟩ := hS'; go_simp; try with_reducible rfl
  try simp only [Act.put, List.setIfInBounds_toArray, List.set_cons_zero, List.set_cons_succ]
  refine tail_call 2 rfl (by kernel_rfl) rfl (fun K hK => ?_)
  go_simp
  go_at_call 12; refine (toFm s κ p k g A _ c C A' _ c' zs ls _ ((HI.out.below HXd.out.2).more HXd.out.2.size) ((HJ.out.below HXd.out.2).more HXd.out.2.size) (by have := HNN.out; omega) (by have := HNN.out; omega)).mono ?_; rintro e we ⟨Q, Qc, Q', Qd, rfl, Qi, Qj, hb⟩; have HXe := hide (HXd.out.next hb); have HYe := hide (HYd.out.next hb); have HRIe := hide ((HRId.out.below hb).more hb.size); have HRJe := hide ((HRJd.out.below hb).more hb.size); have HQi := hide Qi; have HQj := hide Qj; clear hb Qi Qj
  refine hK.out _ _ (by (try dsimp only); exact ⟨HYe.out.cells, HXe.out.cells⟩) (fun hS' => ?_)
  clear hK K
  try simp only [Act.put, List.setIfInBounds_toArray, List.set_cons_zero, List.set_cons_succ]
  refine tail_call 3 rfl (by kernel_rfl) rfl (fun K hK => ?_)
  go_simp
  go_at_call 14; refine (eqFm s κ p k g C R0 _ R0c R0' _ R0d Q _ Qc Q' _ Qd zs ls _ HRIe.out HRJe.out HQi.out HQj.out (by have := HNN.out; omega) (by have := HNN.out; omega)).mono ?_; rintro e wf ⟨rfl, hb⟩; have HXf := hide (HXe.out.next hb); have HYf := hide (HYe.out.next hb); clear hb
  refine hK.out _ _ (by (try dsimp only); exact ⟨HYf.out.cells, HXf.out.cells⟩) (fun hS' => ?_)
  clear hK K
  try simp only [Act.put, List.setIfInBounds_toArray, List.set_cons_zero, List.set_cons_succ]
  refine tail_take2 4 rfl (by kernel_rfl) (by kernel_rfl) (by kernel_rfl) (by decide) (fun _ _ _ h => h) (by rfl) (v := ?_) ?_ (by assumption) ?_
  rotate_left 1
  · intro w' hS'; obtain ⟨⟨d0, d1, d2, d3, d4, d5, d6, d7⟩, c0, c1, c2, c3, c4, c5, c6, c7⟩ := hS'; go_simp; try with_reducible rfl
  try simp only [Act.put, List.setIfInBounds_toArray, List.set_cons_zero, List.set_cons_succ]
  refine tail_end (by kernel_rfl) ?_
  go_wp2_with fail
  go_ret
  exact ⟨rfl, HXf.out.2⟩
end Go.Proofs.Ytncgeoliboidhaa
