/-
  The law FnPayloadSegments, walked.
  Condition: none beyond the row's own.
-/
import Derived.Test.YthmpfnbcodolcaaQE
import Derived.Test.YthmpfnbcodolcaaQF
import Derived.Test.YthmpfnbcodolcaaLawKit
namespace Go.Proofs.Ythmpfnbcodolcaa
open Go Go.RowKit
set_option linter.unusedSimpArgs false
set_option linter.unusedVariables false

theorem pps_u8 {n : Int} (h : (Lit.int .u8 n).wf = true) : 0 ≤ n ∧ n ≤ 255 := by
  have hmin : IntKind.u8.min = 0 := rfl
  have hmax : IntKind.u8.max = 255 := rfl
  simp only [Lit.wf, Bool.and_eq_true, decide_eq_true_eq] at h
  rw [hmin, hmax] at h
  omega

set_option maxRecDepth 100000 in
set_option maxHeartbeats 4000000 in
theorem fnPayloadSegmentsWalk (a0 : Option Addr) (n0 c0 : Nat) (z0 : List Int) (w : World) (h0 : Came .u8 w a0 n0 c0 z0) :
    Calls Try.prog 5 #[.slice a0 n0 c0] w fun e w' => e = .returned (.bool true) ∧ Below w.heap.size w w' := by
  obtain ⟨hI, hnc, hcm, hwf⟩ := h0
  have HI := hide hI
  have HBY := hide (show ∀ b ∈ z0, 0 ≤ b ∧ b ≤ 255 from fun b hb => pps_u8 (hwf b hb))
  clear hI hwf
  unfold maxLen at hcm
  by_cases hbig : 4096 < n0
  · go_enter Try.func5, Try.ntmps5
    go_wp2_with fail
    refine (big_yes a0 n0 c0 w hbig (by omega)).mono ?_
    rintro e wz ⟨rfl, rfl⟩
    go_wp2_with fail
    go_ret
    exact ⟨rfl, Below.refl _ _⟩
  have hn0 : n0 ≤ 4096 := by omega
  go_enter Try.func5, Try.ntmps5
  go_wp2_with fail
  refine (big_no a0 n0 c0 w hn0).mono ?_
  rintro e wz ⟨rfl, rfl⟩
  go_wp2_with fail
  refine (drawDecPay a0 n0 c0 z0 w HI.out hn0 HBY.out).mono ?_
  rintro e w1 ⟨p, k, γ, zs, A1, n1, c1, rfl, hn1, hi1, hb1⟩
  have HX1 := hide (Box.start w1 38 p k γ)
  have HB1 := hide hb1
  have HI1 := hide hi1
  obtain ⟨n, M, T, cd, s, hn4, hz, hj, hS, hD, hP⟩ := pdp_both p k γ zs (by rw [HI1.out.len]; omega)
  have HZ := hide hz
  have HJ := hide hj
  have HS := hide hS
  have HD := hide hD
  have HP := hide hP
  clear hb1 hi1 hz hj hS hD hP
  obtain ⟨c0', c1', c2'⟩ := HX1.out.cells
  go_wp2_with fail
  refine (HD.out A1 n1 c1 w1.heap.size _ (HI1.out.below HX1.out.2) HX1.out.2.size).mono ?_
  rintro e w2 ⟨rfl, hb2⟩
  have HX2 := hide (HX1.out.next hb2)
  clear hb2 c0' c1' c2'
  obtain ⟨c0', c1', c2'⟩ := HX2.out.cells
  go_wp2_with fail
  refine (HS.out A1 n1 c1 w1.heap.size _ (HI1.out.below HX2.out.2) HX2.out.2.size).mono ?_
  rintro e w3 ⟨rfl, hb3⟩
  have HX3 := hide (HX2.out.next hb3)
  clear hb3 c0' c1' c2'
  obtain ⟨c0', c1', c2'⟩ := HX3.out.cells
  have hq1 : (cd != cd) = false := by simp
  go_wp2_with fail
  refine (HP.out A1 n1 c1 w1.heap.size _ (HI1.out.below HX3.out.2) HX3.out.2.size).mono ?_
  rintro e w4 ⟨A4, c4, rfl, hc4, hc4', ho4, hb4⟩
  have HX4 := hide (HX3.out.next hb4)
  have HO4 := hide ho4
  clear hb4 ho4 c0' c1' c2'
  have hq2 : (cd == cd) = true := by simp
  by_cases hc0 : cd = 0
  case neg =>
    have hc1 : (cd != 0) = true := by simpa using hc0
    obtain rfl := HZ.out hc0
    go_wp2_with fail
    go_ret
    exact ⟨rfl, HB1.out.trans (HX4.out.2.mono HB1.out.size)⟩
  subst hc0
  obtain ⟨j1, j2, j3⟩ := HJ.out rfl
  have HJS := hide (implJs A4 n c4 _ M T w4 HO4.out.segs (Nat.le_refl _) (by omega) (fun j hj => by have := j3 j hj; omega))
  rw [j1, j2] at HJS
  clear j1 j2 j3
  go_wp2_with fail
  refine HJS.out.mono ?_
  rintro e w5 ⟨rfl, hb5⟩
  have HX5 := hide (HX4.out.next hb5)
  clear hb5
  go_wp2_with fail
  go_ret
  exact ⟨rfl, HB1.out.trans (HX5.out.2.mono HB1.out.size)⟩
end Go.Proofs.Ythmpfnbcodolcaa
