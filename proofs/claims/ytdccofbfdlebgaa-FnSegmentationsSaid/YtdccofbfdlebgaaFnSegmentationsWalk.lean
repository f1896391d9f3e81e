/-
  The walk of the law FnSegmentations: it returns true, and nothing that was there before is changed.
  Condition: none.
-/
import Derived.Test.YtdccofbfdlebgaaSwMath
import Derived.Test.YtdccofbfdlebgaaSwDraw2
import Derived.Test.YtdccofbfdlebgaaDice
import Derived.Test.YtdccofbfdlebgaaLike
import Derived.Test.YtdccofbfdlebgaaShell
namespace Go.Proofs.Ytdccofbfdlebgaa
open Go Go.RowKit
set_option linter.unusedVariables false
set_option linter.unusedSimpArgs false

theorem swb_u8 {n : Int} (h : (Lit.int .u8 n).wf = true) : 0 ≤ n ∧ n ≤ 255 := by
  simp [Lit.wf, IntKind.min, IntKind.max, IntKind.signed, IntKind.bits] at h
  omega

set_option maxRecDepth 100000 in
set_option maxHeartbeats 8000000 in
theorem fnSegmentationsWalk (a0 : Option Addr) (n0 c0 : Nat) (z0 : List Int) (w : World) (h0 : Came .u8 w a0 n0 c0 z0) :
    Calls Try.prog 14 #[.slice a0 n0 c0] w fun e w' => e = .returned (.bool true) ∧ Below w.heap.size w w' := by
  obtain ⟨hI, hnc, hcm, hwf⟩ := h0
  have HI := hide hI
  have HBY := hide (show ∀ b ∈ z0, 0 ≤ b ∧ b ≤ 255 from fun b hb => swb_u8 (hwf b hb))
  clear hI hwf
  unfold maxLen at hcm
  by_cases hbig : 4096 < n0
  · go_enter Try.func14, Try.ntmps14
    go_wp2_with fail
    refine (big_yes a0 n0 c0 w hbig (by omega)).mono ?_
    rintro e wz ⟨rfl, rfl⟩
    go_wp2_with fail
    go_ret
    exact ⟨rfl, Below.refl _ _⟩
  have hn0 : n0 ≤ 4096 := by omega
  go_enter Try.func14, Try.ntmps14
  go_wp2_with fail
  refine (big_no a0 n0 c0 w hn0).mono ?_
  rintro e wz ⟨rfl, rfl⟩
  go_wp2_with fail
  refine (drawIsg a0 n0 c0 z0 w HI.out hn0 HBY.out).mono ?_
  rintro e w1 ⟨s, A, n, c, M, T, rfl, hs, hn, hT, hsg, hb1⟩
  have HB1 := hide hb1
  have HSG1 := hide hsg
  have HT := hide (show ∀ j, j < n → (T j).size ≤ 1099511627776 from fun j hj => Nat.le_trans (hT j hj) (by omega))
  have HBEST := hide (isg_best (M := M) (T := T) (n := n) (s := s))
  have HIG := hide (fun w hI => implIsg A n c w1.heap.size M T s w hI)
  have HSG := hide (fun w hI => specIsg A n c w1.heap.size M T s w hI)
  have HIL := hide (fun w hI => implSl A n c w1.heap.size M T w hI)
  have HSL := hide (fun w hI => specSl A n c w1.heap.size M T w hI)
  have HBL := hide (implBl s (by omega))
  obtain ⟨ok, hok⟩ : ∃ ok, isgB M T n s = ok := ⟨_, rfl⟩
  obtain ⟨L, hL⟩ : ∃ L, slOf M T n = L := ⟨_, rfl⟩
  obtain ⟨cd, hcd⟩ : ∃ cd, slCode M T n = cd := ⟨_, rfl⟩
  obtain ⟨bl, hbl⟩ : ∃ bl, blOf s = bl := ⟨_, rfl⟩
  obtain ⟨lb, hlb⟩ : ∃ lb, lbCode s = lb := ⟨_, rfl⟩
  rw [hok, hL, hcd, hbl, hlb] at HBEST
  rw [hok] at HIG HSG
  rw [hL, hcd] at HIL HSL
  rw [hbl, hlb] at HBL
  have hn' : n ≤ 1099511627776 := by omega
  have q1 : (ok != ok) = false := by simp
  have q2 : (cd != cd) = false := by simp
  have q3 : (L != L) = false := by simp
  clear hb1 hsg hok hL hcd hbl hlb hT
  go_wp2_with fail
  refine (HIG.out w1 HSG1.out (Nat.le_refl _) hn' HT.out).mono ?_
  rintro e w2 ⟨rfl, hb2⟩
  have HB2 := hide hb2
  have HSG2 := hide (HSG1.out.below hb2)
  clear hb2
  go_wp2_with fail
  refine (HSG.out w2 HSG2.out HB2.out.size hn' HT.out).mono ?_
  rintro e w3 ⟨rfl, hb3⟩
  have HB3 := hide (HB2.out.trans (hb3.mono HB2.out.size))
  have HSG3 := hide (HSG1.out.below HB3.out)
  clear hb3
  go_wp2_with fail
  refine (HIL.out w3 HSG3.out HB3.out.size hn' HT.out).mono ?_
  rintro e w4 ⟨rfl, hb4⟩
  have HB4 := hide (HB3.out.trans (hb4.mono HB3.out.size))
  have HSG4 := hide (HSG1.out.below HB4.out)
  clear hb4
  go_wp2_with fail
  refine (HSL.out w4 HSG4.out HB4.out.size hn' HT.out).mono ?_
  rintro e w5 ⟨rfl, hb5⟩
  have HB5 := hide (HB4.out.trans (hb5.mono HB4.out.size))
  clear hb5
  go_wp2_with fail
  refine (HBL.out w5).mono ?_
  rintro e w6 ⟨rfl, hb6⟩
  have HB6 := hide (HB1.out.trans ((HB5.out.trans (hb6.mono HB5.out.size)).mono HB1.out.size))
  clear hb6
  rcases ok with _ | _
  · go_wp2_with fail
    go_ret
    exact ⟨rfl, HB6.out⟩
  · obtain ⟨rfl, rfl, hle⟩ := HBEST.out rfl
    go_wp2_with fail
    go_ret
    exact ⟨rfl, HB6.out⟩
end Go.Proofs.Ytdccofbfdlebgaa
