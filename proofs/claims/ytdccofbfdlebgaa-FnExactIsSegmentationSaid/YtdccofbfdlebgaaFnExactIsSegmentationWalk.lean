/-
  The law FnExactIsSegmentation, walked.
  Condition: none beyond the row's own.
-/
import Derived.Test.YtdccofbfdlebgaaSq2
import Derived.Test.YtdccofbfdlebgaaSq4
import Derived.Test.YtdccofbfdlebgaaSqShell
namespace Go.Proofs.Ytdccofbfdlebgaa
open Go.RowKit
set_option linter.unusedVariables false

set_option maxRecDepth 100000 in
set_option maxHeartbeats 1000000 in
theorem fnExactIsSegmentationWalk (s : ByteArray) (A : Option Addr) (n c : Nat) (M : Nat → Int) (T : Nat → ByteArray) (w : World) (hs : s.size ≤ maxLen) (h0 : CameS w A n c M T) :
    Calls Try.prog 8 #[.string s, .slice A n c] w fun e w' => e = .returned (.bool true) ∧ Below w.heap.size w w' := by
  obtain ⟨hI, hnc, hcm, hT⟩ := h0
  unfold maxLen at hcm hT
  have HI := hide hI
  have HSZ := hide (szSegS A n c M T w hI (by omega) (fun j hj => by have := hT j hj; omega))
  clear hI hT
  unfold maxLen at hs
  by_cases hbig : 1048576 < s.size
  · go_enter Try.func8, Try.ntmps8
    go_wp2_with fail
    go_ret
    exact ⟨rfl, Below.refl _ _⟩
  go_enter Try.func8, Try.ntmps8
  go_wp2_with fail
  refine HSZ.out.mono ?_
  rintro e w1 ⟨r, rfl, hr, hb1⟩
  have HB1 := hide hb1
  clear hb1 HSZ
  rcases hr with hr | ⟨hr, hn, hT⟩
  · go_wp2_with fail
    go_ret
    exact ⟨rfl, HB1.out⟩
  · have hr' : ¬ r < 0 := by omega
    have HT := hide (fun j hj => show (T j).size ≤ 1099511627776 by have := hT j hj; omega)
    have hne : (isgB M T n s != isgB M T n s) = false := by simp
    clear hT
    obtain ⟨q, hq⟩ : ∃ q, isgB M T n s = q := ⟨_, rfl⟩
    have HQ := hide hq
    rw [hq] at hne
    clear hq
    go_wp2_with fail
    refine (toSegS A n c w.heap.size M T _ (HI.out.below HB1.out) HB1.out.size hn).mono ?_
    rintro e w2 ⟨A2, c2, rfl, hc2, hcc2, ho2, hb2⟩
    have HB2 := hide (HB1.out.trans (hb2.mono HB1.out.size))
    have HO2 := hide ho2
    clear hb2 ho2
    go_wp2_with fail
    refine (specIsg A2 n c2 _ M T s w2 HO2.out.segs (Nat.le_refl _) (by omega) HT.out).mono ?_
    rw [HQ.out]
    rintro e w3 ⟨rfl, hb3⟩
    have HB3 := hide (HB2.out.trans (hb3.mono HB2.out.size))
    clear hb3 HO2
    go_wp2_with fail
    refine (toSegS A n c w.heap.size M T _ (HI.out.below HB3.out) HB3.out.size hn).mono ?_
    rintro e w4 ⟨A4, c4, rfl, hc4, hcc4, ho4, hb4⟩
    have HB4 := hide (HB3.out.trans (hb4.mono HB3.out.size))
    have HO4 := hide ho4
    clear hb4 ho4
    go_wp2_with fail
    refine (implIsg A4 n c4 _ M T s w4 HO4.out.segs (Nat.le_refl _) (by omega) HT.out).mono ?_
    rw [HQ.out]
    rintro e w5 ⟨rfl, hb5⟩
    have HB5 := hide (HB4.out.trans (hb5.mono HB4.out.size))
    have HS5 := hide ((HO4.out.segs.below hb5).more hb5.size)
    clear hb5 HO4
    go_wp2_with fail
    refine (toSegS A n c w.heap.size M T _ (HI.out.below HB5.out) HB5.out.size hn).mono ?_
    rintro e w6 ⟨A6, c6, rfl, hc6, hcc6, ho6, hb6⟩
    have HB6 := hide (HB5.out.trans (hb6.mono HB5.out.size))
    have HS6 := hide ((HS5.out.below hb6).more hb6.size)
    have HO6 := hide ho6
    clear hb6 ho6
    go_wp2_with fail
    refine (eqSegS_same A4 A6 n c4 c6 _ _ M T w6 HS6.out HO6.out.segs (Nat.le_refl _) (Nat.le_refl _) hn).mono ?_
    rintro e w7 ⟨rfl, hb7⟩
    have HB7 := hide (HB6.out.trans (hb7.mono HB6.out.size))
    clear hb7
    go_wp2_with fail
    go_ret
    exact ⟨rfl, HB7.out⟩
end Go.Proofs.Ytdccofbfdlebgaa
