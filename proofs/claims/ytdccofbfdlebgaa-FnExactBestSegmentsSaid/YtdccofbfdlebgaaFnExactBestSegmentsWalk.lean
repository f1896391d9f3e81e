/-
  The law FnExactBestSegments, walked.
  Condition: none beyond the row's own.
-/
import Derived.Test.YtdccofbfdlebgaaDpC
import Derived.Test.YtdccofbfdlebgaaSq5
namespace Go.Proofs.Ytdccofbfdlebgaa
open Go.RowKit
set_option linter.unusedVariables false

set_option maxRecDepth 100000 in
set_option maxHeartbeats 2000000 in
theorem fnExactBestSegmentsWalk (s : ByteArray) (w : World) (h0 : s.size ≤ maxLen) :
    Calls Try.prog 11 #[.string s] w fun e w' => e = .returned (.bool true) ∧ Below w.heap.size w w' := by
  unfold maxLen at h0
  by_cases hbig : 1048576 < s.size
  · go_enter Try.func11, Try.ntmps11
    go_wp2_with fail
    go_ret
    exact ⟨rfl, Below.refl _ _⟩
  have hN := bsN_le s
  have HSP := hide (specBs s (by omega))
  have HIM := hide (implBs s (by omega))
  obtain ⟨n, hn⟩ : ∃ n, bsN s = n := ⟨_, rfl⟩
  obtain ⟨cd, hcd⟩ : ∃ cd, lbCode s = cd := ⟨_, rfl⟩
  obtain ⟨M, hM⟩ : ∃ M, sgM s = M := ⟨_, rfl⟩
  obtain ⟨T, hT⟩ : ∃ T, sgT s = T := ⟨_, rfl⟩
  rw [hn, hcd, hM, hT] at HSP HIM
  rw [hn] at hN
  have hne : (cd != cd) = false := by simp
  obtain ⟨z, hz⟩ : ∃ z, 1 + 2 * n = z := ⟨_, rfl⟩
  have HZ := hide (show ((1 + 2 * n : Nat) : Int) = (z : Int) by omega)
  have hz0 : ¬ (z : Int) < 0 := by omega
  have hzz : ((z : Int) != (z : Int)) = false := by simp
  clear hn hcd hM hT hz
  go_enter Try.func11, Try.ntmps11
  go_wp2_with fail
  refine (HSP.out _).mono ?_
  rintro e w1 ⟨A1, c1, rfl, hc1, hc1', ho1, hb1⟩
  have HB1 := hide hb1
  have HW1 := hide ho1
  clear hb1 ho1
  go_wp2_with fail
  refine (HIM.out _).mono ?_
  rintro e w2 ⟨A2, c2, rfl, hc2, hc2', ho2, hb2⟩
  have HB2 := hide (HB1.out.trans (hb2.mono HB1.out.size))
  have HW2 := hide (HW1.out.next hb2)
  have HG2 := hide ho2
  have HWG := hide (show (Value.slice A2 n c2).ownBlock = none ∨ ∀ g, (Value.slice A2 n c2).ownBlock = some g → w1.heap.size ≤ g from .inr (fun g hg => (World.ownsRow.lt ho2 g hg).1))
  have HWL := hide (show ∀ g, (Value.slice A1 n c1).ownBlock = some g → g < w1.heap.size from fun g hg => (World.ownsRow.lt HW1.out g hg).2)
  have hbase2 : w.heap.size ≤ w1.heap.size := HB1.out.size
  clear hb2 ho2
  go_wp2_with fail
  refine (eqSegS_same A2 A1 n c2 c1 _ _ M T w2 HG2.out.segs HW2.out.segs (Nat.le_refl _) (Nat.le_refl _) (by omega)).mono ?_
  rintro e w3 ⟨rfl, hb3⟩
  have HB3 := hide (HB2.out.trans (hb3.mono HB2.out.size))
  have HW3 := hide (HW2.out.next hb3)
  have HG3 := hide (HG2.out.next hb3)
  clear hb3 HW2 HG2
  go_wp2_with fail
  refine (markSegS A2 n c2 _ 1 _ w3 HG3.out (by omega) (by omega) (by omega)).mono ?_
  rintro e w4 ⟨he4, ho4, hg4⟩
  rw [HZ.out] at he4
  subst he4
  have HG4 := hide ho4
  have HW4 := hide (HW3.out.grown hg4 (by
    rcases h1 : (Value.slice A1 n c1).ownBlock with _ | g1
    · exact .inl rfl
    · refine .inr fun e => ?_
      have q1 := HWL.out g1 h1
      rcases HWG.out with q2 | q2
      · rw [q2] at e; cases e
      · have := q2 g1 e.symm; omega))
  have HB4 := hide (HB3.out.grown hg4 HB3.out.size (fun g hg => by have := (World.ownsRow.lt HG3.out g hg).1; omega))
  clear ho4 hg4 HW3 HG3
  go_wp2_with fail
  refine (heldSegS A2 n c2 _ 1 w4 HG4.out.segs (Nat.le_refl _) (by omega) (by omega) (by omega)).mono ?_
  rw [HZ.out]
  rintro e w5 ⟨rfl, hb5⟩
  have HB5 := hide (HB4.out.trans (hb5.mono HB4.out.size))
  have HG5 := hide (HG4.out.next hb5)
  have HW5 := hide (HW4.out.next hb5)
  clear hb5 HG4 HW4
  go_wp2_with fail
  refine (HIM.out _).mono ?_
  rintro e w6 ⟨A6, c6, rfl, hc6, hc6', ho6, hb6⟩
  have HB6 := hide (HB5.out.trans (hb6.mono HB5.out.size))
  have HG6 := hide (HG5.out.next hb6)
  have HW6 := hide (HW5.out.next hb6)
  have HH6 := hide ho6
  clear hb6 ho6 HG5 HW5
  go_wp2_with fail
  refine (eqSegS_same A6 A1 n c6 c1 _ _ M T w6 HH6.out.segs HW6.out.segs (Nat.le_refl _) (Nat.le_refl _) (by omega)).mono ?_
  rintro e w7 ⟨rfl, hb7⟩
  have HB7 := hide (HB6.out.trans (hb7.mono HB6.out.size))
  have HG7 := hide (HG6.out.next hb7)
  clear hb7 HG6 HW6 HH6
  go_wp2_with fail
  refine (heldSegS A2 n c2 _ 1 w7 HG7.out.segs (Nat.le_refl _) (by omega) (by omega) (by omega)).mono ?_
  rw [HZ.out]
  rintro e w8 ⟨rfl, hb8⟩
  have HB8 := hide (HB7.out.trans (hb8.mono HB7.out.size))
  clear hb8
  go_wp2_with fail
  go_ret
  exact ⟨rfl, HB8.out⟩
end Go.Proofs.Ytdccofbfdlebgaa
