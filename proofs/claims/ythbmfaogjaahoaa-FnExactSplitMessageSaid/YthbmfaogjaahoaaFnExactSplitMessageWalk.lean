/-
  The walk of the law FnExactSplitMessage: it returns true, and nothing that was there before is changed.
  Condition: none.
-/
import Derived.Test.YthbmfaogjaahoaaTB
import Derived.Test.YthbmfaogjaahoaaPtMk
import Derived.Test.YthbmfaogjaahoaaRA
import Derived.Test.YthbmfaogjaahoaaLawKit
import Derived.Test.YthbmfaogjaahoaaFLaw
import Derived.Test.YthbmfaogjaahoaaFShell
namespace Go.Proofs.Ythbmfaogjaahoaa
open Go.RowKit
set_option linter.unusedVariables false

set_option maxRecDepth 100000 in
set_option maxHeartbeats 4000000 in
theorem fnExactSplitMessageWalk (a0x a0y a0z : Int) (s : ByteArray) (cap : Int) (w : World) (h0x : (Lit.int .i64 a0x).wf = true) (h0y : (Lit.int .i64 a0y).wf = true) (h0z : (Lit.int .i64 a0z).wf = true) (h1 : s.size ≤ maxLen) (h2 : (Lit.int .i64 cap).wf = true) :
    Calls Try.prog 6 #[.agg #[.int .i64 a0x, .int .i64 a0y, .int .i64 a0z], .string s, .int .i64 cap] w fun e w' => e = .returned (.bool true) ∧ Below w.heap.size w w' := by
  clear h0x h0y h0z h2
  have HX0 := hide (Box.start w 32 a0x a0y a0z)
  unfold maxLen at h1
  by_cases hbig1 : 1048576 < s.size
  · go_enter Try.func6, Try.ntmps6
    go_wp2_with fail
    go_ret
    exact ⟨rfl, HX0.out.2⟩
  have hn1 : s.size ≤ 1048576 := by omega
  obtain ⟨n, X, k0, hn8, HS, HM⟩ := sm_both a0x a0y a0z s (by omega) cap
  have HSP := hide HS
  have HIM := hide HM
  clear HS HM
  obtain ⟨z, hz⟩ : ∃ z, 1 + 4 * n = z := ⟨_, rfl⟩
  have HZ := hide (show ((1 + 4 * n : Nat) : Int) = (z : Int) by omega)
  have hz0 : ¬ (z : Int) < 0 := by omega
  have hzz : ((z : Int) != (z : Int)) = false := by simp
  clear hz
  have hnek0 : (k0 != k0) = false := by simp
  go_enter Try.func6, Try.ntmps6
  go_wp2_with fail
  refine (toField a0x a0y a0z _).mono ?_
  rintro e w1 ⟨rfl, hb1⟩
  have HX1 := hide (HX0.out.next hb1)
  clear hb1
  obtain ⟨b0, b1, b2⟩ := HX1.out.cells
  go_wp2_with fail
  refine (HSP.out _).mono ?_
  rintro e w2 ⟨AW, cW, rfl, hcW, hcmW, hoW, hb2⟩
  have HX2 := hide (HX1.out.next hb2)
  have HOW2 := hide hoW
  clear hoW hb2 b0 b1 b2
  obtain ⟨b0, b1, b2⟩ := HX2.out.cells
  go_wp2_with fail
  refine (toField a0x a0y a0z _).mono ?_
  rintro e w3 ⟨rfl, hb3⟩
  have HX3 := hide (HX2.out.next hb3)
  have HOW3 := hide (HOW2.out.next hb3)
  clear hb3 HOW2 b0 b1 b2
  obtain ⟨b0, b1, b2⟩ := HX3.out.cells
  go_wp2_with fail
  refine (HIM.out _).mono ?_
  rintro e w4 ⟨AG, cG, rfl, hcG, hcmG, hoG, hb4⟩
  have HX4 := hide (HX3.out.next hb4)
  have NWG := hide (apart_lt8 (fun g hg => (World.ownsRow.lt HOW3.out g hg).2) (fun g hg => (World.ownsRow.lt hoG g hg).1)).1
  have NGW := hide (apart_lt8 (fun g hg => (World.ownsRow.lt HOW3.out g hg).2) (fun g hg => (World.ownsRow.lt hoG g hg).1)).2
  have HOW4 := hide (HOW3.out.next hb4)
  have HOG4 := hide hoG
  clear hoG hb4 HOW3 b0 b1 b2
  obtain ⟨b0, b1, b2⟩ := HX4.out.cells
  go_wp2_with fail
  refine (eqPts_same AG AW n cG cW _ _ X _ HOG4.out.pts HOW4.out.pts (Nat.le_refl _) (Nat.le_refl _) (by omega)).mono ?_
  rintro e w5 ⟨rfl, hb5⟩
  have HX5 := hide (HX4.out.next hb5)
  have HOW5 := hide (HOW4.out.next hb5)
  have HOG5 := hide (HOG4.out.next hb5)
  clear hb5 HOW4 HOG4 b0 b1 b2
  obtain ⟨b0, b1, b2⟩ := HX5.out.cells
  go_wp2_with fail
  refine (markPts AG n cG _ 1 _ _ HOG5.out (by omega) (by omega) (by omega)).mono ?_
  rintro e w6 ⟨he6, ho6, hg6⟩
  rw [HZ.out] at he6
  subst he6
  have HX6 := hide (HX5.out.grow' hg6 (fun g hg => Nat.lt_of_lt_of_le HX3.out.lt (World.ownsRow.lt HOG5.out g hg).1))
  have HOW6 := hide (HOW5.out.grown hg6 NWG.out)
  have HOG6 := hide ho6
  clear ho6 hg6 HOW5 HOG5 b0 b1 b2
  obtain ⟨b0, b1, b2⟩ := HX6.out.cells
  go_wp2_with fail
  refine (heldPts AG n cG _ 1 _ HOG6.out.pts (Nat.le_refl _) (by omega) (by omega) (by omega)).mono ?_
  rintro e w7 ⟨he7, hb7⟩
  rw [HZ.out] at he7
  subst he7
  have HX7 := hide (HX6.out.next hb7)
  have HOW7 := hide (HOW6.out.next hb7)
  have HOG7 := hide (HOG6.out.next hb7)
  clear hb7 HOW6 HOG6 b0 b1 b2
  obtain ⟨b0, b1, b2⟩ := HX7.out.cells
  go_wp2_with fail
  refine (toField a0x a0y a0z _).mono ?_
  rintro e w8 ⟨rfl, hb8⟩
  have HX8 := hide (HX7.out.next hb8)
  have HOW8 := hide (HOW7.out.next hb8)
  have HOG8 := hide (HOG7.out.next hb8)
  clear hb8 HOW7 HOG7 b0 b1 b2
  obtain ⟨b0, b1, b2⟩ := HX8.out.cells
  go_wp2_with fail
  refine (HIM.out _).mono ?_
  rintro e w9 ⟨AH, cH, rfl, hcH, hcmH, hoH, hb9⟩
  have HX9 := hide (HX8.out.next hb9)
  have HOW9 := hide (HOW8.out.next hb9)
  have HOG9 := hide (HOG8.out.next hb9)
  have HOH9 := hide hoH
  clear hoH hb9 HOW8 HOG8 b0 b1 b2
  obtain ⟨b0, b1, b2⟩ := HX9.out.cells
  go_wp2_with fail
  refine (eqPts_same AH AW n cH cW _ _ X _ HOH9.out.pts HOW9.out.pts (Nat.le_refl _) (Nat.le_refl _) (by omega)).mono ?_
  rintro e w10 ⟨rfl, hb10⟩
  have HX10 := hide (HX9.out.next hb10)
  have HOG10 := hide (HOG9.out.next hb10)
  clear hb10 HOW9 HOG9 HOH9 b0 b1 b2
  obtain ⟨b0, b1, b2⟩ := HX10.out.cells
  go_wp2_with fail
  refine (heldPts AG n cG _ 1 _ HOG10.out.pts (Nat.le_refl _) (by omega) (by omega) (by omega)).mono ?_
  rintro e w11 ⟨he11, hb11⟩
  rw [HZ.out] at he11
  subst he11
  have HX11 := hide (HX10.out.next hb11)
  clear hb11 HOG10 b0 b1 b2
  obtain ⟨b0, b1, b2⟩ := HX11.out.cells
  go_wp2_with fail
  go_ret
  exact ⟨rfl, HX11.out.2⟩
end Go.Proofs.Ythbmfaogjaahoaa
