/-
  The law FnExactBestLength, walked: both sides give the same for every message.
  Condition: none beyond the row's own.
-/
import Derived.Test.YtdccofbfdlebgaaDp9
namespace Go.Proofs.Ytdccofbfdlebgaa
open Go.RowKit
set_option linter.unusedVariables false

set_option maxRecDepth 100000 in
theorem fnExactBestLengthWalk (s : ByteArray) (w : World) (h0 : s.size ≤ maxLen) :
    Calls Try.prog 10 #[.string s] w fun e w' => e = .returned (.bool true) ∧ Below w.heap.size w w' := by
  have hne : (blOf s != blOf s) = false := by simp
  have hne2 : (lbCode s != lbCode s) = false := by simp
  unfold maxLen at h0
  by_cases hbig : 1048576 < s.size
  · go_enter Try.func10, Try.ntmps10
    go_wp2_with fail
    go_ret
    exact ⟨rfl, Below.refl _ _⟩
  go_enter Try.func10, Try.ntmps10
  go_wp2_with fail
  refine (specBl s (by omega) _).mono ?_
  rintro e w1 ⟨rfl, hb1⟩
  have HB1 := hide hb1
  clear hb1
  go_wp2_with fail
  refine (implBl s (by omega) _).mono ?_
  rintro e w2 ⟨rfl, hb2⟩
  have HB2 := hide (HB1.out.trans (hb2.mono HB1.out.size))
  clear hb2
  go_wp2_with fail
  go_ret
  exact ⟨rfl, HB2.out⟩
end Go.Proofs.Ytdccofbfdlebgaa
