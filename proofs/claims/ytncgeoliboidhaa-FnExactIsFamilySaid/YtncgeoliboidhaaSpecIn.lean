/-
  The contract of the model's test of a range.
  Condition: none.
-/
import Derived.Test.YtncgeoliboidhaaProg
import Derived.Test.YtncgeoliboidhaaWords
import Derived.Test.YtncgeoliboidhaaBitsMath
namespace Go.Proofs.Ytncgeoliboidhaa
open Go.RowKit

set_option maxHeartbeats 400000 in
theorem specIn (x lo hi : Int) (w : World) :
    Calls Try.prog 35 #[.int .i64 x, .int .i64 lo, .int .i64 hi] w fun e w' => e = .returned (.bool (inR x lo hi)) ∧ w = w' := by
  by_cases h1 : lo ≤ x
  · by_cases h2 : x ≤ hi
    · have HH := hide (inR_yes h1 h2)
      go_enter Try.func35, Try.ntmps35
      go_wp2
      go_ret
      exact ⟨ret_bool HH, rfl⟩
    · have HH := hide (inR_no (x := x) (lo := lo) (hi := hi) (by omega))
      have h2' : decide (x ≤ hi) = false := by simpa using h2
      go_enter Try.func35, Try.ntmps35
      go_wp2
      go_ret
      exact ⟨ret_bool HH, rfl⟩
  · have HH := hide (inR_no (x := x) (lo := lo) (hi := hi) (by omega))
    have h1' : decide (lo ≤ x) = false := by simpa using h1
    go_enter Try.func35, Try.ntmps35
    go_wp2
    go_ret
    exact ⟨ret_bool HH, rfl⟩

theorem specIn_yes (x lo hi : Int) (w : World) (h1 : lo ≤ x) (h2 : x ≤ hi) :
    Calls Try.prog 35 #[.int .i64 x, .int .i64 lo, .int .i64 hi] w fun e w' => e = .returned (.bool true) ∧ w = w' :=
  (specIn x lo hi w).mono fun _ _ ⟨he, hw⟩ => ⟨by rw [he, inR_yes h1 h2], hw⟩
theorem specIn_no (x lo hi : Int) (w : World) (h : x < lo ∨ hi < x) :
    Calls Try.prog 35 #[.int .i64 x, .int .i64 lo, .int .i64 hi] w fun e w' => e = .returned (.bool false) ∧ w = w' :=
  (specIn x lo hi w).mono fun _ _ ⟨he, hw⟩ => ⟨by rw [he, inR_no h], hw⟩

theorem specIn_is (x lo hi : Int) (b : Bool) (w : World) (h : inR x lo hi = b) :
    Calls Try.prog 35 #[.int .i64 x, .int .i64 lo, .int .i64 hi] w fun e w' => e = .returned (.bool b) ∧ w = w' := by
  rw [← h]; exact specIn x lo hi w
end Go.Proofs.Ytncgeoliboidhaa
