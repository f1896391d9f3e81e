/-
  What the walks of the exact laws of segments share: the segment that a law is given is handed on as it is.
  Condition: none.
-/
import Derived.Test.YtdccofbfdlebgaaSg5
import Derived.Test.YtdccofbfdlebgaaLawKit
namespace Go.Proofs.Ytdccofbfdlebgaa
open Go.RowKit
set_option linter.unusedSimpArgs false
set_option linter.unusedVariables false

set_option maxHeartbeats 400000 in
theorem toSegment (m : Int) (s : ByteArray) (w : World) :
    Calls Try.prog 70 #[.agg #[.int .i64 m, .string s]] w (Gives (.agg #[.int .i64 m, .string s]) w) := by
  go_enter Try.func70, Try.ntmps70
  go_wp2_with fail
  refine bodyPost_ret (v := .agg #[.int .i64 m, .string s]) (by simp [results, Try.results70, go_sem]) rfl ⟨rfl, ?_⟩
  exact ((((Below.refl _ _).alloc (Nat.le_refl _) _).alloc (by rw [alloc_size]; omega) _).alloc (by rw [alloc_size, alloc_size]; omega) _)
theorem szSegment (m : Int) (s : ByteArray) (hs : s.size ≤ 9223372036854775807) (w : World) :
    Calls Try.prog 69 #[.agg #[.int .i64 m, .string s], .int .i64 1048576] w (Gives (.int .i64 (if s.size ≤ 1048576 then 1048576 - (s.size : Int) else -1)) w) := by
  by_cases h : s.size ≤ 1048576
  · have hw : IntKind.i64.wrap (1048576 - (s.size : Int)) = 1048576 - (s.size : Int) := IntWalk.i64_in _ ⟨by omega, by omega⟩
    have hn : ¬ (1048576 - (s.size : Int)) < 0 := by omega
    go_enter Try.func69, Try.ntmps69
    go_wp2_with fail
    go_ret
    exact ⟨rfl, (Below.refl _ _).alloc (Nat.le_refl _) _⟩
  · have hw : IntKind.i64.wrap (1048576 - (s.size : Int)) = 1048576 - (s.size : Int) := IntWalk.i64_in _ ⟨by omega, by omega⟩
    have hn : (1048576 - (s.size : Int)) < 0 := by omega
    go_enter Try.func69, Try.ntmps69
    go_wp2_with fail
    go_ret
    exact ⟨rfl, (Below.refl _ _).alloc (Nat.le_refl _) _⟩
theorem szSeg_ok (m : Int) (s : ByteArray) (hs : s.size ≤ 1048576) (w : World) :
    Calls Try.prog 69 #[.agg #[.int .i64 m, .string s], .int .i64 1048576] w (Gives (.int .i64 (1048576 - (s.size : Int))) w) := by
  have h := szSegment m s (by omega) w
  rw [if_pos hs] at h; exact h
theorem szSeg_no (m : Int) (s : ByteArray) (hs : ¬ s.size ≤ 1048576) (hs2 : s.size ≤ 9223372036854775807) (w : World) :
    Calls Try.prog 69 #[.agg #[.int .i64 m, .string s], .int .i64 1048576] w (Gives (.int .i64 (-1)) w) := by
  have h := szSegment m s hs2 w
  rw [if_neg hs] at h; exact h
end Go.Proofs.Ytdccofbfdlebgaa
