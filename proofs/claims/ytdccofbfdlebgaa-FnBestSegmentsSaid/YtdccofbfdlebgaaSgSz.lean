/-
  How many characters a mode with an alphabet has; the sizes of groups, by the modes' methods.
  Condition: none.
-/
import Derived.Test.YtdccofbfdlebgaaSg1
namespace Go.Proofs.Ytdccofbfdlebgaa
open Go.RowKit
set_option linter.unusedSimpArgs false
set_option linter.unusedVariables false

theorem implCountA (s : ByteArray) (z : Int) (w : World) :
    Calls Try.prog 132 #[.agg #[.string s, .int .i64 z]] w (Gives (.int .i64 (s.size : Nat)) w) := by
  go_enter Try.func132, Try.ntmps132
  go_wp2_with fail
  go_ret
  exact ⟨rfl, (Below.refl _ _).alloc (Nat.le_refl _) _⟩
theorem implSizeA (s : ByteArray) (z : Int) (w : World) :
    Calls Try.prog 133 #[.agg #[.string s, .int .i64 z]] w (Gives (.int .i64 z) w) := by
  go_enter Try.func133, Try.ntmps133
  go_wp2_with fail
  go_ret
  exact ⟨rfl, (Below.refl _ _).alloc (Nat.le_refl _) _⟩
theorem implSizeB (w : World) :
    Calls Try.prog 137 #[.agg #[]] w (Gives (.int .i64 1) w) := by
  go_enter Try.func137, Try.ntmps137
  go_wp2_with fail
  go_ret
  exact ⟨rfl, (Below.refl _ _).alloc (Nat.le_refl _) _⟩

end Go.Proofs.Ytdccofbfdlebgaa
