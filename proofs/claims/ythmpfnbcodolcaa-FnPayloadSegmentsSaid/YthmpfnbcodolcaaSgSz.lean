/-
  How many characters a mode with an alphabet has; the sizes of groups, by the modes' methods.
  Condition: none.
-/
import Derived.Test.YthmpfnbcodolcaaSg1
namespace Go.Proofs.Ythmpfnbcodolcaa
open Go.RowKit
set_option linter.unusedSimpArgs false
set_option linter.unusedVariables false

theorem implCountA (s : ByteArray) (z : Int) (w : World) :
    Calls Try.prog 152 #[.agg #[.string s, .int .i64 z]] w (Gives (.int .i64 (s.size : Nat)) w) := by
  go_enter Try.func152, Try.ntmps152
  go_wp2_with fail
  go_ret
  exact ⟨rfl, (Below.refl _ _).alloc (Nat.le_refl _) _⟩
theorem implSizeA (s : ByteArray) (z : Int) (w : World) :
    Calls Try.prog 153 #[.agg #[.string s, .int .i64 z]] w (Gives (.int .i64 z) w) := by
  go_enter Try.func153, Try.ntmps153
  go_wp2_with fail
  go_ret
  exact ⟨rfl, (Below.refl _ _).alloc (Nat.le_refl _) _⟩
theorem implSizeB (w : World) :
    Calls Try.prog 157 #[.agg #[]] w (Gives (.int .i64 1) w) := by
  go_enter Try.func157, Try.ntmps157
  go_wp2_with fail
  go_ret
  exact ⟨rfl, (Below.refl _ _).alloc (Nat.le_refl _) _⟩

end Go.Proofs.Ythmpfnbcodolcaa
