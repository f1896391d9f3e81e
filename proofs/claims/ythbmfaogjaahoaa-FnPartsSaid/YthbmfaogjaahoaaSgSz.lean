/-
  How many characters a mode with an alphabet has; the sizes of groups, by the modes' methods.
  Condition: none.
-/
import Derived.Test.YthbmfaogjaahoaaSg1
namespace Go.Proofs.Ythbmfaogjaahoaa
open Go.RowKit
set_option linter.unusedSimpArgs false
set_option linter.unusedVariables false

theorem implCountA (s : ByteArray) (z : Int) (w : World) :
    Calls Try.prog 150 #[.agg #[.string s, .int .i64 z]] w (Gives (.int .i64 (s.size : Nat)) w) := by
  go_enter Try.func150, Try.ntmps150
  go_wp2_with fail
  go_ret
  exact ⟨rfl, (Below.refl _ _).alloc (Nat.le_refl _) _⟩
theorem implSizeA (s : ByteArray) (z : Int) (w : World) :
    Calls Try.prog 151 #[.agg #[.string s, .int .i64 z]] w (Gives (.int .i64 z) w) := by
  go_enter Try.func151, Try.ntmps151
  go_wp2_with fail
  go_ret
  exact ⟨rfl, (Below.refl _ _).alloc (Nat.le_refl _) _⟩
theorem implSizeB (w : World) :
    Calls Try.prog 155 #[.agg #[]] w (Gives (.int .i64 1) w) := by
  go_enter Try.func155, Try.ntmps155
  go_wp2_with fail
  go_ret
  exact ⟨rfl, (Below.refl _ _).alloc (Nat.le_refl _) _⟩

end Go.Proofs.Ythbmfaogjaahoaa
