/-
  What the walks of the exact laws of fields share: the field that a law is given is handed on as it is.
  Condition: none.
-/
import Derived.Test.YtncgeoliboidhaaProg
import Derived.Test.YtncgeoliboidhaaVA
namespace Go.Proofs.Ytncgeoliboidhaa
open Go.RowKit

set_option maxHeartbeats 400000 in
theorem toField (p k g : Int) (w : World) :
    Calls Try.prog 36 #[.agg #[.int .i64 p, .int .i64 k, .int .i64 g]] w (Gives (.agg #[.int .i64 p, .int .i64 k, .int .i64 g]) w) := by
  go_enter Try.func36, Try.ntmps36
  go_wp2_with fail
  refine bodyPost_ret (v := .agg #[.int .i64 p, .int .i64 k, .int .i64 g]) (by simp [results, Try.results36, go_sem]) rfl ⟨rfl, ?_⟩
  exact ((((Below.refl _ _).alloc (Nat.le_refl _) _).alloc (by rw [alloc_size]; omega) _).alloc (by rw [alloc_size, alloc_size]; omega) _)
end Go.Proofs.Ytncgeoliboidhaa
