/-
  The walk of the law FnExactStandardFormat: it returns true, and nothing that was there before is changed.
  Condition: none.
-/
import Derived.Test.YtkaconpbmppekaaWd5
namespace Go.Proofs.Ytkaconpbmppekaa
open Go.RowKit
set_option linter.unusedVariables false

set_option maxHeartbeats 1000000 in
theorem implStandard (w : World) : Calls Try.prog 35 #[] w (Gives (.agg #[.int .i64 5, .int .i64 15, .int .i64 1335]) w) := by
  go_enter Try.func35, Try.ntmps35
  go_wp2_with fail
  refine bodyPost_ret (v := .agg #[.int .i64 5, .int .i64 15, .int .i64 1335]) (by simp [results, Try.results35, go_sem]) rfl ⟨rfl, ?_⟩
  exact (Below.refl _ _).alloc (Nat.le_refl _) _
set_option maxHeartbeats 1000000 in
theorem specStandard (w : World) : Calls Try.prog 34 #[] w (Gives (.agg #[.int .i64 5, .int .i64 15, .int .i64 1335]) w) := by
  go_enter Try.func34, Try.ntmps34
  go_wp2_with fail
  refine bodyPost_ret (v := .agg #[.int .i64 5, .int .i64 15, .int .i64 1335]) (by simp [results, Try.results34, go_sem]) rfl ⟨rfl, ?_⟩
  exact (Below.refl _ _).alloc (Nat.le_refl _) _
set_option maxHeartbeats 1000000 in
theorem eqFormatCode (x y z : Int) (w : World) : Calls Try.prog 36 #[.agg #[.int .i64 x, .int .i64 y, .int .i64 z], .agg #[.int .i64 x, .int .i64 y, .int .i64 z]] w (Gives (.bool true) w) := by
  have h1 : (x != x) = false := by simp
  have h2 : (y != y) = false := by simp
  have h3 : (z != z) = false := by simp
  go_enter Try.func36, Try.ntmps36
  go_wp2_with fail
  go_ret
  exact ⟨rfl, (((Below.refl _ _).alloc (Nat.le_refl _) _).alloc (by rw [alloc_size]; omega) _)⟩
set_option maxHeartbeats 1000000 in
theorem fnExactStandardFormatWalk (w : World) :
    Calls Try.prog 7 #[] w fun e w' => e = .returned (.bool true) ∧ Below w.heap.size w w' := by
  have HS := hide (fun w' => specStandard w')
  have HM := hide (fun w' => implStandard w')
  have HE := hide (fun w' => eqFormatCode 5 15 1335 w')
  go_enter Try.func7, Try.ntmps7
  go_wp2_with fail
  refine (HS.out _).mono ?_
  rintro e w1 ⟨rfl, hb⟩
  have HB1 := hide hb
  have HX1 := hide (Box.start w1 25 5 15 1335)
  clear hb
  go_wp2_with fail
  refine (HM.out _).mono ?_
  rintro e w2 ⟨rfl, hb⟩
  have HX2 := hide (HX1.out.next hb)
  obtain ⟨c0, c1, c2⟩ := (HX2.out.alloc (.cells #[.int .i64 5, .int .i64 15, .int .i64 1335] 25)).cells
  have HB2 := hide (HB1.out.trans (HX2.out.2.mono HB1.out.size))
  clear hb
  go_wp2_with fail
  refine (HE.out _).mono ?_
  rintro e w3 ⟨rfl, hb⟩
  have HB3 := hide ((HB2.out.alloc HB2.out.size (.cells #[.int .i64 5, .int .i64 15, .int .i64 1335] 25)).trans (hb.mono (by rw [alloc_size]; have := HB2.out.size; omega)))
  clear hb
  go_wp2_with fail
  go_ret
  exact ⟨rfl, HB3⟩
end Go.Proofs.Ytkaconpbmppekaa
