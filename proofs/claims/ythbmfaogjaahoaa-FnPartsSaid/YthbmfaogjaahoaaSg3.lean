/-
  Calls of a mode's methods through the interface: the values of bytes, and whether all bytes of a text have one.
  Condition: as each statement says.
-/
import Derived.Test.YthbmfaogjaahoaaSg1
import Derived.Deep.RegionHeld3
namespace Go.Proofs.Ythbmfaogjaahoaa
open Go.RowKit
set_option linter.unusedSimpArgs false
set_option linter.unusedVariables false

set_option maxRecDepth 100000 in
set_option maxHeartbeats 1000000 in
theorem implValueB (b : Int) (w : World) :
    Calls Try.prog 156 #[.agg #[], .int .i64 b] w (Gives (.int .i64 (cval 4 b)) w) := by
  by_cases hb : b < 0
  · have HV := hide (cval_out (.inl hb) 4)
    go_enter Try.func156, Try.ntmps156
    go_wp2_with fail
    go_ret
    exact ⟨ret_int HV.out, (Below.refl _ _).alloc (Nat.le_refl _) _⟩
  · by_cases hb2 : 256 ≤ b
    · have HV := hide (cval_out (b := b) (.inr (by omega)) 4)
      go_enter Try.func156, Try.ntmps156
      go_wp2_with fail
      obtain ⟨w0, hw0⟩ : ∃ w0, w0 = w.alloc (.cells #[] 172) := ⟨_, rfl⟩
      rw [← hw0]
      have HB0 := hide (show Below w.heap.size w w0 by rw [hw0]; exact (Below.refl _ _).alloc (Nat.le_refl _) _)
      clear hw0
      refine (implCountB w0).mono ?_
      rintro e w1 ⟨rfl, hb1⟩
      have HB1 := hide (HB0.out.trans (hb1.mono HB0.out.size))
      clear hb1
      go_wp2_with fail
      go_ret
      exact ⟨ret_int HV.out, HB1.out⟩
    · have HV := hide (cval_byte (b := b) (by omega) (by omega))
      go_enter Try.func156, Try.ntmps156
      go_wp2_with fail
      obtain ⟨w0, hw0⟩ : ∃ w0, w0 = w.alloc (.cells #[] 172) := ⟨_, rfl⟩
      rw [← hw0]
      have HB0 := hide (show Below w.heap.size w w0 by rw [hw0]; exact (Below.refl _ _).alloc (Nat.le_refl _) _)
      clear hw0
      refine (implCountB w0).mono ?_
      rintro e w1 ⟨rfl, hb1⟩
      have HB1 := hide (HB0.out.trans (hb1.mono HB0.out.size))
      clear hb1
      go_wp2_with fail
      go_ret
      exact ⟨ret_int HV.out, HB1.out⟩

theorem mdV_a (s : ByteArray) (z : Int) (w : World) : (method 155 170 (.agg #[.string s, .int .i64 z]) "loop.example/g00879/impl.value").run Try.prog w = .ok (152, .agg #[.string s, .int .i64 z]) w := by kernel_rfl
theorem mdV_b (w : World) : (method 155 172 (.agg #[]) "loop.example/g00879/impl.value").run Try.prog w = .ok (156, .agg #[]) w := by kernel_rfl

end Go.Proofs.Ythbmfaogjaahoaa
