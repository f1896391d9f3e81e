/-
  Calls of a mode's methods through the interface: the values of bytes, and whether all bytes of a text have one.
  Condition: as each statement says.
-/
import Derived.Test.YtlphodhecaagbaaDoorSg1
import Derived.Deep.RegionHeld3
namespace Go.Proofs.YtlphodhecaagbaaDoor
open Go.RowKit
set_option linter.unusedSimpArgs false
set_option linter.unusedVariables false

set_option maxRecDepth 100000 in
set_option maxHeartbeats 1000000 in
theorem implValueB (b : Int) (w : World) :
    Calls Tryd.prog 46 #[.agg #[], .int .i64 b] w (Gives (.int .i64 (cval 4 b)) w) := by
  by_cases hb : b < 0
  · have HV := hide (cval_out (.inl hb) 4)
    go_enter Tryd.func46, Tryd.ntmps46
    go_wp2_with fail
    go_ret
    exact ⟨ret_int HV.out, (Below.refl _ _).alloc (Nat.le_refl _) _⟩
  · by_cases hb2 : 256 ≤ b
    · have HV := hide (cval_out (b := b) (.inr (by omega)) 4)
      go_enter Tryd.func46, Tryd.ntmps46
      go_wp2_with fail
      obtain ⟨w0, hw0⟩ : ∃ w0, w0 = w.alloc (.cells #[] 57) := ⟨_, rfl⟩
      rw [← hw0]
      have HB0 := hide (show Below w.heap.size w w0 by rw [hw0]; exact (Below.refl _ _).alloc (Nat.le_refl _) _)
      clear hw0
      refine (implCountB w0).mono ?_
      rintro e w1 ⟨rfl, hb1⟩
      have HB1 := hide (HB0.out.trans (hb1.mono HB0.out.size))
      clear hb1
      go_wp2_with fail
      go_ret
      exact ⟨ret_int HV.out, HB1.out⟩
    · have HV := hide (cval_byte (b := b) (by omega) (by omega))
      go_enter Tryd.func46, Tryd.ntmps46
      go_wp2_with fail
      obtain ⟨w0, hw0⟩ : ∃ w0, w0 = w.alloc (.cells #[] 57) := ⟨_, rfl⟩
      rw [← hw0]
      have HB0 := hide (show Below w.heap.size w w0 by rw [hw0]; exact (Below.refl _ _).alloc (Nat.le_refl _) _)
      clear hw0
      refine (implCountB w0).mono ?_
      rintro e w1 ⟨rfl, hb1⟩
      have HB1 := hide (HB0.out.trans (hb1.mono HB0.out.size))
      clear hb1
      go_wp2_with fail
      go_ret
      exact ⟨ret_int HV.out, HB1.out⟩

theorem mdV_a (s : ByteArray) (z : Int) (w : World) : (method 40 55 (.agg #[.string s, .int .i64 z]) "loop.example/g00879/impl.value").run Tryd.prog w = .ok (42, .agg #[.string s, .int .i64 z]) w := by kernel_rfl
theorem mdV_b (w : World) : (method 40 57 (.agg #[]) "loop.example/g00879/impl.value").run Tryd.prog w = .ok (46, .agg #[]) w := by kernel_rfl

set_option maxRecDepth 100000 in
set_option maxHeartbeats 1000000 in
theorem implCval (m b : Int) (w : World) :
    Calls Tryd.prog 7 #[.int .i64 m, .int .i64 b] w (Gives (.int .i64 (cval m b)) w) := by
  by_cases hm : m < 1 ∨ 4 < m
  · have HV := hide (cval_mode hm b)
    go_enter Tryd.func7, Tryd.ntmps7
    go_wp2_with fail
    refine (implModeOf_no m hm _).mono ?_
    rintro e _ ⟨rfl, rfl⟩
    clear hm
    go_wp2_with fail
    go_ret
    exact ⟨ret_int HV.out, Below.refl _ _⟩
  · by_cases h4 : m = 4
    · subst h4
      have hmd := mdV_b
      go_enter Tryd.func7, Tryd.ntmps7
      go_wp2_with fail
      refine (implModeOf 4 (by omega) _).mono ?_
      rintro e _ ⟨rfl, rfl⟩
      rw [MV_b]
      clear hm
      go_wp2_with fail
      refine (implValueB b _).mono ?_
      rintro e w1 ⟨rfl, hb1⟩
      go_wp2_with fail
      go_ret
      exact ⟨rfl, hb1⟩
    · have hm3 : m = 1 ∨ m = 2 ∨ m = 3 := by omega
      have hmd := mdV_a
      have HV := hide (cval_pos (b := b) hm3)
      have HL := hide (stS_chars hm3)
      have HM := hide (MV_a hm3)
      have hsz := stS_size hm3
      have hg : gbase m ≤ 256 := by rcases hm3 with rfl | rfl | rfl <;> decide
      rw [← hsz] at hg
      have hlt := ch_lt m
      rw [← HL.out] at hlt
      have HLT := hide hlt
      go_enter Tryd.func7, Tryd.ntmps7
      go_wp2_with fail
      refine (implModeOf m (by omega) _).mono ?_
      rintro e _ ⟨rfl, rfl⟩
      rw [HM.out]
      clear hm hlt h4 hm3 hsz
      obtain ⟨s, hs⟩ : ∃ s, stS m = s := ⟨_, rfl⟩
      rw [hs] at HL HLT hg ⊢
      clear hs HM
      go_wp2_with fail
      refine (implValueA s _ b HLT.out hg _).mono ?_
      rintro e w1 ⟨rfl, hb1⟩
      go_wp2_with fail
      go_ret
      exact ⟨ret_int (by rw [HV.out, ← HL.out]), hb1⟩
end Go.Proofs.YtlphodhecaagbaaDoor
