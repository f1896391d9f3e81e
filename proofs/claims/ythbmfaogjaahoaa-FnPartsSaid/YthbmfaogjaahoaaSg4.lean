/-
  Whether all bytes of a text have a value in a mode.
  Condition: as each statement says.
-/
import Derived.Test.YthbmfaogjaahoaaSg3
namespace Go.Proofs.Ythbmfaogjaahoaa
open Go.RowKit
set_option linter.unusedSimpArgs false
set_option linter.unusedVariables false

theorem mdW_a (s : ByteArray) (z : Int) (n : Nat) (w : World) : (method (n + 1) 170 (.agg #[.string s, .int .i64 z]) "loop.example/g00879/impl.value").run Try.prog w = .ok (152, .agg #[.string s, .int .i64 z]) w := by kernel_rfl
theorem mdW_b (n : Nat) (w : World) : (method (n + 1) 172 (.agg #[]) "loop.example/g00879/impl.value").run Try.prog w = .ok (156, .agg #[]) w := by kernel_rfl
theorem naV_a (s : ByteArray) (z : Int) (n : Nat) (w : World) : (nilAhead (n + 1) 170 (.agg #[.string s, .int .i64 z]) "loop.example/g00879/impl.value").run Try.prog w = .ok (some false) w := by kernel_rfl
theorem naV_b (n : Nat) (w : World) : (nilAhead (n + 1) 172 (.agg #[]) "loop.example/g00879/impl.value").run Try.prog w = .ok (some false) w := by kernel_rfl

set_option maxRecDepth 100000 in
set_option maxHeartbeats 2000000 in
theorem implHasA (m : Int) (a : ByteArray) (z : Int) (hm : m = 1 ∨ m = 2 ∨ m = 3) (ha : bytesI a = chL m) (hasz : a.size ≤ 256) (s : ByteArray) (hs : s.size ≤ 1099511627776) (w : World) :
    Calls Try.prog 127 #[.iface 170 (.agg #[.string a, .int .i64 z]), .string s] w (Gives (.bool (allV m (bytesI s))) w) := by
  have HV := hide (fun b : Int => cval_pos (b := b) hm)
  have HLT := hide (show ∀ x ∈ bytesI a, 0 ≤ x ∧ x ≤ 127 by rw [ha]; exact ch_lt m)
  have HA := hide ha
  have hmd := mdW_a
  have hna := naV_a
  clear hm ha
  go_enter Try.func127, Try.ntmps127
  go_wp2_with fail
  go_loopw [5, 8] (fun _ i wr => ∃ k : Nat, k ≤ s.size ∧ i = .int .i64 k ∧ Below w.heap.size w wr ∧ Hid (((bytesI s).take k).all (fun b => decide (0 ≤ cval m b)) = true)) (fun _ i _ => s.size - (intOf i).toNat)
  case atStart => exact ⟨0, by omega, rfl, Below.refl _ _, by simp [Hid]⟩
  case round =>
    obtain ⟨k, hk, rfl, hbr, hp⟩ := hrel
    have HBr := hide hbr
    clear hbr
    by_cases hlt : k < s.size
    · obtain ⟨y, hy, hy2, hy0, hy1⟩ := byteAt s hlt
      have HY := hide hy2
      clear hy2
      have hwy : IntKind.i64.wrap y = y := IntWalk.i64_in _ ⟨by omega, by omega⟩
      go_wp2_with fail
      go_region_held3 (fun _ => True)
        (first
          | trivial
          | exact trivial)
        (first
          | (go_at_call 152; refine (implValueA a z y HLT.out hasz _).mono ?_; rw [HA.out, ← HV.out y]; rintro e w1 ⟨rfl, hb1⟩; have HB1 := hide (HBr.out.drew.trans (hb1.mono HBr.out.drew.size)); clear hb1))
      all_goals
        have hvc := cval_cases m y
        obtain ⟨v, hv⟩ : ∃ v, cval m y = v := ⟨_, rfl⟩
        rw [hv] at hvc ⊢
        have HVV := hide hv
        clear hv
        by_cases hneg : v = -1
        · have HE := hide (all_no (m := m) HY.out (by rw [HVV.out]; omega))
          have e1 : (v == -1) = true := by simpa using hneg
          clear hp hneg hvc
          go_wp2_with fail
          go_ret
          exact ⟨ret_bool HE.out, HB1.out⟩
        · have HE := hide (all_take_snoc hp.out HY.out (by simp only [HVV.out]; exact decide_eq_true (by omega)))
          have e1 : (v == -1) = false := by simpa using hneg
          clear hp hneg hvc
          go_wp2_with fail
          go_roundw
          case rel => exact ⟨k + 1, by omega, by go_num, HB1.out, HE⟩
          case measure => simp [intOf]; omega
    · have HE := hide (all_yes (m := m) (bytesI_len s) (by rw [show s.size = k by omega]; exact hp.out))
      clear hp
      go_wp2_with fail
      go_ret
      exact ⟨ret_bool HE.out, HBr.out⟩

set_option maxRecDepth 100000 in
set_option maxHeartbeats 2000000 in
theorem implHasB (s : ByteArray) (hs : s.size ≤ 1099511627776) (w : World) :
    Calls Try.prog 127 #[.iface 172 (.agg #[]), .string s] w (Gives (.bool (allV 4 (bytesI s))) w) := by
  have hmd := mdW_b
  have hna := naV_b
  go_enter Try.func127, Try.ntmps127
  go_wp2_with fail
  go_loopw [5, 8] (fun _ i wr => ∃ k : Nat, k ≤ s.size ∧ i = .int .i64 k ∧ Below w.heap.size w wr ∧ Hid (((bytesI s).take k).all (fun b => decide (0 ≤ cval 4 b)) = true)) (fun _ i _ => s.size - (intOf i).toNat)
  case atStart => exact ⟨0, by omega, rfl, Below.refl _ _, by simp [Hid]⟩
  case round =>
    obtain ⟨k, hk, rfl, hbr, hp⟩ := hrel
    have HBr := hide hbr
    clear hbr
    by_cases hlt : k < s.size
    · obtain ⟨y, hy, hy2, hy0, hy1⟩ := byteAt s hlt
      have HY := hide hy2
      clear hy2
      have hwy : IntKind.i64.wrap y = y := IntWalk.i64_in _ ⟨by omega, by omega⟩
      go_wp2_with fail
      go_region_held3 (fun _ => True)
        (first
          | trivial
          | exact trivial)
        (first
          | (go_at_call 156; refine (implValueB y _).mono ?_; skip; rintro e w1 ⟨rfl, hb1⟩; have HB1 := hide (HBr.out.drew.trans (hb1.mono HBr.out.drew.size)); clear hb1))
      all_goals
        have hvc := cval_cases 4 y
        obtain ⟨v, hv⟩ : ∃ v, cval 4 y = v := ⟨_, rfl⟩
        rw [hv] at hvc ⊢
        have HVV := hide hv
        clear hv
        by_cases hneg : v = -1
        · have HE := hide (all_no (m := 4) HY.out (by rw [HVV.out]; omega))
          have e1 : (v == -1) = true := by simpa using hneg
          clear hp hneg hvc
          go_wp2_with fail
          go_ret
          exact ⟨ret_bool HE.out, HB1.out⟩
        · have HE := hide (all_take_snoc hp.out HY.out (by simp only [HVV.out]; exact decide_eq_true (by omega)))
          have e1 : (v == -1) = false := by simpa using hneg
          clear hp hneg hvc
          go_wp2_with fail
          go_roundw
          case rel => exact ⟨k + 1, by omega, by go_num, HB1.out, HE⟩
          case measure => simp [intOf]; omega
    · have HE := hide (all_yes (m := 4) (bytesI_len s) (by rw [show s.size = k by omega]; exact hp.out))
      clear hp
      go_wp2_with fail
      go_ret
      exact ⟨ret_bool HE.out, HBr.out⟩

theorem implHas (m : Int) (hm : 1 ≤ m ∧ m ≤ 4) (s : ByteArray) (hs : s.size ≤ 1099511627776) (w : World) :
    Calls Try.prog 127 #[MV m, .string s] w (Gives (.bool (allV m (bytesI s))) w) := by
  by_cases h4 : m = 4
  · subst h4; rw [MV_b]; exact implHasB s hs w
  · have hm3 : m = 1 ∨ m = 2 ∨ m = 3 := by omega
    rw [MV_a hm3]
    refine implHasA m _ _ hm3 (stS_chars hm3) ?_ s hs w
    rw [stS_size hm3]; rcases hm3 with rfl | rfl | rfl <;> decide
end Go.Proofs.Ythbmfaogjaahoaa
