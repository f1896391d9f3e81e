/-
  The contracts of the model's powers, inverses and logarithms.
  Condition: none beyond the kinds that each names.
-/
import Derived.Test.YthafkohopkgckaaFSpec3
import Derived.Test.YthafkohopkgckaaFImpl7
namespace Go.Proofs.Ythafkohopkgckaa
open Go.RowKit
set_option linter.unusedSimpArgs false
set_option linter.unusedVariables false

def SqRel (w : World) (p k g : Int) (q : Nat) (mul : Nat → Nat → Nat) (a n : Nat) (s i o : Value) (wr : World) : Prop :=
  ∃ x m y : Nat, x < q ∧ m ≤ n ∧ y < q ∧ s = .int .i64 x ∧ i = .int .i64 m ∧ o = .int .i64 y ∧ Hid (mul y (pw mul x m) = pw mul a n) ∧ Box w wr 25 p k g

set_option maxHeartbeats 1000000 in
theorem specPow0 {p k g : Int} {q : Nat} {mul : Nat → Nat → Nat} (h : Kd p k g q mul) (a n : Nat) (ha : a < q) (hn : n ≤ 1000000) (w : World) :
    Calls Try.prog 111 #[.agg #[.int .i64 p, .int .i64 k, .int .i64 g], .int .i64 a, .int .i64 n] w (Gives (.int .i64 (pw mul a n : Nat)) w) := by
  obtain ⟨hq3, hq⟩ := h.big
  have M := h.mon
  go_enter Try.func111, Try.ntmps111
  go_wp2_with fail
  go_loopw [1, 2, 7] (fun s i o wr => SqRel w p k g q mul a n s i o wr) (fun _ i _ _ => (intOf i).toNat)
  case atStart => exact ⟨a, n, 1, ha, Nat.le_refl _, by omega, rfl, rfl, rfl, M.one _ (pw_lt M ha n), Box.start w _ _ _ _⟩
  case round =>
    obtain ⟨x, m, y, hx, hm, hy, rfl, rfl, rfl, HR, HX⟩ := hrel
    have HX := hide HX
    obtain ⟨c0, c1, c2⟩ := HX.out.cells
    by_cases hm0 : m = 0
    · subst hm0
      have HF := hide (show ((pw mul a n : Nat) : Int) = (y : Int) by rw [← HR.out]; show ((mul y 1 : Nat) : Int) = _; rw [mul_one M hy])
      go_wp2_with fail
      go_ret
      exact ⟨ret_int HF, HX.out.2⟩
    · have hm1 : (0 : Int) < (m : Int) := by omega
      by_cases hp : m % 2 = 1
      · have e1 : ((m : Int) % 2 == 1) = true := by simp; omega
        have HN := hide (sq_odd M hy hx hp HR.out)
        clear hp
        go_wp2_with fail
        refine (specMul0 h y x hy hx _).mono ?_
        rintro e w1 ⟨rfl, hb⟩
        have HX1 := hide (HX.out.next hb)
        clear hb c0 c1 c2
        obtain ⟨c0, c1, c2⟩ := HX1.out.cells
        go_wp2_with fail
        refine (specMul0 h x x hx hx _).mono ?_
        rintro e w2 ⟨rfl, hb⟩
        have HX2 := hide (HX1.out.next hb)
        clear hb c0 c1 c2
        go_wp2_with fail
        go_roundw
        case rel => exact ⟨mul x x, m / 2, mul y x, M.clo _ _ hx hx, by omega, M.clo _ _ hy hx, rfl, by go_num, rfl, HN, HX2⟩
        case measure => simp [intOf]; omega
      · have e1 : ((m : Int) % 2 == 1) = false := by simp; omega
        have HN := hide (sq_even M hx (show m % 2 = 0 by omega) HR.out)
        clear hp
        go_wp2_with fail
        refine (specMul0 h x x hx hx _).mono ?_
        rintro e w2 ⟨rfl, hb⟩
        have HX2 := hide (HX.out.next hb)
        clear hb c0 c1 c2
        go_wp2_with fail
        go_roundw
        case rel => exact ⟨mul x x, m / 2, y, M.clo _ _ hx hx, by omega, hy, rfl, by go_num, rfl, HN, HX2⟩
        case measure => simp [intOf]; omega

set_option maxHeartbeats 1000000 in
theorem specInverse {p k g : Int} {q : Nat} {mul : Nat → Nat → Nat} (h : Kd p k g q mul) (a : Nat) (ha : a < q) (w : World) :
    Calls Try.prog 86 #[.agg #[.int .i64 p, .int .i64 k, .int .i64 g], .int .i64 a] w (Gives (.int .i64 (pw mul a (q - 2) : Nat)) w) := by
  obtain ⟨hq3, hq⟩ := h.big
  have HX := hide (Box.start w 25 p k g)
  go_enter Try.func86, Try.ntmps86
  go_wp2_with fail
  have hq1 : IntKind.i64.wrap ((q : Int) - 2) = ((q - 2 : Nat) : Int) := by
    rw [IntWalk.i64_in _ ⟨by omega, by omega⟩]; omega
  have hn : q - 2 ≤ 1000000 := by omega
  obtain ⟨m, hm⟩ : ∃ m : Nat, m = q - 2 := ⟨_, rfl⟩
  rw [← hm] at hq1 hn
  have HM := hide hm
  clear hm
  generalize hws : w.alloc (.cells #[.int .i64 p, .int .i64 k, .int .i64 g] 25) = ws at HX ⊢
  clear hws
  go_region_held3 (fun w' => w'.cell? ⟨w.heap.size, 0, none⟩ = some (.int .i64 p) ∧ w'.cell? ⟨w.heap.size, 1, none⟩ = some (.int .i64 k) ∧ w'.cell? ⟨w.heap.size, 2, none⟩ = some (.int .i64 g))
    (first
      | exact ⟨HX.out.drew.cells.1, HX.out.drew.cells.2.1, HX.out.drew.cells.2.2⟩
      | exact ⟨HX2.out.cells.1, HX2.out.cells.2.1, HX2.out.cells.2.2⟩
      | exact ⟨HX3.out.cells.1, HX3.out.cells.2.1, HX3.out.cells.2.2⟩)
    (first
      | (go_at_call 63; refine (specSize h _).mono ?_; rintro e w2 ⟨rfl, hb2⟩; have HX2 := hide (HX.out.drew.next hb2); clear hb2)
      | (go_at_call 111; refine (specPow0 h a m ha hn _).mono ?_; rintro e w3 ⟨rfl, hb3⟩; have HX3 := hide (HX2.out.next hb3); clear hb3))
  go_wp2_with fail
  go_ret
  exact ⟨ret_int (by rw [HM.out]), HX3.out.2⟩

def SLogRel (w : World) (p k g : Int) (q : Nat) (mul : Nat → Nat → Nat) (γ l : Nat) (s i : Value) (wr : World) : Prop :=
  ∃ j x : Nat, j ≤ l ∧ x < q ∧ s = .int .i64 j ∧ i = .int .i64 x ∧ Hid (x = pw mul γ j) ∧ Box w wr 25 p k g

end Go.Proofs.Ythafkohopkgckaa
