/-
  The contracts of the program's functions that tell whether a field is valid.
  Condition: none beyond the kinds that each names.
-/
import Derived.Test.YtncgeoliboidhaaFImpl1
import Derived.Deep.RegionHeld3
namespace Go.Proofs.Ytncgeoliboidhaa
open Go.RowKit
set_option linter.unusedSimpArgs false

theorem sq_bd {d : Nat} (hd : d ≤ 40) : (d : Int) * (d : Int) ≤ 1600 ∧ 0 ≤ (d : Int) * (d : Int) := by
  have h : ((d * d : Nat) : Int) ≤ ((40 * 40 : Nat) : Int) := Int.ofNat_le.2 (Nat.mul_le_mul hd hd)
  rw [Int.natCast_mul] at h
  exact ⟨h, Int.mul_nonneg (by omega) (by omega)⟩
theorem root_bd {n d : Nat} (hn : n ≤ 1021) (h : d * d ≤ n) : d ≤ 31 := by
  rcases Nat.lt_or_ge d 32 with h1 | h1
  · omega
  · have := Nat.mul_le_mul h1 h1; omega

set_option maxHeartbeats 400000 in
theorem implPrime (n : Nat) (hn : n ≤ 1021) (w : World) :
    Calls Try.prog 102 #[.int .i64 n] w fun e w' => e = .returned (.bool (primeB n)) ∧ w = w' := by
  go_enter Try.func102, Try.ntmps102
  go_wp2
  go_loop [3] (fun i => ∃ d : Nat, 2 ≤ d ∧ d ≤ 32 ∧ i = .int .i64 d ∧ Hid (∀ e, e < d → 2 ≤ e → n % e ≠ 0)) (fun i => 33 - (intOf i).toNat)
  case atStart => exact ⟨2, by omega, by omega, rfl, fun e h1 h2 => by omega⟩
  case round =>
    obtain ⟨d, h2, h32, rfl, HD⟩ := hrel
    obtain ⟨hs1, hs0⟩ := sq_bd (d := d) (by omega)
    by_cases hle : d * d ≤ n
    · have hle' : (d : Int) * (d : Int) ≤ (n : Int) := by have := Int.ofNat_le.2 hle; rwa [Int.natCast_mul] at this
      have h31 := root_bd hn hle
      by_cases hm : n % d = 0
      · have HN := hide (primeB_no h2 hle hm)
        have hm' : ((n : Int) % (d : Int) == 0) = true := by rw [← Int.natCast_emod, hm]; rfl
        clear hm hle
        go_wp2
        go_ret
        exact ⟨ret_bool HN, rfl⟩
      · have hm' : ((n : Int) % (d : Int) == 0) = false := by
          rw [← Int.natCast_emod]; simp; omega
        have HM := hide hm
        clear hm hle
        go_wp2
        go_round
        case rel => exact ⟨d + 1, by omega, by omega, by go_num, fun e h1 h2 => by
          rcases Nat.lt_or_ge e d with h3 | h3
          · exact HD.out e h3 h2
          · rw [show e = d by omega]; exact HM⟩
        case measure => simp [intOf]; omega
    · have hle' : decide ((d : Int) * (d : Int) ≤ (n : Int)) = false := by
        simp only [decide_eq_false_iff_not]
        intro h; exact hle (by rw [← Int.natCast_mul] at h; exact Int.ofNat_le.1 h)
      have HY := hide (primeB_yes (by omega) HD)
      clear hle
      go_wp2
      go_ret
      exact ⟨ret_bool HY, rfl⟩

def GenRel (w : World) (p k g : Int) (q : Nat) (mul : Nat → Nat → Nat) (a : Nat) (s i : Value) (wr : World) : Prop :=
  ∃ j x : Nat, j ≤ q - 2 ∧ i = .int .i64 j ∧ s = .int .i64 x ∧ x < q ∧ Hid (x = pw mul a (j + 1)) ∧ Hid (∀ e, e ≤ j → 1 ≤ e → pw mul a e ≠ 1) ∧ Box w wr 29 p k g

set_option maxHeartbeats 1000000 in
theorem implGen {p k g : Int} {q : Nat} {mul : Nat → Nat → Nat} (h : Kd p k g q mul) (a : Nat) (ha : a < q) (w : World) :
    Calls Try.prog 88 #[.agg #[.int .i64 p, .int .i64 k, .int .i64 g], .int .i64 a] w (Gives (.bool (gen q mul a)) w) := by
  obtain ⟨hq3, hq⟩ := h.big
  have M := h.mon
  go_enter Try.func88, Try.ntmps88
  go_wp2_with fail
  refine (implSize h _).mono ?_
  rintro e w1 ⟨rfl, hb⟩
  have HX := hide ((Box.start w 29 p k g).next hb)
  clear hb
  go_wp2_with fail
  go_loopw [5, 10] (fun s i wr => GenRel w p k g q mul a s i wr) (fun _ i _ => q - (intOf i).toNat)
  case atStart => exact ⟨0, a, by omega, rfl, rfl, ha, by rw [pw_one M ha]; rfl, fun e h1 h2 => by omega, HX⟩
  case round =>
    clear HX
    obtain ⟨j, x, hj, rfl, rfl, hx, HXJ, HE, HX⟩ := hrel
    have HX := hide HX
    obtain ⟨c0, c1, c2⟩ := HX.out.cells
    by_cases hlt : j < q - 2
    · have hlt' : (j : Int) < (q : Int) - 2 := by omega
      by_cases hx1 : x = 1
      · subst hx1
        have HN := hide (gen_no_early M (a := a) (j := j + 1) (by omega) (by omega) HXJ.out.symm)
        go_wp2_with fail
        go_ret
        exact ⟨ret_bool HN, HX.out.2⟩
      · have e1 : ((x : Int) == 1) = false := by simp; omega
        have HN1 := hide hx1
        clear hx1
        go_wp2_with fail
        refine (implProd h x a hx ha _).mono ?_
        rintro e w2 ⟨rfl, hb⟩
        have HX2 := hide (HX.out.next hb)
        clear hb
        go_wp2_with fail
        go_roundw
        case rel => exact ⟨j + 1, mul x a, by omega, by go_num, rfl, M.clo _ _ hx ha, by show _ = mul (pw mul a (j + 1)) a; rw [← HXJ.out], fun e h1 h2 => by
          rcases Nat.lt_or_ge j e with h3 | h3
          · rw [show e = j + 1 by omega, ← HXJ.out]; exact HN1
          · exact HE.out e h3 h2, HX2⟩
        case measure => simp [intOf]; omega
    · have hlt' : decide ((j : Int) < (q : Int) - 2) = false := by simp; omega
      obtain rfl : j = q - 2 := by omega
      by_cases hx1 : x = 1
      · subst hx1
        have HN := hide (gen_yes M (a := a) (by rw [show q - 1 = q - 2 + 1 by omega]; exact HXJ.out.symm) (fun e h1 h2 => HE.out e (by omega) h2))
        go_wp2_with fail
        go_ret
        exact ⟨ret_bool HN, HX.out.2⟩
      · have e1 : ((x : Int) == 1) = false := by simp; omega
        have HN := hide (gen_no_last M (a := a) (by rw [show q - 1 = q - 2 + 1 by omega, ← HXJ.out]; exact hx1))
        clear hx1
        go_wp2_with fail
        go_ret
        exact ⟨ret_bool HN, HX.out.2⟩

def LeastRel (w : World) (p k g : Int) (q : Nat) (mul : Nat → Nat → Nat) (i : Value) (wr : World) : Prop :=
  ∃ a : Nat, 1 ≤ a ∧ a ≤ q ∧ i = .int .i64 a ∧ Hid (∀ j, j < a → 1 ≤ j → gen q mul j = false) ∧ Box w wr 29 p k g

set_option maxHeartbeats 1000000 in
theorem implLeast (q : Nat) (g : Int) (h3 : 3 ≤ q) (hq : q ≤ 1021) (w : World) :
    Calls Try.prog 86 #[.agg #[.int .i64 q, .int .i64 1, .int .i64 g]] w (Gives (.int .i64 (least q (mul1 q) : Nat)) w) := by
  have h : Kd q 1 g q (mul1 q) := Kd.one q g h3 hq
  go_enter Try.func86, Try.ntmps86
  go_wp2_with fail
  go_loopw [3] (fun i wr => LeastRel w q 1 g q (mul1 q) i wr) (fun i _ => q - (intOf i).toNat)
  case atStart => exact ⟨1, by omega, by omega, rfl, fun e h1 h2 => by omega, Box.start w _ _ _ _⟩
  case round =>
    obtain ⟨a, h1, ha, rfl, HE, HX⟩ := hrel
    have HX := hide HX
    obtain ⟨c0, c1, c2⟩ := HX.out.cells
    by_cases hlt : a < q
    · rcases hg : gen q (mul1 q) a with _ | _
      · have HG := hide hg
        go_wp2_with fail
        refine (implGen h a hlt _).mono ?_
        rintro e w2 ⟨rfl, hb⟩
        have HX2 := hide (HX.out.next hb)
        clear hb
        go_wp2_with fail
        go_roundw
        case rel => exact ⟨a + 1, by omega, by omega, by go_num, fun j hj h1 => by
          rcases Nat.lt_or_ge j a with h3 | h3
          · exact HE.out j h3 h1
          · rw [show j = a by omega]; exact HG, HX2⟩
        case measure => simp [intOf]; omega
      · have HL := hide (show ((least q (mul1 q) : Nat) : Int) = (a : Int) by rw [least_at hlt h1 hg HE])
        go_wp2_with fail
        refine (implGen h a hlt _).mono ?_
        rintro e w2 ⟨rfl, hb⟩
        have HX2 := hide (HX.out.next hb)
        clear hb
        go_wp2_with fail
        go_ret
        exact ⟨ret_int HL, HX2.out.2⟩
    · have HL := hide (show ((least q (mul1 q) : Nat) : Int) = 0 by rw [least_none (fun j hj h1 => HE.out j (by omega) h1)]; rfl)
      go_wp2_with fail
      go_ret
      exact ⟨ret_int HL, HX.out.2⟩
end Go.Proofs.Ytncgeoliboidhaa
