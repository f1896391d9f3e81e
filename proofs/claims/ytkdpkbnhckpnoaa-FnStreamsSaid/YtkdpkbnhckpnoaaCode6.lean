/-
  The contracts of the test of code words, of the program.
  Condition: the code is valid, and the list is a word of it.
-/
import Derived.Test.YtkdpkbnhckpnoaaCode5
namespace Go.Proofs.Ytkdpkbnhckpnoaa
open Go.RowKit
set_option linter.unusedSimpArgs false
set_option linter.unusedVariables false

section
variable {R : Fld} {γ : El R} {p k g : Int} {l c : Nat}
set_option maxHeartbeats 400000 in
theorem implNot0 (x : Int) (w : World) :
    Calls Try.prog 86 #[.int .i64 x] w fun e w' => e = .returned (.bool (x != 0)) ∧ w = w' := by
  go_enter Try.func86, Try.ntmps86
  go_wp2
  go_ret
  exact ⟨rfl, rfl⟩
/-- An index of something, or none. -/
def Found (b : Bool) (w : World) (x : Ending) (w' : World) : Prop := ∃ i : Int, x = .returned (.int .i64 i) ∧ decide (0 ≤ i) = b ∧ w = w'
def FxRel (n : Nat) (ps : List (El R)) (i : Value) : Prop := ∃ j : Nat, j ≤ n ∧ i = .int .i64 j ∧ Hid (∀ i, i < j → cf ps i = 0)

set_option maxHeartbeats 1000000 in
theorem implIndexFunc (ps : List (El R)) (A : Option Addr) (n c B : Nat) (w : World) (hI : Ints .i64 w B A n (iv ps)) (hn : n ≤ 1099511627776) :
    Calls Try.prog 108 #[.slice A n c, .func (.func 86) #[] #[]] w (Found (!zeroL ps) w) := by
  have hl : ps.length = n := by rw [← iv_len]; exact hI.len
  have HL := hide hl
  have HI := hide hI
  clear hI hl
  go_enter Try.func108, Try.ntmps108
  go_wp2_with fail
  go_loop [8] (fun i => FxRel n ps i) (fun i => n - (intOf i).toNat)
  case atStart => exact ⟨0, by omega, rfl, fun i hi => absurd hi (by omega)⟩
  case round =>
    obtain ⟨j, hj, rfl, HA⟩ := hrel
    by_cases hlt : j < n
    · obtain ⟨b, off, x, rfl, hb, hx, hc⟩ := HI.out.at_ hlt
      rw [iv_at (by rw [HL.out]; exact hlt)] at hx
      simp only [Option.some.injEq] at hx
      subst hx
      by_cases hz : cf ps j = 0
      · have HN := hide (show ∀ i, i < j + 1 → cf ps i = 0 by
          intro i hi
          rcases Nat.lt_or_ge i j with h1 | h1
          · exact HA.out i h1
          · obtain rfl : i = j := by omega
            exact hz)
        rw [hz] at hc
        clear hz
        go_wp2_with fail
        refine (implNot0 0 w).mono ?_
        rintro e w1 ⟨rfl, rfl⟩
        go_wp2_with fail
        go_round
        case rel => exact ⟨j + 1, by omega, by go_num, HN⟩
        case measure => simp [intOf]; omega
      · have HF := hide (show decide (0 ≤ (j : Int)) = !zeroL ps by rw [zeroL_no hz]; simp)
        have hv : ((((cf ps j).val : Nat) : Int) != 0) = true := by have := val_ne hz; simp; omega
        clear hz
        go_wp2_with fail
        refine (implNot0 _ w).mono ?_
        rw [hv]
        rintro e w1 ⟨rfl, rfl⟩
        go_wp2_with fail
        go_ret
        exact ⟨_, rfl, HF.out, rfl⟩
    · have HF := hide (show decide (0 ≤ (-1 : Int)) = !zeroL ps by
        rw [zeroL_of fun i hi => HA.out i (by rw [HL.out] at hi; omega)]; rfl)
      go_wp2_with fail
      go_ret
      exact ⟨_, rfl, HF.out, rfl⟩

set_option maxHeartbeats 1000000 in
theorem implContainsFunc (ps : List (El R)) (A : Option Addr) (n c B : Nat) (w : World) (hI : Ints .i64 w B A n (iv ps)) (hn : n ≤ 1099511627776) :
    Calls Try.prog 84 #[.slice A n c, .func (.func 86) #[] #[]] w fun e w' => e = .returned (.bool (!zeroL ps)) ∧ w = w' := by
  have HI := hide hI
  clear hI
  obtain ⟨b, hb⟩ : ∃ b, b = !zeroL ps := ⟨_, rfl⟩
  have HB := hide hb
  rw [← hb]
  clear hb
  go_enter Try.func84, Try.ntmps84
  go_wp2_with fail
  refine (implIndexFunc ps A n c B w HI.out hn).mono ?_
  rw [← HB.out]
  rintro e w1 ⟨i, rfl, hi, rfl⟩
  have HF := hide hi
  clear hi
  go_wp2_with fail
  go_ret
  exact ⟨ret_bool HF.out.symm, rfl⟩

set_option maxRecDepth 100000 in
set_option maxHeartbeats 1000000 in
theorem implAccepts (h : CodeIs R γ p k g l c) (ws : List (El R)) (A : Option Addr) (cm B : Nat) (w : World) (hI : Ints .i64 w B A l (iv ws)) (hB : B ≤ w.heap.size) :
    Calls Try.prog 55 #[.agg #[.int .i64 p, .int .i64 k, .int .i64 g, .int .i64 l, .int .i64 c], .slice A l cm] w (Gives (.bool (isCW γ c ws)) w) := by
  have HX := hide (CBox.start w p k g l c)
  have HI := hide hI
  have HSY := hide (show (synW γ c ws).length = c from syn_len γ c ws)
  clear hI
  obtain ⟨c0, c1, c2, c3, c4⟩ := HX.out.cells
  go_enter Try.func55, Try.ntmps55
  go_wp2_with fail
  refine (implSyndromes h ws A cm B _ (HI.out.below (HX.out.2.mono hB)) (Nat.le_trans hB (Nat.le_of_lt HX.out.lt))).mono ?_
  rintro e w1 ⟨A1, m1, rfl, hm1, ho, hb⟩
  rw [HSY.out] at ho ⊢
  have HX1 := hide (HX.out.next hb)
  have HI1 := hide ho.intsE
  clear ho hb hm1 c0 c1 c2 c3 c4
  go_wp2_with fail
  refine (implContainsFunc (synW γ c ws) A1 c m1 w1.heap.size w1 HI1.out (by have := h.c64; omega)).mono ?_
  rintro e w2 ⟨rfl, rfl⟩
  have HF := hide (show isCW γ c ws = !(!zeroL (synW γ c ws)) by rw [Bool.not_not]; rfl)
  generalize zeroL (synW γ c ws) = b at HF
  go_wp2_with fail
  go_ret
  exact ⟨ret_bool (by rw [HF.out]; simp), HX1.out.2⟩
end
end Go.Proofs.Ytkdpkbnhckpnoaa
