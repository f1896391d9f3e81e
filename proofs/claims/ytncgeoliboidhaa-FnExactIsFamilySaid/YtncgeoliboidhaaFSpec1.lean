/-
  The contracts of the model's smallest functions of fields.
  Condition: the field is of one of both kinds.
-/
import Derived.Test.YtncgeoliboidhaaSpecIn
import Derived.Test.YtncgeoliboidhaaFImpl1
import Derived.Test.YtncgeoliboidhaaFErr
namespace Go.Proofs.Ytncgeoliboidhaa
open Go.RowKit
set_option linter.unusedSimpArgs false
set_option linter.unusedVariables false

set_option maxHeartbeats 400000 in
theorem specSize {p k g : Int} {q : Nat} {mul : Nat → Nat → Nat} (h : Kd p k g q mul) (w : World) :
    Calls Try.prog 71 #[.agg #[.int .i64 p, .int .i64 k, .int .i64 g]] w (Gives (.int .i64 q) w) := by
  cases h with
  | one _ _ h3 h =>
    go_enter Try.func71, Try.ntmps71
    go_wp2_with fail
    go_ret
    exact ⟨rfl, (Below.refl _ _).alloc (Nat.le_refl _) _⟩
  | two K G h3 h8 hG hG2 =>
    clear hG hG2
    have e1 : ((K : Int) == 1) = false := by simp; omega
    obtain ⟨pw, hpw, he, hp1, hp2⟩ := pow_fits K (by omega)
    have HE := hide he
    clear he
    go_enter Try.func71, Try.ntmps71
    go_wp2_with fail
    go_ret
    exact ⟨ret_int (by rw [hpw, HE.out]; simp), (Below.refl _ _).alloc (Nat.le_refl _) _⟩

theorem shlI {a j : Nat} (ha : a < 512) (hj : j ≤ 9) : wrap64 ((a : Int) * 2 ^ j) = ((a <<< j : Nat) : Int) ∧ a <<< j < 524288 := by
  have h1 : a <<< j < 524288 := by
    rw [Nat.shiftLeft_eq]
    have h2 : 2 ^ j ≤ 2 ^ 9 := Nat.pow_le_pow_right (by decide) hj
    have h3 : a * 2 ^ j ≤ 511 * 2 ^ 9 := Nat.mul_le_mul (by omega) h2
    omega
  have e : (a : Int) * 2 ^ j = ((a <<< j : Nat) : Int) := by rw [Nat.shiftLeft_eq]; push_cast; rfl
  rw [e]
  generalize a <<< j = y at h1
  exact ⟨IntWalk.wrap64_in _ ⟨by omega, by omega⟩, h1⟩
theorem bit_test {b i : Nat} (hb : b < 131072) : (bits .and .i64 ((b : Int) / 2 ^ i) 1 == 1) = b.testBit i := by
  have hc : ((b : Int) / 2 ^ i) = ((b / 2 ^ i : Nat) : Int) := by simp
  have h1 : b / 2 ^ i ≤ b := Nat.div_le_self _ _
  rw [hc, Nat.testBit_eq_decide_div_mod_eq]
  generalize b / 2 ^ i = x at h1
  rw [and1 _ (by omega) (by omega), Bool.eq_iff_iff]
  simp only [beq_iff_eq, decide_eq_true_eq]
  omega
theorem cl_step1 {a b K j r : Nat} (h8 : K ≤ 8) (hj : j < K) (ha : a < 2 ^ K) (hb : b < 256) (hr : r = cl a b j) (h2 : (bits .and .i64 ((b : Int) / 2 ^ j) 1 == 1) = true) :
    bits .xor .i64 (r : Int) (wrap64 ((a : Int) * 2 ^ j)) = ((cl a b (j + 1) : Nat) : Int) := by
  rw [bit_test (by omega)] at h2
  have hp : 2 ^ K ≤ 2 ^ 8 := Nat.pow_le_pow_right (by decide) h8
  obtain ⟨e, hl⟩ := shlI (a := a) (j := j) (by omega) (by omega)
  have h3 := cl_lt a b K ha j
  have h4 : 2 ^ (K + j) ≤ 2 ^ 16 := Nat.pow_le_pow_right (by decide) (by omega)
  rw [e, i64xor _ _ (by omega) (by omega), cl, if_pos h2, hr]
theorem cl_step0 {a b j r : Nat} (hb : b < 256) (hr : r = cl a b j) (h2 : (bits .and .i64 ((b : Int) / 2 ^ j) 1 == 1) = false) : r = cl a b (j + 1) := by
  rw [bit_test (by omega)] at h2
  rw [cl, h2, hr]; simp
theorem rd_step1 {K G m x r : Nat} (h8 : K ≤ 8) (hm : m ≤ K) (hG2 : G < 2 ^ (K + 1)) (hx : x < 2 ^ (2 * K + 1)) (hr : rdAll K G (m + 1) x = r) (h2 : (bits .and .i64 ((x : Int) / 2 ^ (K + m)) 1 == 1) = true) :
    bits .xor .i64 (x : Int) (wrap64 ((G : Int) * 2 ^ m)) = ((rd K G (K + m) x : Nat) : Int) := by
  have hp : 2 ^ (2 * K + 1) ≤ 2 ^ 17 := Nat.pow_le_pow_right (by decide) (by omega)
  have hp2 : 2 ^ (K + 1) ≤ 2 ^ 9 := Nat.pow_le_pow_right (by decide) (by omega)
  rw [bit_test (by omega)] at h2
  obtain ⟨e, hl⟩ := shlI (a := G) (j := m) (by omega) (by omega)
  rw [e, i64xor _ _ (by omega) (by omega), rd, if_pos h2, show K + m - K = m by omega]
theorem rd_step0 {K G m x : Nat} (h8 : K ≤ 8) (hx : x < 2 ^ (2 * K + 1)) (h2 : (bits .and .i64 ((x : Int) / 2 ^ (K + m)) 1 == 1) = false) : x = rd K G (K + m) x := by
  have hp : 2 ^ (2 * K + 1) ≤ 2 ^ 17 := Nat.pow_le_pow_right (by decide) (by omega)
  rw [bit_test (by omega)] at h2
  rw [rd, h2]; simp
theorem rd_rel {K G m x : Nat} {v : Int} {r : Nat} (h8 : K ≤ 8) (hm : m ≤ K) (hG2 : G < 2 ^ (K + 1)) (hx : x < 2 ^ (2 * K + 1)) (hr : rdAll K G (m + 1) x = r) (hv : v = ((rd K G (K + m) x : Nat) : Int)) :
    ∃ (m' x' : Nat) (kk : Int), m' ≤ K + 1 ∧ kk = (K : Int) + (m' : Int) - 1 ∧ Value.int .i64 ((K : Int) + (m : Int) - 1) = .int .i64 kk ∧ Value.int .i64 v = .int .i64 x' ∧ x' < 131072 ∧ Hid (x' < 2 ^ (2 * K + 1)) ∧ Hid (rdAll K G m' x' = r) := by
  have h1 : rd K G (K + m) x < 2 ^ (2 * K + 1) := rd_lt hG2 hx (by omega) (by omega)
  have hp : 2 ^ (2 * K + 1) ≤ 2 ^ 17 := Nat.pow_le_pow_right (by decide) (by omega)
  exact ⟨m, _, _, by omega, rfl, rfl, by rw [hv], by omega, h1, hr⟩

set_option maxHeartbeats 1000000 in
theorem specMul0 {p k g : Int} {q : Nat} {mul : Nat → Nat → Nat} (h : Kd p k g q mul) (a b : Nat) (ha : a < q) (hb : b < q) (w : World) :
    Calls Try.prog 89 #[.agg #[.int .i64 p, .int .i64 k, .int .i64 g], .int .i64 a, .int .i64 b] w (Gives (.int .i64 (mul a b : Nat)) w) := by
  have HQ := hide h.big
  cases h with
  | one _ _ h3 h =>
    have hab : (a : Int) * (b : Int) ≤ 1042441 := mul_bd (by omega) (by omega)
    have hab0 : 0 ≤ (a : Int) * (b : Int) := Int.mul_nonneg (by omega) (by omega)
    go_enter Try.func89, Try.ntmps89
    go_wp2_with fail
    go_ret
    exact ⟨ret_int (mod_mul1 q a b), (Box.start w 29 _ _ g).2⟩
  | two K G h3 h8 hG hG2 =>
    have HX := hide (Box.start w 29 2 K G)
    have HP := hide hG
    have HP2 := hide hG2
    have HS := hide (pow_small h3 h8)
    have HM := hide (cl_mul2 K G a b ha)
    have HL := hide (cl_lt a b K ha K)
    have HA := hide ha
    have hb8 : b < 256 := by have := HS.out; omega
    have ha8 : a < 256 := by have := HS.out; omega
    clear hG hG2 ha hb
    have e1 : ((K : Int) == 1) = false := by simp; omega
    go_enter Try.func89, Try.ntmps89
    go_wp2_with fail
    go_loop [7, 8] (fun s i => ∃ j r : Nat, j ≤ K ∧ i = .int .i64 j ∧ s = .int .i64 r ∧ Hid (r = cl a b j)) (fun _ i => K - (intOf i).toNat)
    case atStart => exact ⟨0, 0, by omega, rfl, rfl, rfl⟩
    case round =>
      obtain ⟨j, r, hj, rfl, rfl, HR⟩ := hrel
      by_cases hlt : j < K
      · rcases h2 : (bits .and .i64 ((b : Int) / 2 ^ j) 1 == 1) with _ | _
        · have HV := hide (cl_step0 hb8 HR h2)
          go_wp2_with fail
          go_round
          case rel => exact ⟨j + 1, r, by omega, by go_num, rfl, HV⟩
          case measure => simp [intOf]; omega
        · have HV := hide (cl_step1 h8 hlt HA hb8 HR h2)
          go_wp2_with fail
          go_round
          case rel => exact ⟨j + 1, _, by omega, by go_num, by rw [HV.out], rfl⟩
          case measure => simp [intOf]; omega
      · obtain rfl : j = K := by omega
        have HM2 := hide (show rdAll j G (j + 1) r = mul2 j G a b by rw [HR.out]; exact HM)
        have HL2 := hide (show r < 2 ^ (2 * j + 1) by
          rw [HR.out]
          exact Nat.lt_of_lt_of_le HL.out (Nat.pow_le_pow_right (by decide) (by omega)))
        have hr17 : r < 131072 := Nat.lt_of_lt_of_le HL2.out (Nat.pow_le_pow_right (n := 2) (j := 17) (by decide) (by omega))
        clear HR HM HL hj hlt
        go_wp2_with fail
        go_loop [7, 9] (fun s i => ∃ (m x : Nat) (kk : Int), m ≤ j + 1 ∧ kk = (j : Int) + (m : Int) - 1 ∧ i = .int .i64 kk ∧ s = .int .i64 x ∧ x < 131072 ∧ Hid (x < 2 ^ (2 * j + 1)) ∧ Hid (rdAll j G m x = mul2 j G a b)) (fun _ i => (intOf i - j + 1).toNat)
        case atStart => exact ⟨j + 1, r, _, by omega, rfl, by first | (congr 1; push_cast; omega) | go_num, rfl, hr17, HL2, HM2⟩
        case round =>
          clear HM2 HL2 hr17
          obtain ⟨m, x, kk, hm, hkk, rfl, rfl, hx, HXX, HR2⟩ := hrel
          by_cases hm0 : m = 0
          · subst hm0
            obtain rfl : kk = (j : Int) - 1 := by omega
            have HF := hide (show ((mul2 j G a b : Nat) : Int) = (x : Int) by rw [← HR2.out]; rfl)
            clear hkk HR2
            go_wp2_with fail
            go_ret
            exact ⟨ret_int HF, HX.out.2⟩
          · obtain ⟨m, rfl⟩ : ∃ i, m = i + 1 := ⟨m - 1, by omega⟩
            obtain rfl : kk = ((j + m : Nat) : Int) := by omega
            clear hkk hm0
            have hkk1 : (j : Int) ≤ ((j + m : Nat) : Int) := by omega
            rcases h2 : (bits .and .i64 ((x : Int) / 2 ^ (j + m)) 1 == 1) with _ | _
            · have HV := hide (show (x : Int) = ((rd j G (j + m) x : Nat) : Int) by rw [← rd_step0 h8 HXX h2])
              go_wp2_with fail
              go_round
              case rel => exact rd_rel h8 (by omega) HP2 HXX HR2 HV
              case measure => simp [intOf]; omega
            · have HV := hide (rd_step1 h8 (by omega) HP2 HXX HR2 h2)
              go_wp2_with fail
              go_round
              case rel => exact rd_rel h8 (by omega) HP2 HXX HR2 HV
              case measure => simp [intOf]; omega
end Go.Proofs.Ytncgeoliboidhaa
