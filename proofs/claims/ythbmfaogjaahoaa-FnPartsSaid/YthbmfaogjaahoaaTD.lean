/-
  The contracts of the model's smallest functions of fields.
  The contracts of the program's functions that tell whether a field is valid.
  The contracts of the model's functions that tell whether a field is valid.
  The contracts of the model's FieldSize, FieldAdd, FieldNeg and FieldMul, and of what tells their errors.
  The contracts of the program's functions that tell whether a field is valid, and of IsField and FieldSize.
  The contracts of the program's IsField, FieldSize, FieldAdd, FieldNeg, FieldMul and what tells their errors.
  Condition: as each statement says.
-/
import Derived.Test.YthbmfaogjaahoaaSpecIn
import Derived.Test.YthbmfaogjaahoaaTC
import Derived.Deep.RegionHeld3
namespace Go.Proofs.Ythbmfaogjaahoaa
open Go.RowKit
set_option linter.unusedSimpArgs false
set_option linter.unusedVariables false

set_option maxHeartbeats 400000 in
theorem specSize {p k g : Int} {q : Nat} {mul : Nat → Nat → Nat} (h : Kd p k g q mul) (w : World) :
    Calls Try.prog 80 #[.agg #[.int .i64 p, .int .i64 k, .int .i64 g]] w (Gives (.int .i64 q) w) := by
  cases h with
  | one _ _ h3 h =>
    go_enter Try.func80, Try.ntmps80
    go_wp2_with fail
    go_ret
    exact ⟨rfl, (Below.refl _ _).alloc (Nat.le_refl _) _⟩
  | two K G h3 h8 hG hG2 =>
    clear hG hG2
    have e1 : ((K : Int) == 1) = false := by simp; omega
    obtain ⟨pw, hpw, he, hp1, hp2⟩ := pow_fits K (by omega)
    have HE := hide he
    clear he
    go_enter Try.func80, Try.ntmps80
    go_wp2_with fail
    go_ret
    exact ⟨ret_int (by rw [hpw, HE.out]; simp), (Below.refl _ _).alloc (Nat.le_refl _) _⟩

theorem shlI {a j : Nat} (ha : a < 512) (hj : j ≤ 9) : wrap64 ((a : Int) * 2 ^ j) = ((a <<< j : Nat) : Int) ∧ a <<< j < 524288 := by
  have h1 : a <<< j < 524288 := by
    rw [Nat.shiftLeft_eq]
    have h2 : 2 ^ j ≤ 2 ^ 9 := Nat.pow_le_pow_right (by decide) hj
    have h3 : a * 2 ^ j ≤ 511 * 2 ^ 9 := Nat.mul_le_mul (by omega) h2
    omega
  have e : (a : Int) * 2 ^ j = ((a <<< j : Nat) : Int) := by rw [Nat.shiftLeft_eq]; push_cast; rfl
  rw [e]
  generalize a <<< j = y at h1
  exact ⟨IntWalk.wrap64_in _ ⟨by omega, by omega⟩, h1⟩
theorem bit_test {b i : Nat} (hb : b < 131072) : (bits .and .i64 ((b : Int) / 2 ^ i) 1 == 1) = b.testBit i := by
  have hc : ((b : Int) / 2 ^ i) = ((b / 2 ^ i : Nat) : Int) := by simp
  have h1 : b / 2 ^ i ≤ b := Nat.div_le_self _ _
  rw [hc, Nat.testBit_eq_decide_div_mod_eq]
  generalize b / 2 ^ i = x at h1
  rw [and1 _ (by omega) (by omega), Bool.eq_iff_iff]
  simp only [beq_iff_eq, decide_eq_true_eq]
  omega
theorem cl_step1 {a b K j r : Nat} (h8 : K ≤ 8) (hj : j < K) (ha : a < 2 ^ K) (hb : b < 256) (hr : r = cl a b j) (h2 : (bits .and .i64 ((b : Int) / 2 ^ j) 1 == 1) = true) :
    bits .xor .i64 (r : Int) (wrap64 ((a : Int) * 2 ^ j)) = ((cl a b (j + 1) : Nat) : Int) := by
  rw [bit_test (by omega)] at h2
  have hp : 2 ^ K ≤ 2 ^ 8 := Nat.pow_le_pow_right (by decide) h8
  obtain ⟨e, hl⟩ := shlI (a := a) (j := j) (by omega) (by omega)
  have h3 := cl_lt a b K ha j
  have h4 : 2 ^ (K + j) ≤ 2 ^ 16 := Nat.pow_le_pow_right (by decide) (by omega)
  rw [e, i64xor _ _ (by omega) (by omega), cl, if_pos h2, hr]
theorem cl_step0 {a b j r : Nat} (hb : b < 256) (hr : r = cl a b j) (h2 : (bits .and .i64 ((b : Int) / 2 ^ j) 1 == 1) = false) : r = cl a b (j + 1) := by
  rw [bit_test (by omega)] at h2
  rw [cl, h2, hr]; simp
theorem rd_step1 {K G m x r : Nat} (h8 : K ≤ 8) (hm : m ≤ K) (hG2 : G < 2 ^ (K + 1)) (hx : x < 2 ^ (2 * K + 1)) (hr : rdAll K G (m + 1) x = r) (h2 : (bits .and .i64 ((x : Int) / 2 ^ (K + m)) 1 == 1) = true) :
    bits .xor .i64 (x : Int) (wrap64 ((G : Int) * 2 ^ m)) = ((rd K G (K + m) x : Nat) : Int) := by
  have hp : 2 ^ (2 * K + 1) ≤ 2 ^ 17 := Nat.pow_le_pow_right (by decide) (by omega)
  have hp2 : 2 ^ (K + 1) ≤ 2 ^ 9 := Nat.pow_le_pow_right (by decide) (by omega)
  rw [bit_test (by omega)] at h2
  obtain ⟨e, hl⟩ := shlI (a := G) (j := m) (by omega) (by omega)
  rw [e, i64xor _ _ (by omega) (by omega), rd, if_pos h2, show K + m - K = m by omega]
theorem rd_step0 {K G m x : Nat} (h8 : K ≤ 8) (hx : x < 2 ^ (2 * K + 1)) (h2 : (bits .and .i64 ((x : Int) / 2 ^ (K + m)) 1 == 1) = false) : x = rd K G (K + m) x := by
  have hp : 2 ^ (2 * K + 1) ≤ 2 ^ 17 := Nat.pow_le_pow_right (by decide) (by omega)
  rw [bit_test (by omega)] at h2
  rw [rd, h2]; simp
theorem rd_rel {K G m x : Nat} {v : Int} {r : Nat} (h8 : K ≤ 8) (hm : m ≤ K) (hG2 : G < 2 ^ (K + 1)) (hx : x < 2 ^ (2 * K + 1)) (hr : rdAll K G (m + 1) x = r) (hv : v = ((rd K G (K + m) x : Nat) : Int)) :
    ∃ (m' x' : Nat) (kk : Int), m' ≤ K + 1 ∧ kk = (K : Int) + (m' : Int) - 1 ∧ Value.int .i64 ((K : Int) + (m : Int) - 1) = .int .i64 kk ∧ Value.int .i64 v = .int .i64 x' ∧ x' < 131072 ∧ Hid (x' < 2 ^ (2 * K + 1)) ∧ Hid (rdAll K G m' x' = r) := by
  have h1 : rd K G (K + m) x < 2 ^ (2 * K + 1) := rd_lt hG2 hx (by omega) (by omega)
  have hp : 2 ^ (2 * K + 1) ≤ 2 ^ 17 := Nat.pow_le_pow_right (by decide) (by omega)
  exact ⟨m, _, _, by omega, rfl, rfl, by rw [hv], by omega, h1, hr⟩

set_option maxHeartbeats 1000000 in
theorem specMul0 {p k g : Int} {q : Nat} {mul : Nat → Nat → Nat} (h : Kd p k g q mul) (a b : Nat) (ha : a < q) (hb : b < q) (w : World) :
    Calls Try.prog 103 #[.agg #[.int .i64 p, .int .i64 k, .int .i64 g], .int .i64 a, .int .i64 b] w (Gives (.int .i64 (mul a b : Nat)) w) := by
  have HQ := hide h.big
  cases h with
  | one _ _ h3 h =>
    have hab : (a : Int) * (b : Int) ≤ 1042441 := mul_bd (by omega) (by omega)
    have hab0 : 0 ≤ (a : Int) * (b : Int) := Int.mul_nonneg (by omega) (by omega)
    go_enter Try.func103, Try.ntmps103
    go_wp2_with fail
    go_ret
    exact ⟨ret_int (mod_mul1 q a b), (Box.start w 36 _ _ g).2⟩
  | two K G h3 h8 hG hG2 =>
    have HX := hide (Box.start w 36 2 K G)
    have HP := hide hG
    have HP2 := hide hG2
    have HS := hide (pow_small h3 h8)
    have HM := hide (cl_mul2 K G a b ha)
    have HL := hide (cl_lt a b K ha K)
    have HA := hide ha
    have hb8 : b < 256 := by have := HS.out; omega
    have ha8 : a < 256 := by have := HS.out; omega
    clear hG hG2 ha hb
    have e1 : ((K : Int) == 1) = false := by simp; omega
    go_enter Try.func103, Try.ntmps103
    go_wp2_with fail
    go_loop [7, 8] (fun s i => ∃ j r : Nat, j ≤ K ∧ i = .int .i64 j ∧ s = .int .i64 r ∧ Hid (r = cl a b j)) (fun _ i => K - (intOf i).toNat)
    case atStart => exact ⟨0, 0, by omega, rfl, rfl, rfl⟩
    case round =>
      obtain ⟨j, r, hj, rfl, rfl, HR⟩ := hrel
      by_cases hlt : j < K
      · rcases h2 : (bits .and .i64 ((b : Int) / 2 ^ j) 1 == 1) with _ | _
        · have HV := hide (cl_step0 hb8 HR h2)
          go_wp2_with fail
          go_round
          case rel => exact ⟨j + 1, r, by omega, by go_num, rfl, HV⟩
          case measure => simp [intOf]; omega
        · have HV := hide (cl_step1 h8 hlt HA hb8 HR h2)
          go_wp2_with fail
          go_round
          case rel => exact ⟨j + 1, _, by omega, by go_num, by rw [HV.out], rfl⟩
          case measure => simp [intOf]; omega
      · obtain rfl : j = K := by omega
        have HM2 := hide (show rdAll j G (j + 1) r = mul2 j G a b by rw [HR.out]; exact HM)
        have HL2 := hide (show r < 2 ^ (2 * j + 1) by
          rw [HR.out]
          exact Nat.lt_of_lt_of_le HL.out (Nat.pow_le_pow_right (by decide) (by omega)))
        have hr17 : r < 131072 := Nat.lt_of_lt_of_le HL2.out (Nat.pow_le_pow_right (n := 2) (j := 17) (by decide) (by omega))
        clear HR HM HL hj hlt
        go_wp2_with fail
        go_loop [7, 9] (fun s i => ∃ (m x : Nat) (kk : Int), m ≤ j + 1 ∧ kk = (j : Int) + (m : Int) - 1 ∧ i = .int .i64 kk ∧ s = .int .i64 x ∧ x < 131072 ∧ Hid (x < 2 ^ (2 * j + 1)) ∧ Hid (rdAll j G m x = mul2 j G a b)) (fun _ i => (intOf i - j + 1).toNat)
        case atStart => exact ⟨j + 1, r, _, by omega, rfl, by first | (congr 1; push_cast; omega) | go_num, rfl, hr17, HL2, HM2⟩
        case round =>
          clear HM2 HL2 hr17
          obtain ⟨m, x, kk, hm, hkk, rfl, rfl, hx, HXX, HR2⟩ := hrel
          by_cases hm0 : m = 0
          · subst hm0
            obtain rfl : kk = (j : Int) - 1 := by omega
            have HF := hide (show ((mul2 j G a b : Nat) : Int) = (x : Int) by rw [← HR2.out]; rfl)
            clear hkk HR2
            go_wp2_with fail
            go_ret
            exact ⟨ret_int HF, HX.out.2⟩
          · obtain ⟨m, rfl⟩ : ∃ i, m = i + 1 := ⟨m - 1, by omega⟩
            obtain rfl : kk = ((j + m : Nat) : Int) := by omega
            clear hkk hm0
            have hkk1 : (j : Int) ≤ ((j + m : Nat) : Int) := by omega
            rcases h2 : (bits .and .i64 ((x : Int) / 2 ^ (j + m)) 1 == 1) with _ | _
            · have HV := hide (show (x : Int) = ((rd j G (j + m) x : Nat) : Int) by rw [← rd_step0 h8 HXX h2])
              go_wp2_with fail
              go_round
              case rel => exact rd_rel h8 (by omega) HP2 HXX HR2 HV
              case measure => simp [intOf]; omega
            · have HV := hide (rd_step1 h8 (by omega) HP2 HXX HR2 h2)
              go_wp2_with fail
              go_round
              case rel => exact rd_rel h8 (by omega) HP2 HXX HR2 HV
              case measure => simp [intOf]; omega
end Go.Proofs.Ythbmfaogjaahoaa

namespace Go.Proofs.Ythbmfaogjaahoaa
open Go.RowKit
set_option linter.unusedSimpArgs false

theorem sq_bd {d : Nat} (hd : d ≤ 40) : (d : Int) * (d : Int) ≤ 1600 ∧ 0 ≤ (d : Int) * (d : Int) := by
  have h : ((d * d : Nat) : Int) ≤ ((40 * 40 : Nat) : Int) := Int.ofNat_le.2 (Nat.mul_le_mul hd hd)
  rw [Int.natCast_mul] at h
  exact ⟨h, Int.mul_nonneg (by omega) (by omega)⟩
theorem root_bd {n d : Nat} (hn : n ≤ 1021) (h : d * d ≤ n) : d ≤ 31 := by
  rcases Nat.lt_or_ge d 32 with h1 | h1
  · omega
  · have := Nat.mul_le_mul h1 h1; omega

set_option maxHeartbeats 400000 in
theorem implPrime (n : Nat) (hn : n ≤ 1021) (w : World) :
    Calls Try.prog 105 #[.int .i64 n] w fun e w' => e = .returned (.bool (primeB n)) ∧ w = w' := by
  go_enter Try.func105, Try.ntmps105
  go_wp2
  go_loop [3] (fun i => ∃ d : Nat, 2 ≤ d ∧ d ≤ 32 ∧ i = .int .i64 d ∧ Hid (∀ e, e < d → 2 ≤ e → n % e ≠ 0)) (fun i => 33 - (intOf i).toNat)
  case atStart => exact ⟨2, by omega, by omega, rfl, fun e h1 h2 => by omega⟩
  case round =>
    obtain ⟨d, h2, h32, rfl, HD⟩ := hrel
    obtain ⟨hs1, hs0⟩ := sq_bd (d := d) (by omega)
    by_cases hle : d * d ≤ n
    · have hle' : (d : Int) * (d : Int) ≤ (n : Int) := by have := Int.ofNat_le.2 hle; rwa [Int.natCast_mul] at this
      have h31 := root_bd hn hle
      by_cases hm : n % d = 0
      · have HN := hide (primeB_no h2 hle hm)
        have hm' : ((n : Int) % (d : Int) == 0) = true := by rw [← Int.natCast_emod, hm]; rfl
        clear hm hle
        go_wp2
        go_ret
        exact ⟨ret_bool HN, rfl⟩
      · have hm' : ((n : Int) % (d : Int) == 0) = false := by
          rw [← Int.natCast_emod]; simp; omega
        have HM := hide hm
        clear hm hle
        go_wp2
        go_round
        case rel => exact ⟨d + 1, by omega, by omega, by go_num, fun e h1 h2 => by
          rcases Nat.lt_or_ge e d with h3 | h3
          · exact HD.out e h3 h2
          · rw [show e = d by omega]; exact HM⟩
        case measure => simp [intOf]; omega
    · have hle' : decide ((d : Int) * (d : Int) ≤ (n : Int)) = false := by
        simp only [decide_eq_false_iff_not]
        intro h; exact hle (by rw [← Int.natCast_mul] at h; exact Int.ofNat_le.1 h)
      have HY := hide (primeB_yes (by omega) HD)
      clear hle
      go_wp2
      go_ret
      exact ⟨ret_bool HY, rfl⟩

def GenRel (w : World) (p k g : Int) (q : Nat) (mul : Nat → Nat → Nat) (a : Nat) (s i : Value) (wr : World) : Prop :=
  ∃ j x : Nat, j ≤ q - 2 ∧ i = .int .i64 j ∧ s = .int .i64 x ∧ x < q ∧ Hid (x = pw mul a (j + 1)) ∧ Hid (∀ e, e ≤ j → 1 ≤ e → pw mul a e ≠ 1) ∧ Box w wr 36 p k g

set_option maxHeartbeats 1000000 in
theorem implGen {p k g : Int} {q : Nat} {mul : Nat → Nat → Nat} (h : Kd p k g q mul) (a : Nat) (ha : a < q) (w : World) :
    Calls Try.prog 85 #[.agg #[.int .i64 p, .int .i64 k, .int .i64 g], .int .i64 a] w (Gives (.bool (gen q mul a)) w) := by
  obtain ⟨hq3, hq⟩ := h.big
  have M := h.mon
  go_enter Try.func85, Try.ntmps85
  go_wp2_with fail
  refine (implSize h _).mono ?_
  rintro e w1 ⟨rfl, hb⟩
  have HX := hide ((Box.start w 36 p k g).next hb)
  clear hb
  go_wp2_with fail
  go_loopw [5, 10] (fun s i wr => GenRel w p k g q mul a s i wr) (fun _ i _ => q - (intOf i).toNat)
  case atStart => exact ⟨0, a, by omega, rfl, rfl, ha, by rw [pw_one M ha]; rfl, fun e h1 h2 => by omega, HX⟩
  case round =>
    clear HX
    obtain ⟨j, x, hj, rfl, rfl, hx, HXJ, HE, HX⟩ := hrel
    have HX := hide HX
    obtain ⟨c0, c1, c2⟩ := HX.out.cells
    by_cases hlt : j < q - 2
    · have hlt' : (j : Int) < (q : Int) - 2 := by omega
      by_cases hx1 : x = 1
      · subst hx1
        have HN := hide (gen_no_early M (a := a) (j := j + 1) (by omega) (by omega) HXJ.out.symm)
        go_wp2_with fail
        go_ret
        exact ⟨ret_bool HN, HX.out.2⟩
      · have e1 : ((x : Int) == 1) = false := by simp; omega
        have HN1 := hide hx1
        clear hx1
        go_wp2_with fail
        refine (implProd h x a hx ha _).mono ?_
        rintro e w2 ⟨rfl, hb⟩
        have HX2 := hide (HX.out.next hb)
        clear hb
        go_wp2_with fail
        go_roundw
        case rel => exact ⟨j + 1, mul x a, by omega, by go_num, rfl, M.clo _ _ hx ha, by show _ = mul (pw mul a (j + 1)) a; rw [← HXJ.out], fun e h1 h2 => by
          rcases Nat.lt_or_ge j e with h3 | h3
          · rw [show e = j + 1 by omega, ← HXJ.out]; exact HN1
          · exact HE.out e h3 h2, HX2⟩
        case measure => simp [intOf]; omega
    · have hlt' : decide ((j : Int) < (q : Int) - 2) = false := by simp; omega
      obtain rfl : j = q - 2 := by omega
      by_cases hx1 : x = 1
      · subst hx1
        have HN := hide (gen_yes M (a := a) (by rw [show q - 1 = q - 2 + 1 by omega]; exact HXJ.out.symm) (fun e h1 h2 => HE.out e (by omega) h2))
        go_wp2_with fail
        go_ret
        exact ⟨ret_bool HN, HX.out.2⟩
      · have e1 : ((x : Int) == 1) = false := by simp; omega
        have HN := hide (gen_no_last M (a := a) (by rw [show q - 1 = q - 2 + 1 by omega, ← HXJ.out]; exact hx1))
        clear hx1
        go_wp2_with fail
        go_ret
        exact ⟨ret_bool HN, HX.out.2⟩

def LeastRel (w : World) (p k g : Int) (q : Nat) (mul : Nat → Nat → Nat) (i : Value) (wr : World) : Prop :=
  ∃ a : Nat, 1 ≤ a ∧ a ≤ q ∧ i = .int .i64 a ∧ Hid (∀ j, j < a → 1 ≤ j → gen q mul j = false) ∧ Box w wr 36 p k g

set_option maxHeartbeats 1000000 in
theorem implLeast (q : Nat) (g : Int) (h3 : 3 ≤ q) (hq : q ≤ 1021) (w : World) :
    Calls Try.prog 83 #[.agg #[.int .i64 q, .int .i64 1, .int .i64 g]] w (Gives (.int .i64 (least q (mul1 q) : Nat)) w) := by
  have h : Kd q 1 g q (mul1 q) := Kd.one q g h3 hq
  go_enter Try.func83, Try.ntmps83
  go_wp2_with fail
  go_loopw [3] (fun i wr => LeastRel w q 1 g q (mul1 q) i wr) (fun i _ => q - (intOf i).toNat)
  case atStart => exact ⟨1, by omega, by omega, rfl, fun e h1 h2 => by omega, Box.start w _ _ _ _⟩
  case round =>
    obtain ⟨a, h1, ha, rfl, HE, HX⟩ := hrel
    have HX := hide HX
    obtain ⟨c0, c1, c2⟩ := HX.out.cells
    by_cases hlt : a < q
    · rcases hg : gen q (mul1 q) a with _ | _
      · have HG := hide hg
        go_wp2_with fail
        refine (implGen h a hlt _).mono ?_
        rintro e w2 ⟨rfl, hb⟩
        have HX2 := hide (HX.out.next hb)
        clear hb
        go_wp2_with fail
        go_roundw
        case rel => exact ⟨a + 1, by omega, by omega, by go_num, fun j hj h1 => by
          rcases Nat.lt_or_ge j a with h3 | h3
          · exact HE.out j h3 h1
          · rw [show j = a by omega]; exact HG, HX2⟩
        case measure => simp [intOf]; omega
      · have HL := hide (show ((least q (mul1 q) : Nat) : Int) = (a : Int) by rw [least_at hlt h1 hg HE])
        go_wp2_with fail
        refine (implGen h a hlt _).mono ?_
        rintro e w2 ⟨rfl, hb⟩
        have HX2 := hide (HX.out.next hb)
        clear hb
        go_wp2_with fail
        go_ret
        exact ⟨ret_int HL, HX2.out.2⟩
    · have HL := hide (show ((least q (mul1 q) : Nat) : Int) = 0 by rw [least_none (fun j hj h1 => HE.out j (by omega) h1)]; rfl)
      go_wp2_with fail
      go_ret
      exact ⟨ret_int HL, HX.out.2⟩
end Go.Proofs.Ythbmfaogjaahoaa

namespace Go.Proofs.Ythbmfaogjaahoaa
open Go.RowKit
set_option linter.unusedSimpArgs false
set_option linter.unusedVariables false

set_option maxHeartbeats 400000 in
theorem specPrime (n : Nat) (h2n : 2 ≤ n) (hn : n ≤ 1021) (w : World) :
    Calls Try.prog 78 #[.int .i64 n] w fun e w' => e = .returned (.bool (primeB n)) ∧ w = w' := by
  go_enter Try.func78, Try.ntmps78
  go_wp2
  go_loop [3] (fun i => ∃ d : Nat, 2 ≤ d ∧ d ≤ 32 ∧ i = .int .i64 d ∧ Hid (∀ e, e < d → 2 ≤ e → n % e ≠ 0)) (fun i => 33 - (intOf i).toNat)
  case atStart => exact ⟨2, by omega, by omega, rfl, fun e h1 h2 => by omega⟩
  case round =>
    obtain ⟨d, h2, h32, rfl, HD⟩ := hrel
    obtain ⟨hs1, hs0⟩ := sq_bd (d := d) (by omega)
    by_cases hle : d * d ≤ n
    · have hle' : (d : Int) * (d : Int) ≤ (n : Int) := by have := Int.ofNat_le.2 hle; rwa [Int.natCast_mul] at this
      have h31 := root_bd hn hle
      by_cases hm : n % d = 0
      · have HN := hide (primeB_no h2 hle hm)
        have hm' : ((n : Int) % (d : Int) == 0) = true := by rw [← Int.natCast_emod, hm]; rfl
        clear hm hle
        go_wp2
        go_ret
        exact ⟨ret_bool HN, rfl⟩
      · have hm' : ((n : Int) % (d : Int) == 0) = false := by
          rw [← Int.natCast_emod]; simp; omega
        have HM := hide hm
        clear hm hle
        go_wp2
        go_round
        case rel => exact ⟨d + 1, by omega, by omega, by go_num, fun e h1 h2 => by
          rcases Nat.lt_or_ge e d with h3 | h3
          · exact HD.out e h3 h2
          · rw [show e = d by omega]; exact HM⟩
        case measure => simp [intOf]; omega
    · have hle' : decide ((d : Int) * (d : Int) ≤ (n : Int)) = false := by
        simp only [decide_eq_false_iff_not]
        intro h; exact hle (by rw [← Int.natCast_mul] at h; exact Int.ofNat_le.1 h)
      have HY := hide (primeB_yes (by omega) HD)
      clear hle
      go_wp2
      go_ret
      exact ⟨ret_bool (by rw [HY.out]; symm; rw [decide_eq_true_eq]; omega), rfl⟩

def RunRel (w : World) (p k g : Int) (q : Nat) (mul : Nat → Nat → Nat) (a : Nat) (s i : Value) (wr : World) : Prop :=
  ∃ j x : Nat, 1 ≤ j ∧ j ≤ q ∧ i = .int .i64 j ∧ s = .int .i64 x ∧ x < q ∧ Hid (x = pw mul a j) ∧ Hid (∀ e, e < j → 1 ≤ e → pw mul a e ≠ 1) ∧ Box w wr 36 p k g

set_option maxHeartbeats 2000000 in
theorem specRuns {p k g : Int} {q : Nat} {mul : Nat → Nat → Nat} (h : Kd p k g q mul) (a : Nat) (ha : a < q) (w : World) :
    Calls Try.prog 79 #[.agg #[.int .i64 p, .int .i64 k, .int .i64 g], .int .i64 a] w (Gives (.bool (gen q mul a)) w) := by
  obtain ⟨hq3, hq⟩ := h.big
  have M := h.mon
  go_enter Try.func79, Try.ntmps79
  go_wp2_with fail
  go_loopw [5, 6] (fun s i wr => RunRel w p k g q mul a s i wr) (fun _ i _ => q + 1 - (intOf i).toNat)
  case atStart => exact ⟨1, a, by omega, by omega, rfl, rfl, ha, by rw [pw_one M ha]; rfl, fun e h1 h2 => by omega, Box.start w _ _ _ _⟩
  case round =>
    obtain ⟨j, x, hj1, hj, rfl, rfl, hx, HXJ, HE, HX⟩ := hrel
    have HX := hide HX
    obtain ⟨c0, c1, c2⟩ := HX.out.cells
    by_cases hx1 : x = 1
    · subst hx1
      by_cases hjq : j = q - 1
      · have HN := hide (gen_yes M (a := a) (by rw [← hjq]; exact HXJ.out.symm) (fun e h1 h2 => HE.out e (by omega) h2))
        have ej : ((j : Int) == (q : Int) - 1) = true := by simp; omega
        clear hjq
        go_wp2_with fail
        refine (specSize h _).mono ?_
        rintro e w1 ⟨rfl, hb⟩
        have HX1 := hide (HX.out.next hb)
        clear hb
        go_wp2_with fail
        go_ret
        exact ⟨ret_bool HN, HX1.out.2⟩
      · have HN := hide (show gen q mul a = false by
          rcases Nat.lt_or_ge j (q - 1) with h1 | h1
          · exact gen_no_early M h1 hj1 HXJ.out.symm
          · exact gen_no_last M (HE.out (q - 1) (by omega) (by omega)))
        have ej : ((j : Int) == (q : Int) - 1) = false := by simp; omega
        clear hjq
        go_wp2_with fail
        refine (specSize h _).mono ?_
        rintro e w1 ⟨rfl, hb⟩
        have HX1 := hide (HX.out.next hb)
        clear hb
        go_wp2_with fail
        go_ret
        exact ⟨ret_bool HN, HX1.out.2⟩
    · have e1 : ((x : Int) != 1) = true := by simp; omega
      have e1' : ((x : Int) == 1) = false := by simp; omega
      have HN1 := hide hx1
      clear hx1
      by_cases hx0 : x = 0
      · subst hx0
        have HN := hide (show gen q mul a = false by
          rcases Nat.lt_or_ge j q with h1 | h1
          · exact gen_no_zero M ha (by omega) HXJ.out.symm
          · exact gen_no_last M (HE.out (q - 1) (by omega) (by omega)))
        go_wp2_with fail
        go_ret
        exact ⟨ret_bool HN, HX.out.2⟩
      · have e0 : ((x : Int) != 0) = true := by simp; omega
        clear hx0
        by_cases hlt : j < q
        · go_wp2_with fail
          refine (specSize h _).mono ?_
          rintro e w1 ⟨rfl, hb⟩
          have HX1 := hide (HX.out.next hb)
          clear hb c0 c1 c2
          obtain ⟨c0, c1, c2⟩ := HX1.out.cells
          go_wp2_with fail
          refine (specMul0 h x a hx ha _).mono ?_
          rintro e w2 ⟨rfl, hb⟩
          have HX2 := hide (HX1.out.next hb)
          clear hb c0 c1 c2
          go_wp2_with fail
          go_roundw
          case rel => exact ⟨j + 1, mul x a, by omega, by omega, by go_num, rfl, M.clo _ _ hx ha, by show _ = mul (pw mul a j) a; rw [← HXJ.out], fun e h1 h2 => by
            rcases Nat.lt_or_ge e j with h3 | h3
            · exact HE.out e h3 h2
            · rw [show e = j by omega, ← HXJ.out]; exact HN1, HX2⟩
          case measure => simp [intOf]; omega
        · have hlt' : decide ((j : Int) < (q : Int)) = false := by simp; omega
          have HN := hide (gen_no_last M (a := a) (HE.out (q - 1) (by omega) (by omega)))
          go_wp2_with fail
          refine (specSize h _).mono ?_
          rintro e w1 ⟨rfl, hb⟩
          have HX1 := hide (HX.out.next hb)
          clear hb c0 c1 c2
          go_wp2_with fail
          go_ret
          exact ⟨ret_bool HN, HX1.out.2⟩

def LowRel (w : World) (q : Nat) (G : Nat) (i : Value) (wr : World) : Prop :=
  ∃ a : Nat, 1 ≤ a ∧ a ≤ G ∧ i = .int .i64 a ∧ Hid (∀ j, j < a → 1 ≤ j → gen q (mul1 q) j = false) ∧ Box w wr 36 q 1 G

theorem shl_two {K : Nat} (h3 : 3 ≤ K) (h8 : K ≤ 8) : ∃ c : Int, wrap64 (2 ^ K) = c ∧ wrap64 (2 * 2 ^ K) = 2 * c ∧ c = 2 ^ K ∧ 8 ≤ c ∧ c ≤ 256 := by
  have h := pow_small h3 h8
  have h1 : (8 : Int) ≤ 2 ^ K := by have := Int.ofNat_le.2 h.1; rw [Int.natCast_pow] at this; exact this
  have h2 : (2 : Int) ^ K ≤ 256 := by have := Int.ofNat_le.2 h.2; rw [Int.natCast_pow] at this; exact this
  exact ⟨2 ^ K, IntWalk.wrap64_in _ ⟨by omega, by omega⟩, IntWalk.wrap64_in _ ⟨by omega, by omega⟩, rfl, h1, h2⟩

set_option maxHeartbeats 2000000 in
theorem specIsField (p k g : Int) (w : World) :
    Calls Try.prog 51 #[.agg #[.int .i64 p, .int .i64 k, .int .i64 g]] w (Gives (.bool (fieldB p k g)) w) := by
  have HX := hide (Box.start w 36 p k g)
  by_cases hk : k = 1
  · subst hk
    rcases hp : inR p 3 1021 with _ | _
    · have HF := hide (show fieldB p 1 g = false by
        simp only [inR, decide_eq_false_iff_not] at hp
        refine fieldB_0 ?_ ?_
        · rw [k1B, Bool.and_eq_false_iff]; left; simp; omega
        · rw [k2B, decide_eq_false_iff_not]; omega)
      have HP := hide hp
      clear hp
      go_enter Try.func51, Try.ntmps51
      go_wp2_with fail
      refine (specIn_is p 3 1021 false _ HP).mono ?_
      rintro e w1 ⟨rfl, rfl⟩
      go_wp2_with fail
      go_ret
      exact ⟨ret_bool HF, HX.out.2⟩
    · obtain ⟨P, rfl⟩ : ∃ P : Nat, p = P := ⟨p.toNat, by simp only [inR, decide_eq_true_eq] at hp; omega⟩
      have h3 : 3 ≤ P := by simp only [inR, decide_eq_true_eq] at hp; omega
      have h4 : P ≤ 1021 := by simp only [inR, decide_eq_true_eq] at hp; omega
      have HP := hide hp
      clear hp
      rcases hpr : primeB P with _ | _
      · have HF := hide (show fieldB P 1 g = false by
          refine fieldB_0 ?_ ?_
          · rw [k1B, Bool.and_eq_false_iff, Int.toNat_natCast]; right; exact hpr
          · rw [k2B, decide_eq_false_iff_not]; omega)
        have HPR := hide hpr
        clear hpr
        go_enter Try.func51, Try.ntmps51
        go_wp2_with fail
        refine (specIn_is P 3 1021 true _ HP).mono ?_
        rintro e w1 ⟨rfl, rfl⟩
        go_wp2_with fail
        refine (specPrime P (by omega) h4 _).mono ?_
        rw [HPR.out]
        rintro e w1 ⟨rfl, rfl⟩
        go_wp2_with fail
        go_ret
        exact ⟨ret_bool HF, HX.out.2⟩
      · have HPR := hide hpr
        have HL := hide (least_spec (prime_gen h3 h4 hpr))
        have HF0 := hide (fieldB_1 (g := g) h3 h4 hpr)
        clear hpr
        rcases hg : inR g 1 ((P : Int) - 1) with _ | _
        · have HF := hide (show fieldB P 1 g = false by
            simp only [inR, decide_eq_false_iff_not] at hg
            have := HL.out
            rw [HF0.out, decide_eq_false_iff_not]; omega)
          have HG := hide hg
          clear hg
          go_enter Try.func51, Try.ntmps51
          go_wp2_with fail
          refine (specIn_is P 3 1021 true _ HP).mono ?_
          rintro e w1 ⟨rfl, rfl⟩
          go_wp2_with fail
          refine (specPrime P (by omega) h4 _).mono ?_
          rw [HPR.out]
          rintro e w1 ⟨rfl, rfl⟩
          go_wp2_with fail
          refine (specIn_is g 1 ((P : Int) - 1) false _ HG).mono ?_
          rintro e w1 ⟨rfl, rfl⟩
          go_wp2_with fail
          go_ret
          exact ⟨ret_bool HF, HX.out.2⟩
        · obtain ⟨G, rfl⟩ : ∃ G : Nat, g = G := ⟨g.toNat, by simp only [inR, decide_eq_true_eq] at hg; omega⟩
          have hG1 : 1 ≤ G := by simp only [inR, decide_eq_true_eq] at hg; omega
          have hG2 : G < P := by simp only [inR, decide_eq_true_eq] at hg; omega
          have HG := hide hg
          have hK : Kd P 1 G P (mul1 P) := Kd.one P G h3 h4
          clear hg
          go_enter Try.func51, Try.ntmps51
          go_wp2_with fail
          refine (specIn_is P 3 1021 true _ HP).mono ?_
          rintro e w1 ⟨rfl, rfl⟩
          go_wp2_with fail
          refine (specPrime P (by omega) h4 _).mono ?_
          rw [HPR.out]
          rintro e w1 ⟨rfl, rfl⟩
          go_wp2_with fail
          refine (specIn_is G 1 ((P : Int) - 1) true _ HG).mono ?_
          rintro e w1 ⟨rfl, rfl⟩
          go_wp2_with fail
          go_loopw [3] (fun i wr => LowRel w P G i wr) (fun i _ => G - (intOf i).toNat)
          case atStart => exact ⟨1, by omega, by omega, rfl, fun e h1 h2 => by omega, HX⟩
          case round =>
            clear HX
            obtain ⟨a, h1, ha, rfl, HE, HX⟩ := hrel
            have HX := hide HX
            obtain ⟨c0, c1, c2⟩ := HX.out.cells
            by_cases hlt : a < G
            · rcases hga : gen P (mul1 P) a with _ | _
              · have HGA := hide hga
                go_wp2_with fail
                refine (specRuns hK a (by omega) _).mono ?_
                rw [HGA.out]
                clear hga
                rintro e w2 ⟨rfl, hb⟩
                have HX2 := hide (HX.out.next hb)
                clear hb
                go_wp2_with fail
                go_roundw
                case rel => exact ⟨a + 1, by omega, by omega, by go_num, fun j hj h1 => by
                  rcases Nat.lt_or_ge j a with h3 | h3
                  · exact HE.out j h3 h1
                  · rw [show j = a by omega]; exact HGA, HX2⟩
                case measure => simp [intOf]; omega
              · have HF := hide (show fieldB P 1 G = false by
                  rw [HF0.out, least_at (by omega) h1 hga HE, decide_eq_false_iff_not]; omega)
                have HGA := hide hga
                go_wp2_with fail
                refine (specRuns hK a (by omega) _).mono ?_
                rw [HGA.out]
                clear hga
                rintro e w2 ⟨rfl, hb⟩
                have HX2 := hide (HX.out.next hb)
                clear hb
                go_wp2_with fail
                go_ret
                exact ⟨ret_bool HF, HX2.out.2⟩
            · obtain rfl : a = G := by omega
              have HF := hide (show fieldB P 1 a = gen P (mul1 P) a by
                rw [HF0.out]
                rcases hga : gen P (mul1 P) a with _ | _
                · rw [decide_eq_false_iff_not]
                  intro he
                  have h5 : least P (mul1 P) = a := by omega
                  have := HL.out.2.2.1
                  rw [h5, hga] at this
                  cases this
                · rw [least_at hG2 h1 hga HE]; simp)
              go_wp2_with fail
              refine (specRuns hK a hG2 _).mono ?_
              rintro e w2 ⟨rfl, hb⟩
              have HX2 := hide (HX.out.next hb)
              clear hb
              go_wp2_with fail
              go_ret
              exact ⟨ret_bool HF, HX2.out.2⟩
  · have hk' : (k == 1) = false := by simpa using hk
    have HK1 := hide (show k1B p k = false by rw [k1B, Bool.and_eq_false_iff]; left; simp; omega)
    by_cases hp : p = 2
    · subst hp
      rcases hkr : inR k 3 8 with _ | _
      · have HF := hide (show fieldB 2 k g = false by
          simp only [inR, decide_eq_false_iff_not] at hkr
          refine fieldB_0 HK1 ?_
          rw [k2B, decide_eq_false_iff_not]; omega)
        have HKR := hide hkr
        clear hkr
        go_enter Try.func51, Try.ntmps51
        go_wp2_with fail
        refine (specIn_is k 3 8 false _ HKR).mono ?_
        rintro e w1 ⟨rfl, rfl⟩
        go_wp2_with fail
        go_ret
        exact ⟨ret_bool HF, HX.out.2⟩
      · obtain ⟨K, rfl⟩ : ∃ K : Nat, k = K := ⟨k.toNat, by simp only [inR, decide_eq_true_eq] at hkr; omega⟩
        have h3 : 3 ≤ K := by simp only [inR, decide_eq_true_eq] at hkr; omega
        have h8 : K ≤ 8 := by simp only [inR, decide_eq_true_eq] at hkr; omega
        have HKR := hide hkr
        clear hkr hk
        obtain ⟨c, hc1, hc2, hc3, hc4, hc5⟩ := shl_two h3 h8
        have HC3 := hide hc3
        clear hc3
        rcases hg : inR g c (2 * c - 1) with _ | _
        · have HF := hide (show fieldB 2 K g = false by
            simp only [inR, decide_eq_false_iff_not] at hg
            refine fieldB_0 HK1 ?_
            rw [k2B, decide_eq_false_iff_not, Int.toNat_natCast, Int.pow_succ, ← HC3.out]; omega)
          have HG := hide hg
          clear hg
          go_enter Try.func51, Try.ntmps51
          go_wp2_with fail
          refine (specIn_is _ 3 8 true _ HKR).mono ?_
          rintro e w1 ⟨rfl, rfl⟩
          go_wp2_with fail
          refine (specIn_is g c (2 * c - 1) false _ HG).mono ?_
          rintro e w1 ⟨rfl, rfl⟩
          go_wp2_with fail
          go_ret
          exact ⟨ret_bool HF, HX.out.2⟩
        · have hk2 : k2B 2 K g = true := by
            simp only [inR, decide_eq_true_eq] at hg
            rw [k2B, decide_eq_true_eq, Int.toNat_natCast, Int.pow_succ, ← HC3.out]; omega
          obtain ⟨K', G, _, hKK, rfl, _, _, hG1, hG2⟩ := k2_open hk2
          obtain rfl : K = K' := by omega
          have HF := hide (fieldB_2 h3 h8 hG1 hG2)
          have hK := Kd.two K G h3 h8 hG1 hG2
          have h2q : 2 < 2 ^ K := by have := pow_small h3 h8; omega
          have HG := hide hg
          clear hg hk2 hKK hG1 hG2
          go_enter Try.func51, Try.ntmps51
          go_wp2_with fail
          refine (specIn_is _ 3 8 true _ HKR).mono ?_
          rintro e w1 ⟨rfl, rfl⟩
          go_wp2_with fail
          refine (specIn_is _ c (2 * c - 1) true _ HG).mono ?_
          rintro e w1 ⟨rfl, rfl⟩
          go_wp2_with fail
          refine (specRuns hK 2 h2q _).mono ?_
          rintro e w2 ⟨rfl, hb⟩
          have HX2 := hide (HX.out.next hb)
          clear hb
          go_wp2_with fail
          go_ret
          exact ⟨ret_bool HF, HX2.out.2⟩
    · have hp' : (p != 2) = true := by simpa using hp
      have HF := hide (show fieldB p k g = false by
        refine fieldB_0 HK1 ?_
        rw [k2B, decide_eq_false_iff_not]; omega)
      go_enter Try.func51, Try.ntmps51
      go_wp2_with fail
      go_ret
      exact ⟨ret_bool HF, HX.out.2⟩
end Go.Proofs.Ythbmfaogjaahoaa

namespace Go.Proofs.Ythbmfaogjaahoaa
open Go.RowKit
set_option linter.unusedSimpArgs false
set_option linter.unusedVariables false

theorem in_elB {q : Nat} {x : Int} : inR x 0 ((q : Int) - 1) = elB q x := by
  rw [inR, elB, decide_eq_decide]; omega

def IsRel (w : World) (p k g : Int) (q n : Nat) (zs : List Int) (i : Value) (wr : World) : Prop :=
  ∃ j : Nat, j ≤ n ∧ i = .int .i64 j ∧ Hid ((zs.take j).all (elB q) = true) ∧ Box w wr 36 p k g

set_option maxHeartbeats 2000000 in
theorem specIs {p k g : Int} {q : Nat} {mul : Nat → Nat → Nat} (hK : Kd p k g q mul) (A : Option Addr) (n c B : Nat) (zs : List Int) (w : World) (hI : Ints .i64 w B A n zs) (hB : B ≤ w.heap.size) (hn : n ≤ 1099511627776) :
    Calls Try.prog 94 #[.agg #[.int .i64 p, .int .i64 k, .int .i64 g], .slice A n c] w (Gives (.bool (zs.all (elB q))) w) := by
  have HX := hide (Box.start w 36 p k g)
  have HI := hide hI
  have hl := hide hI.len
  obtain ⟨hq3, hq⟩ := hK.big
  clear hI
  go_enter Try.func94, Try.ntmps94
  go_wp2_with fail
  go_loopw [5] (fun i wr => IsRel w p k g q n zs i wr) (fun i _ => n - (intOf i).toNat)
  case atStart => exact ⟨0, by omega, rfl, by simp [Hid], HX⟩
  case round =>
    clear HX
    obtain ⟨j, hj, rfl, HA, HX⟩ := hrel
    have HX := hide HX
    obtain ⟨c0, c1, c2⟩ := HX.out.cells
    by_cases hlt : j < n
    · obtain ⟨b, off, x, rfl, hb, hx, hc⟩ := (HI.out.below (HX.out.2.mono hB)).at_ hlt
      have hx' := hide hx
      clear hx
      have z1 : (j : Int) < (n : Int) := by omega
      have z0 : (0 : Int) ≤ (j : Int) := by omega
      have hb' : b < wr.heap.size := by have := HX.out.lt; omega
      have HC := hide hc
      rcases he : elB q x with _ | _
      · have HF := hide (show zs.all (elB q) = false from fAll_no hx' he)
        have HIn := hide (show inR x 0 ((q : Int) - 1) = false by rw [in_elB]; exact he)
        clear he
        go_wp2_with fail
        have hwr : IntKind.i64.wrap ((q : Int) - 1) = (q : Int) - 1 := IntWalk.i64_in _ (by omega)
        go_region_held3 (fun w' => w'.cell? ⟨b, off + j, none⟩ = some (.int .i64 x) ∧ w'.cell? ⟨w.heap.size, 0, none⟩ = some (.int .i64 p) ∧ w'.cell? ⟨w.heap.size, 1, none⟩ = some (.int .i64 k) ∧ w'.cell? ⟨w.heap.size, 2, none⟩ = some (.int .i64 g))
          (first
            | go_keep
            | exact ⟨HC2.out, HX2.out.cells.1, HX2.out.cells.2.1, HX2.out.cells.2.2⟩)
          (first
            | (go_at_call 80; refine (specSize hK _).mono ?_; rintro e w2 ⟨rfl, hb2⟩; have HX2 := hide (HX.out.drew.next hb2); have HC2 := hide ((hb2.cell (p := ⟨b, off + j, none⟩) hb').trans HC.out); clear hb2)
            | (go_at_call 40; refine (specIn_is x 0 ((q : Int) - 1) _ _ HIn).mono ?_; rintro e w3 ⟨rfl, rfl⟩))
        clear hwr
        go_wp2_with fail
        go_ret
        exact ⟨ret_bool HF, HX2.out.2⟩
      · have HN := hide (all_snoc HA.out hx' he)
        have HIn := hide (show inR x 0 ((q : Int) - 1) = true by rw [in_elB]; exact he)
        clear he
        go_wp2_with fail
        have hwr : IntKind.i64.wrap ((q : Int) - 1) = (q : Int) - 1 := IntWalk.i64_in _ (by omega)
        go_region_held3 (fun w' => w'.cell? ⟨b, off + j, none⟩ = some (.int .i64 x) ∧ w'.cell? ⟨w.heap.size, 0, none⟩ = some (.int .i64 p) ∧ w'.cell? ⟨w.heap.size, 1, none⟩ = some (.int .i64 k) ∧ w'.cell? ⟨w.heap.size, 2, none⟩ = some (.int .i64 g))
          (first
            | go_keep
            | exact ⟨HC2.out, HX2.out.cells.1, HX2.out.cells.2.1, HX2.out.cells.2.2⟩)
          (first
            | (go_at_call 80; refine (specSize hK _).mono ?_; rintro e w2 ⟨rfl, hb2⟩; have HX2 := hide (HX.out.drew.next hb2); have HC2 := hide ((hb2.cell (p := ⟨b, off + j, none⟩) hb').trans HC.out); clear hb2)
            | (go_at_call 40; refine (specIn_is x 0 ((q : Int) - 1) _ _ HIn).mono ?_; rintro e w3 ⟨rfl, rfl⟩))
        clear hwr
        go_wp2_with fail
        go_roundw
        case rel => exact ⟨j + 1, by omega, by go_num, HN, HX2⟩
        case measure => simp [intOf]; omega
    · have HF := hide (show zs.all (elB q) = true by
        have h1 := HA.out
        rw [List.take_of_length_le (by rw [hl.out]; omega)] at h1
        exact h1)
      go_wp2_with fail
      go_ret
      exact ⟨ret_bool HF, HX.out.2⟩

end Go.Proofs.Ythbmfaogjaahoaa

namespace Go.Proofs.Ythbmfaogjaahoaa
open Go.RowKit
set_option linter.unusedSimpArgs false

set_option maxHeartbeats 400000 in
theorem implFirst (p k g : Int) (w : World) :
    Calls Try.prog 82 #[.agg #[.int .i64 p, .int .i64 k, .int .i64 g]] w (Gives (.bool (k1B p k)) w) := by
  have HX := hide (Box.start w 36 p k g)
  by_cases h1 : k = 1
  · subst h1
    by_cases h2 : 3 ≤ p
    · by_cases h3 : p ≤ 1021
      · obtain ⟨P, rfl⟩ : ∃ P : Nat, p = P := ⟨p.toNat, by omega⟩
        have HF := hide (show k1B P 1 = primeB P by
          have : decide ((1 : Int) = 1 ∧ 3 ≤ (P : Int) ∧ (P : Int) ≤ 1021) = true := by simp; omega
          rw [k1B, this, Int.toNat_natCast]; rfl)
        go_enter Try.func82, Try.ntmps82
        go_wp2_with fail
        refine (implPrime P (by omega) _).mono ?_
        rintro e w1 ⟨rfl, rfl⟩
        go_wp2_with fail
        go_ret
        exact ⟨ret_bool HF, HX.out.2⟩
      · have HF := hide (show k1B p 1 = false by rw [k1B, Bool.and_eq_false_iff]; left; simp; omega)
        have h3' : decide (p ≤ 1021) = false := by simpa using h3
        go_enter Try.func82, Try.ntmps82
        go_wp2_with fail
        go_ret
        exact ⟨ret_bool HF, HX.out.2⟩
    · have HF := hide (show k1B p 1 = false by rw [k1B, Bool.and_eq_false_iff]; left; simp; omega)
      have h2' : decide (3 ≤ p) = false := by simpa using h2
      go_enter Try.func82, Try.ntmps82
      go_wp2_with fail
      go_ret
      exact ⟨ret_bool HF, HX.out.2⟩
  · have HF := hide (show k1B p k = false by rw [k1B, Bool.and_eq_false_iff]; left; simp; omega)
    have h1' : (k == 1) = false := by simpa using h1
    go_enter Try.func82, Try.ntmps82
    go_wp2_with fail
    go_ret
    exact ⟨ret_bool HF, HX.out.2⟩

theorem div_one {g : Int} {K : Nat} : (g / 2 ^ K == 1) = decide (2 ^ K ≤ g ∧ g < 2 ^ (K + 1)) := by
  have hp : (0 : Int) < 2 ^ K := Int.pow_pos (by decide)
  rw [Bool.eq_iff_iff, beq_iff_eq, decide_eq_true_eq, Int.pow_succ]
  generalize (2 : Int) ^ K = d at hp
  constructor
  · intro h
    have h1 := Int.ediv_mul_le g (b := d) (by omega)
    have h2 := Int.lt_ediv_add_one_mul_self g hp
    rw [h] at h1 h2
    omega
  · rintro ⟨h1, h2⟩
    have h3 : 1 ≤ g / d := (Int.le_ediv_iff_mul_le hp).2 (by omega)
    have h4 : g / d < 2 := (Int.ediv_lt_iff_lt_mul hp).2 (by omega)
    omega

set_option maxHeartbeats 400000 in
theorem implSecond (p k g : Int) (w : World) :
    Calls Try.prog 84 #[.agg #[.int .i64 p, .int .i64 k, .int .i64 g]] w (Gives (.bool (k2B p k g)) w) := by
  have HX := hide (Box.start w 36 p k g)
  by_cases h1 : p = 2
  · subst h1
    by_cases h2 : 3 ≤ k
    · by_cases h3 : k ≤ 8
      · obtain ⟨K, rfl⟩ : ∃ K : Nat, k = K := ⟨k.toNat, by omega⟩
        have HF := hide (show k2B 2 K g = (g / 2 ^ K == 1) by
          rw [div_one, k2B, Int.toNat_natCast, decide_eq_decide]
          exact ⟨fun h => ⟨h.2.2.2.1, h.2.2.2.2⟩, fun h => ⟨rfl, h2, h3, h.1, h.2⟩⟩)
        go_enter Try.func84, Try.ntmps84
        go_wp2_with fail
        go_ret
        exact ⟨ret_bool HF, HX.out.2⟩
      · have HF := hide (show k2B 2 k g = false by rw [k2B, decide_eq_false_iff_not]; omega)
        have h3' : decide (k ≤ 8) = false := by simpa using h3
        go_enter Try.func84, Try.ntmps84
        go_wp2_with fail
        go_ret
        exact ⟨ret_bool HF, HX.out.2⟩
    · have HF := hide (show k2B 2 k g = false by rw [k2B, decide_eq_false_iff_not]; omega)
      have h2' : decide (3 ≤ k) = false := by simpa using h2
      go_enter Try.func84, Try.ntmps84
      go_wp2_with fail
      go_ret
      exact ⟨ret_bool HF, HX.out.2⟩
  · have HF := hide (show k2B p k g = false by rw [k2B, decide_eq_false_iff_not]; omega)
    have h1' : (p == 2) = false := by simpa using h1
    go_enter Try.func84, Try.ntmps84
    go_wp2_with fail
    go_ret
    exact ⟨ret_bool HF, HX.out.2⟩

set_option maxHeartbeats 1000000 in
theorem implValid (p k g : Int) (w : World) :
    Calls Try.prog 55 #[.agg #[.int .i64 p, .int .i64 k, .int .i64 g]] w (Gives (.bool (fieldB p k g)) w) := by
  have HX := hide (Box.start w 36 p k g)
  rcases h1 : k1B p k with _ | _
  · rcases h2 : k2B p k g with _ | _
    · have HF := hide (fieldB_0 h1 h2)
      go_enter Try.func55, Try.ntmps55
      go_wp2_with fail
      refine (implFirst p k g _).mono ?_
      rintro e w1 ⟨rfl, hb⟩
      have HX1 := hide (HX.out.next hb)
      obtain ⟨c0, c1, c2⟩ := HX1.out.cells
      clear hb
      go_wp2_with fail
      refine (implSecond p k g _).mono ?_
      rintro e w2 ⟨rfl, hb⟩
      have HX2 := hide (HX1.out.next hb)
      clear hb c0 c1 c2
      go_wp2_with fail
      go_ret
      exact ⟨ret_bool HF, HX2.out.2⟩
    · obtain ⟨K, G, rfl, rfl, rfl, h3, h8, hG, hG2⟩ := k2_open h2
      have HF := hide (fieldB_2 h3 h8 hG hG2)
      have HK := Kd.two K G h3 h8 hG hG2
      have h2q : 2 < 2 ^ K := by have := pow_small h3 h8; omega
      clear hG hG2
      go_enter Try.func55, Try.ntmps55
      go_wp2_with fail
      refine (implFirst _ _ _ _).mono ?_
      rintro e w1 ⟨rfl, hb⟩
      have HX1 := hide (HX.out.next hb)
      obtain ⟨c0, c1, c2⟩ := HX1.out.cells
      clear hb
      go_wp2_with fail
      refine (implSecond _ _ _ _).mono ?_
      rintro e w2 ⟨rfl, hb⟩
      have HX2 := hide (HX1.out.next hb)
      clear hb c0 c1 c2
      obtain ⟨c0, c1, c2⟩ := HX2.out.cells
      go_wp2_with fail
      refine (implGen HK 2 h2q _).mono ?_
      rintro e w3 ⟨rfl, hb⟩
      have HX3 := hide (HX2.out.next hb)
      clear hb c0 c1 c2
      go_wp2_with fail
      go_ret
      exact ⟨ret_bool HF, HX3.out.2⟩
  · obtain ⟨P, rfl, rfl, h3, h4, hp⟩ := k1_open h1
    have HF := hide (fieldB_1 (g := g) h3 h4 hp)
    clear hp
    go_enter Try.func55, Try.ntmps55
    go_wp2_with fail
    refine (implFirst _ _ _ _).mono ?_
    rintro e w1 ⟨rfl, hb⟩
    have HX1 := hide (HX.out.next hb)
    obtain ⟨c0, c1, c2⟩ := HX1.out.cells
    clear hb
    go_wp2_with fail
    have HC0 := hide c0
    have HC1 := hide c1
    have HC2 := hide c2
    go_region_held3 (fun w' => w'.cell? ⟨w.heap.size, 0, none⟩ = some (.int .i64 (P : Int)) ∧ w'.cell? ⟨w.heap.size, 1, none⟩ = some (.int .i64 1) ∧ w'.cell? ⟨w.heap.size, 2, none⟩ = some (.int .i64 g) ∧ Box w w' 36 P 1 g)
      (first
        | exact ⟨HC0.out, HC1.out, HC2.out, HX1.out.drew⟩
        | (go_split_ands; refine ⟨?_, ?_, ?_, ?_⟩ <;> assumption)
        | exact ⟨HX2.out.cells.1, HX2.out.cells.2.1, HX2.out.cells.2.2, HX2.out⟩)
      (first | (go_at_call 83; refine (implLeast P g h3 h4 _).mono ?_; rintro e w2 ⟨rfl, hb⟩; have HX2 := hide (HX1.out.drew.next hb); clear hb))
    go_wp2_with fail
    go_ret
    exact ⟨ret_bool (by rw [HF.out, Bool.eq_iff_iff]; simp), HX2.out.2⟩
end Go.Proofs.Ythbmfaogjaahoaa

namespace Go.Proofs.Ythbmfaogjaahoaa
open Go.RowKit
set_option linter.unusedSimpArgs false

def ElRel (w : World) (p k g : Int) (q n : Nat) (zs : List Int) (i : Value) (wr : World) : Prop :=
  ∃ j : Nat, j ≤ n ∧ i = .int .i64 j ∧ Hid ((zs.take j).all (elB q) = true) ∧ Box w wr 36 p k g

end Go.Proofs.Ythbmfaogjaahoaa
