/-
  The contracts of the program's smallest functions of fields.
  The contracts of the program's functions that tell whether a field is valid.
  The contracts of the program's functions that tell whether a field is valid, and of IsField and FieldSize.
  The contracts of the program's IsField, FieldSize, FieldAdd, FieldNeg, FieldMul and what tells their errors.
  The contracts of the program's FieldAdd, FieldNeg and FieldMul.
  The contracts of the program's table of powers and of what is read from it.
  The contracts of the program's logarithms, powers and inverses, and of FieldInv, FieldPow and FieldLog.
  Condition: as each statement says.
-/
import Derived.Test.YtlphodhecaagbaaGreatProg
import Derived.Test.YtlphodhecaagbaaGreatJA
import Derived.Deep.RegionHeld3
import Derived.Deep.WholeRow
import Derived.Great.Ranges
namespace Go.Proofs.YtlphodhecaagbaaGreat
open Go.RowKit
set_option linter.unusedSimpArgs false
set_option linter.unusedSectionVars false

set_option maxHeartbeats 400000 in
theorem implSize {p k g : Int} {q : Nat} {mul : Nat → Nat → Nat} (h : Kd p k g q mul) (w : World) :
    Calls Tryz.prog 95 #[.agg #[.int .i64 p, .int .i64 k, .int .i64 g]] w (Gives (.int .i64 q) w) := by
  cases h with
  | one _ _ h3 h =>
    have e2 : ((q : Int) == 2) = false := by simp; omega
    go_enter Tryz.func95, Tryz.ntmps95
    go_wp2_with fail
    go_ret
    exact ⟨rfl, (Below.refl _ _).alloc (Nat.le_refl _) _⟩
  | two K G h3 h8 hG hG2 =>
    clear hG hG2
    obtain ⟨pw, hpw, he, hp1, hp2⟩ := pow_fits K (by omega)
    have HE := hide he
    clear he
    go_enter Tryz.func95, Tryz.ntmps95
    go_wp2_with fail
    go_ret
    exact ⟨ret_int (by rw [hpw, HE.out]; simp), (Below.refl _ _).alloc (Nat.le_refl _) _⟩

theorem implHas {p k g : Int} {q : Nat} {mul : Nat → Nat → Nat} (h : Kd p k g q mul) (a : Int) (w : World) :
    Calls Tryz.prog 87 #[.agg #[.int .i64 p, .int .i64 k, .int .i64 g], .int .i64 a] w (Gives (.bool (decide (0 ≤ a ∧ a < q))) w) := by
  by_cases h0 : 0 ≤ a
  · go_enter Tryz.func87, Tryz.ntmps87
    go_wp2_with fail
    refine (implSize h _).mono ?_
    rintro e w1 ⟨rfl, hb⟩
    go_wp2_with fail
    go_ret
    exact ⟨ret_bool (by simp [h0]), (Box.start w 25 p k g).next hb |>.2⟩
  · have h0' : decide (0 ≤ a) = false := by simpa using h0
    go_enter Tryz.func87, Tryz.ntmps87
    go_wp2_with fail
    go_ret
    exact ⟨ret_bool (by simp [h0]), (Box.start w 25 p k g).2⟩

theorem mul_bd {a b : Nat} (ha : a ≤ 1021) (hb : b ≤ 1021) : (a : Int) * (b : Int) ≤ 1042441 := by
  have h : ((a * b : Nat) : Int) ≤ ((1021 * 1021 : Nat) : Int) := Int.ofNat_le.2 (Nat.mul_le_mul ha hb)
  rw [Int.natCast_mul] at h
  exact h
theorem mod_mul1 (q a b : Nat) : ((mul1 q a b : Nat) : Int) = (a : Int) * (b : Int) % (q : Int) := by unfold mul1; simp

theorem shr_tm {K G a b j : Nat} (hj : j + 1 ≤ K) : tm K G (K - j) a (b / 2 ^ j) = xt K G (tm K G (K - (j + 1)) a (b / 2 ^ (j + 1))) ^^^ (if (b / 2 ^ j) % 2 = 1 then a else 0) := by
  rw [show K - j = (K - (j + 1)) + 1 by omega, tm, Nat.div_div_eq_div_mul, Nat.pow_succ]

theorem prod_rel {w w1 : World} {t : TypeId} {K G a b i r : Nat} {v : Int} (hi : i + 1 ≤ K) (HR : r = tm K G (K - (i + 1)) a (b / 2 ^ (i + 1))) (hv : v = ((xt K G r ^^^ (if (b / 2 ^ i) % 2 = 1 then a else 0) : Nat) : Int)) (hx : Box w w1 t 2 K G) :
    ∃ (j r' : Nat) (kk : Int), j ≤ K ∧ kk = (j : Int) - 1 ∧ Value.int .i64 ((i : Int) - 1) = .int .i64 kk ∧ Value.int .i64 v = .int .i64 r' ∧ Hid (r' = tm K G (K - j) a (b / 2 ^ j)) ∧ Box w w1 t 2 K G :=
  ⟨i, _, _, by omega, rfl, rfl, by rw [hv], by show _ = _; rw [shr_tm hi, HR], hx⟩
theorem bit_one {b i : Nat} (hb : b < 1024) : (bits .and .i64 ((b : Int) / 2 ^ i) 1 == 1) = decide ((b / 2 ^ i) % 2 = 1) := by
  have hc : ((b : Int) / 2 ^ i) = ((b / 2 ^ i : Nat) : Int) := by simp
  have h1 : b / 2 ^ i ≤ b := Nat.div_le_self _ _
  rw [hc]
  generalize b / 2 ^ i = x at h1
  rw [and1 _ (by omega) (by omega), Bool.eq_iff_iff]
  simp only [beq_iff_eq, decide_eq_true_eq]
  omega
theorem xtI_hi {K G r : Nat} (h8 : K ≤ 8) (hG2 : G < 2 ^ (K + 1)) (hr : r < 2 ^ K) (h1 : (2 : Int) ^ K ≤ (r : Int) * 2) : bits .xor .i64 ((r : Int) * 2) (G : Int) = ((xt K G r : Nat) : Int) := by
  have hp : 2 ^ K ≤ 2 ^ 8 := Nat.pow_le_pow_right (by decide) h8
  have hp1 : 2 ^ (K + 1) = 2 * 2 ^ K := by rw [Nat.pow_succ]; omega
  have h1' : 2 ^ K ≤ 2 * r := by
    have : ((2 ^ K : Nat) : Int) ≤ ((2 * r : Nat) : Int) := by push_cast; omega
    exact Int.ofNat_le.1 this
  have e : (r : Int) * 2 = ((2 * r : Nat) : Int) := by push_cast; omega
  rw [e, i64xor _ _ (by omega) (by omega), xt, top_bit (by omega) h1']
  simp
theorem xtI_lo {K G r : Nat} (h1 : (r : Int) * 2 < (2 : Int) ^ K) : (r : Int) * 2 = ((xt K G r : Nat) : Int) := by
  have h1' : 2 * r < 2 ^ K := by
    have : ((2 * r : Nat) : Int) < ((2 ^ K : Nat) : Int) := by push_cast; omega
    exact Int.ofNat_lt.1 this
  rw [xt_small h1']; push_cast; omega
section
variable {K G a b i r : Nat} (hj : i + 1 ≤ K) (h8 : K ≤ 8) (hG : 2 ^ K ≤ G) (hG2 : G < 2 ^ (K + 1)) (ha : a < 2 ^ K) (hb : b < 2 ^ K) (hr : r < 2 ^ K)
include hj h8 hG hG2 ha hb hr
theorem prod_bd : b < 1024 ∧ a < 1024 ∧ xt K G r < 1024 := by
  have hp : 2 ^ K ≤ 2 ^ 8 := Nat.pow_le_pow_right (by decide) h8
  have := xt_lt hG hG2 hr
  omega
theorem prodA (h1 : (2 : Int) ^ K ≤ (r : Int) * 2) (h2 : (bits .and .i64 ((b : Int) / 2 ^ i) 1 == 1) = true) :
    bits .xor .i64 (bits .xor .i64 ((r : Int) * 2) (G : Int)) (a : Int) = ((xt K G r ^^^ (if (b / 2 ^ i) % 2 = 1 then a else 0) : Nat) : Int) := by
  obtain ⟨b1, b2, b3⟩ := prod_bd hj h8 hG hG2 ha hb hr
  rw [bit_one b1, decide_eq_true_eq] at h2
  rw [xtI_hi h8 hG2 hr h1, i64xor _ _ (by omega) (by omega), if_pos h2]
theorem prodB (h1 : (2 : Int) ^ K ≤ (r : Int) * 2) (h2 : (bits .and .i64 ((b : Int) / 2 ^ i) 1 == 1) = false) :
    bits .xor .i64 ((r : Int) * 2) (G : Int) = ((xt K G r ^^^ (if (b / 2 ^ i) % 2 = 1 then a else 0) : Nat) : Int) := by
  obtain ⟨b1, b2, b3⟩ := prod_bd hj h8 hG hG2 ha hb hr
  rw [bit_one b1, decide_eq_false_iff_not] at h2
  rw [xtI_hi h8 hG2 hr h1, if_neg h2, Nat.xor_zero]
theorem prodC (h1 : (r : Int) * 2 < (2 : Int) ^ K) (h2 : (bits .and .i64 ((b : Int) / 2 ^ i) 1 == 1) = true) :
    bits .xor .i64 ((r : Int) * 2) (a : Int) = ((xt K G r ^^^ (if (b / 2 ^ i) % 2 = 1 then a else 0) : Nat) : Int) := by
  obtain ⟨b1, b2, b3⟩ := prod_bd hj h8 hG hG2 ha hb hr
  rw [bit_one b1, decide_eq_true_eq] at h2
  rw [xtI_lo h1 (G := G), i64xor _ _ (by omega) (by omega), if_pos h2]
theorem prodD (h1 : (r : Int) * 2 < (2 : Int) ^ K) (h2 : (bits .and .i64 ((b : Int) / 2 ^ i) 1 == 1) = false) :
    (r : Int) * 2 = ((xt K G r ^^^ (if (b / 2 ^ i) % 2 = 1 then a else 0) : Nat) : Int) := by
  obtain ⟨b1, b2, b3⟩ := prod_bd hj h8 hG hG2 ha hb hr
  rw [bit_one b1, decide_eq_false_iff_not] at h2
  rw [xtI_lo h1 (G := G), if_neg h2, Nat.xor_zero]
end

set_option maxHeartbeats 1000000 in
theorem implProd {p k g : Int} {q : Nat} {mul : Nat → Nat → Nat} (h : Kd p k g q mul) (a b : Nat) (ha : a < q) (hb : b < q) (w : World) :
    Calls Tryz.prog 121 #[.agg #[.int .i64 p, .int .i64 k, .int .i64 g], .int .i64 a, .int .i64 b] w (Gives (.int .i64 (mul a b : Nat)) w) := by
  have hK := h
  have HQ := hide h.big
  cases h with
  | one _ _ h3 h =>
    have e2 : ((q : Int) != 2) = true := by simp; omega
    have hab : (a : Int) * (b : Int) ≤ 1042441 := mul_bd (by omega) (by omega)
    have hab0 : 0 ≤ (a : Int) * (b : Int) := Int.mul_nonneg (by omega) (by omega)
    go_enter Tryz.func121, Tryz.ntmps121
    go_wp2_with fail
    go_ret
    exact ⟨ret_int (mod_mul1 q a b), (Box.start w 25 _ _ g).2⟩
  | two K G h3 h8 hG hG2 =>
    have HP := hide hG
    have HP2 := hide hG2
    have HS := hide (pow_small h3 h8)
    clear hG hG2
    go_enter Tryz.func121, Tryz.ntmps121
    go_wp2_with fail
    go_loopw [7, 8] (fun s i wr => ∃ (j r : Nat) (kk : Int), j ≤ K ∧ kk = (j : Int) - 1 ∧ i = .int .i64 kk ∧ s = .int .i64 r ∧ Hid (r = tm K G (K - j) a (b / 2 ^ j)) ∧ Box w wr 25 2 K G) (fun _ i _ => (intOf i + 1).toNat)
    case atStart => exact ⟨K, 0, _, Nat.le_refl _, rfl, rfl, rfl, by simp [Hid, tm], Box.start w _ _ _ _⟩
    case round =>
      obtain ⟨j, r, kk, hj, hkk, rfl, rfl, HR, HX⟩ := hrel
      have HX := hide HX
      obtain ⟨c0, c1, c2⟩ := HX.out.cells
      have hr : r < 2 ^ K := by rw [HR.out]; exact tm_lt HP HP2 _ _ _ ha
      have hr2 : r < 256 := by have := HS.out; omega
      by_cases hj0 : j = 0
      · subst hj0
        obtain rfl : kk = -1 := by omega
        have HF := hide (show ((mul2 K G a b : Nat) : Int) = (r : Int) by rw [HR.out]; simp [mul2])
        clear HR hr hkk
        go_wp2_with fail
        go_ret
        exact ⟨ret_int HF, HX.out.2⟩
      · obtain ⟨i, rfl⟩ : ∃ i, j = i + 1 := ⟨j - 1, by omega⟩
        obtain rfl : kk = (i : Int) := by omega
        clear hkk
        by_cases h1 : (2 : Int) ^ K ≤ (r : Int) * 2
        · rcases h2 : (bits .and .i64 ((b : Int) / 2 ^ i) 1 == 1) with _ | _
          · have HV := hide (prodB hj h8 HP HP2 ha hb hr h1 h2)
            clear hr
            go_wp2_with fail
            refine (implSize hK _).mono ?_
            rintro e w1 ⟨rfl, hb1⟩
            have HX1 := hide (HX.out.next hb1)
            obtain ⟨d0, d1, d2⟩ := HX1.out.cells
            clear hb1 c0 c1 c2
            go_wp2_with fail
            go_roundw
            case rel => exact prod_rel hj HR HV HX1
            case measure => simp [intOf]
          · have HV := hide (prodA hj h8 HP HP2 ha hb hr h1 h2)
            clear hr
            go_wp2_with fail
            refine (implSize hK _).mono ?_
            rintro e w1 ⟨rfl, hb1⟩
            have HX1 := hide (HX.out.next hb1)
            obtain ⟨d0, d1, d2⟩ := HX1.out.cells
            clear hb1 c0 c1 c2
            go_wp2_with fail
            go_roundw
            case rel => exact prod_rel hj HR HV HX1
            case measure => simp [intOf]
        · have h1' : decide ((2 : Int) ^ K ≤ (r : Int) * 2) = false := by simpa using h1
          have h1'' : (r : Int) * 2 < (2 : Int) ^ K := by omega
          rcases h2 : (bits .and .i64 ((b : Int) / 2 ^ i) 1 == 1) with _ | _
          · have HV := hide (prodD hj h8 HP HP2 ha hb hr h1'' h2)
            clear hr
            go_wp2_with fail
            refine (implSize hK _).mono ?_
            rintro e w1 ⟨rfl, hb1⟩
            have HX1 := hide (HX.out.next hb1)
            obtain ⟨d0, d1, d2⟩ := HX1.out.cells
            clear hb1 c0 c1 c2
            go_wp2_with fail
            go_roundw
            case rel => exact prod_rel hj HR HV HX1
            case measure => simp [intOf]
          · have HV := hide (prodC hj h8 HP HP2 ha hb hr h1'' h2)
            clear hr
            go_wp2_with fail
            refine (implSize hK _).mono ?_
            rintro e w1 ⟨rfl, hb1⟩
            have HX1 := hide (HX.out.next hb1)
            obtain ⟨d0, d1, d2⟩ := HX1.out.cells
            clear hb1 c0 c1 c2
            go_wp2_with fail
            go_roundw
            case rel => exact prod_rel hj HR HV HX1
            case measure => simp [intOf]
end Go.Proofs.YtlphodhecaagbaaGreat

namespace Go.Proofs.YtlphodhecaagbaaGreat
open Go.RowKit
set_option linter.unusedSimpArgs false

theorem sq_bd {d : Nat} (hd : d ≤ 40) : (d : Int) * (d : Int) ≤ 1600 ∧ 0 ≤ (d : Int) * (d : Int) := by
  have h : ((d * d : Nat) : Int) ≤ ((40 * 40 : Nat) : Int) := Int.ofNat_le.2 (Nat.mul_le_mul hd hd)
  rw [Int.natCast_mul] at h
  exact ⟨h, Int.mul_nonneg (by omega) (by omega)⟩
theorem root_bd {n d : Nat} (hn : n ≤ 1021) (h : d * d ≤ n) : d ≤ 31 := by
  rcases Nat.lt_or_ge d 32 with h1 | h1
  · omega
  · have := Nat.mul_le_mul h1 h1; omega

set_option maxHeartbeats 400000 in
theorem implPrime (n : Nat) (hn : n ≤ 1021) (w : World) :
    Calls Tryz.prog 147 #[.int .i64 n] w fun e w' => e = .returned (.bool (primeB n)) ∧ w = w' := by
  go_enter Tryz.func147, Tryz.ntmps147
  go_wp2
  go_loop [3] (fun i => ∃ d : Nat, 2 ≤ d ∧ d ≤ 32 ∧ i = .int .i64 d ∧ Hid (∀ e, e < d → 2 ≤ e → n % e ≠ 0)) (fun i => 33 - (intOf i).toNat)
  case atStart => exact ⟨2, by omega, by omega, rfl, fun e h1 h2 => by omega⟩
  case round =>
    obtain ⟨d, h2, h32, rfl, HD⟩ := hrel
    obtain ⟨hs1, hs0⟩ := sq_bd (d := d) (by omega)
    by_cases hle : d * d ≤ n
    · have hle' : (d : Int) * (d : Int) ≤ (n : Int) := by have := Int.ofNat_le.2 hle; rwa [Int.natCast_mul] at this
      have h31 := root_bd hn hle
      by_cases hm : n % d = 0
      · have HN := hide (primeB_no h2 hle hm)
        have hm' : ((n : Int) % (d : Int) == 0) = true := by rw [← Int.natCast_emod, hm]; rfl
        clear hm hle
        go_wp2
        go_ret
        exact ⟨ret_bool HN, rfl⟩
      · have hm' : ((n : Int) % (d : Int) == 0) = false := by
          rw [← Int.natCast_emod]; simp; omega
        have HM := hide hm
        clear hm hle
        go_wp2
        go_round
        case rel => exact ⟨d + 1, by omega, by omega, by go_num, fun e h1 h2 => by
          rcases Nat.lt_or_ge e d with h3 | h3
          · exact HD.out e h3 h2
          · rw [show e = d by omega]; exact HM⟩
        case measure => simp [intOf]; omega
    · have hle' : decide ((d : Int) * (d : Int) ≤ (n : Int)) = false := by
        simp only [decide_eq_false_iff_not]
        intro h; exact hle (by rw [← Int.natCast_mul] at h; exact Int.ofNat_le.1 h)
      have HY := hide (primeB_yes (by omega) HD)
      clear hle
      go_wp2
      go_ret
      exact ⟨ret_bool HY, rfl⟩

def GenRel (w : World) (p k g : Int) (q : Nat) (mul : Nat → Nat → Nat) (a : Nat) (s i : Value) (wr : World) : Prop :=
  ∃ j x : Nat, j ≤ q - 2 ∧ i = .int .i64 j ∧ s = .int .i64 x ∧ x < q ∧ Hid (x = pw mul a (j + 1)) ∧ Hid (∀ e, e ≤ j → 1 ≤ e → pw mul a e ≠ 1) ∧ Box w wr 25 p k g

set_option maxHeartbeats 1000000 in
theorem implGen {p k g : Int} {q : Nat} {mul : Nat → Nat → Nat} (h : Kd p k g q mul) (a : Nat) (ha : a < q) (w : World) :
    Calls Tryz.prog 127 #[.agg #[.int .i64 p, .int .i64 k, .int .i64 g], .int .i64 a] w (Gives (.bool (gen q mul a)) w) := by
  obtain ⟨hq3, hq⟩ := h.big
  have M := h.mon
  go_enter Tryz.func127, Tryz.ntmps127
  go_wp2_with fail
  refine (implSize h _).mono ?_
  rintro e w1 ⟨rfl, hb⟩
  have HX := hide ((Box.start w 25 p k g).next hb)
  clear hb
  go_wp2_with fail
  go_loopw [5, 10] (fun s i wr => GenRel w p k g q mul a s i wr) (fun _ i _ => q - (intOf i).toNat)
  case atStart => exact ⟨0, a, by omega, rfl, rfl, ha, by rw [pw_one M ha]; rfl, fun e h1 h2 => by omega, HX⟩
  case round =>
    clear HX
    obtain ⟨j, x, hj, rfl, rfl, hx, HXJ, HE, HX⟩ := hrel
    have HX := hide HX
    obtain ⟨c0, c1, c2⟩ := HX.out.cells
    by_cases hlt : j < q - 2
    · have hlt' : (j : Int) < (q : Int) - 2 := by omega
      by_cases hx1 : x = 1
      · subst hx1
        have HN := hide (gen_no_early M (a := a) (j := j + 1) (by omega) (by omega) HXJ.out.symm)
        go_wp2_with fail
        go_ret
        exact ⟨ret_bool HN, HX.out.2⟩
      · have e1 : ((x : Int) == 1) = false := by simp; omega
        have HN1 := hide hx1
        clear hx1
        go_wp2_with fail
        refine (implProd h x a hx ha _).mono ?_
        rintro e w2 ⟨rfl, hb⟩
        have HX2 := hide (HX.out.next hb)
        clear hb
        go_wp2_with fail
        go_roundw
        case rel => exact ⟨j + 1, mul x a, by omega, by go_num, rfl, M.clo _ _ hx ha, by show _ = mul (pw mul a (j + 1)) a; rw [← HXJ.out], fun e h1 h2 => by
          rcases Nat.lt_or_ge j e with h3 | h3
          · rw [show e = j + 1 by omega, ← HXJ.out]; exact HN1
          · exact HE.out e h3 h2, HX2⟩
        case measure => simp [intOf]; omega
    · have hlt' : decide ((j : Int) < (q : Int) - 2) = false := by simp; omega
      obtain rfl : j = q - 2 := by omega
      by_cases hx1 : x = 1
      · subst hx1
        have HN := hide (gen_yes M (a := a) (by rw [show q - 1 = q - 2 + 1 by omega]; exact HXJ.out.symm) (fun e h1 h2 => HE.out e (by omega) h2))
        go_wp2_with fail
        go_ret
        exact ⟨ret_bool HN, HX.out.2⟩
      · have e1 : ((x : Int) == 1) = false := by simp; omega
        have HN := hide (gen_no_last M (a := a) (by rw [show q - 1 = q - 2 + 1 by omega, ← HXJ.out]; exact hx1))
        clear hx1
        go_wp2_with fail
        go_ret
        exact ⟨ret_bool HN, HX.out.2⟩

def LeastRel (w : World) (p k g : Int) (q : Nat) (mul : Nat → Nat → Nat) (i : Value) (wr : World) : Prop :=
  ∃ a : Nat, 1 ≤ a ∧ a ≤ q ∧ i = .int .i64 a ∧ Hid (∀ j, j < a → 1 ≤ j → gen q mul j = false) ∧ Box w wr 25 p k g

set_option maxHeartbeats 1000000 in
theorem implLeast (q : Nat) (g : Int) (h3 : 3 ≤ q) (hq : q ≤ 1021) (w : World) :
    Calls Tryz.prog 125 #[.agg #[.int .i64 q, .int .i64 1, .int .i64 g]] w (Gives (.int .i64 (least q (mul1 q) : Nat)) w) := by
  have h : Kd q 1 g q (mul1 q) := Kd.one q g h3 hq
  go_enter Tryz.func125, Tryz.ntmps125
  go_wp2_with fail
  go_loopw [3] (fun i wr => LeastRel w q 1 g q (mul1 q) i wr) (fun i _ => q - (intOf i).toNat)
  case atStart => exact ⟨1, by omega, by omega, rfl, fun e h1 h2 => by omega, Box.start w _ _ _ _⟩
  case round =>
    obtain ⟨a, h1, ha, rfl, HE, HX⟩ := hrel
    have HX := hide HX
    obtain ⟨c0, c1, c2⟩ := HX.out.cells
    by_cases hlt : a < q
    · rcases hg : gen q (mul1 q) a with _ | _
      · have HG := hide hg
        go_wp2_with fail
        refine (implGen h a hlt _).mono ?_
        rintro e w2 ⟨rfl, hb⟩
        have HX2 := hide (HX.out.next hb)
        clear hb
        go_wp2_with fail
        go_roundw
        case rel => exact ⟨a + 1, by omega, by omega, by go_num, fun j hj h1 => by
          rcases Nat.lt_or_ge j a with h3 | h3
          · exact HE.out j h3 h1
          · rw [show j = a by omega]; exact HG, HX2⟩
        case measure => simp [intOf]; omega
      · have HL := hide (show ((least q (mul1 q) : Nat) : Int) = (a : Int) by rw [least_at hlt h1 hg HE])
        go_wp2_with fail
        refine (implGen h a hlt _).mono ?_
        rintro e w2 ⟨rfl, hb⟩
        have HX2 := hide (HX.out.next hb)
        clear hb
        go_wp2_with fail
        go_ret
        exact ⟨ret_int HL, HX2.out.2⟩
    · have HL := hide (show ((least q (mul1 q) : Nat) : Int) = 0 by rw [least_none (fun j hj h1 => HE.out j (by omega) h1)]; rfl)
      go_wp2_with fail
      go_ret
      exact ⟨ret_int HL, HX.out.2⟩
end Go.Proofs.YtlphodhecaagbaaGreat

namespace Go.Proofs.YtlphodhecaagbaaGreat
open Go.RowKit
set_option linter.unusedSimpArgs false

set_option maxHeartbeats 400000 in
theorem implFirst (p k g : Int) (w : World) :
    Calls Tryz.prog 124 #[.agg #[.int .i64 p, .int .i64 k, .int .i64 g]] w (Gives (.bool (k1B p k)) w) := by
  have HX := hide (Box.start w 25 p k g)
  by_cases h1 : k = 1
  · subst h1
    by_cases h2 : 3 ≤ p
    · by_cases h3 : p ≤ 1021
      · obtain ⟨P, rfl⟩ : ∃ P : Nat, p = P := ⟨p.toNat, by omega⟩
        have HF := hide (show k1B P 1 = primeB P by
          have : decide ((1 : Int) = 1 ∧ 3 ≤ (P : Int) ∧ (P : Int) ≤ 1021) = true := by simp; omega
          rw [k1B, this, Int.toNat_natCast]; rfl)
        go_enter Tryz.func124, Tryz.ntmps124
        go_wp2_with fail
        refine (implPrime P (by omega) _).mono ?_
        rintro e w1 ⟨rfl, rfl⟩
        go_wp2_with fail
        go_ret
        exact ⟨ret_bool HF, HX.out.2⟩
      · have HF := hide (show k1B p 1 = false by rw [k1B, Bool.and_eq_false_iff]; left; simp; omega)
        have h3' : decide (p ≤ 1021) = false := by simpa using h3
        go_enter Tryz.func124, Tryz.ntmps124
        go_wp2_with fail
        go_ret
        exact ⟨ret_bool HF, HX.out.2⟩
    · have HF := hide (show k1B p 1 = false by rw [k1B, Bool.and_eq_false_iff]; left; simp; omega)
      have h2' : decide (3 ≤ p) = false := by simpa using h2
      go_enter Tryz.func124, Tryz.ntmps124
      go_wp2_with fail
      go_ret
      exact ⟨ret_bool HF, HX.out.2⟩
  · have HF := hide (show k1B p k = false by rw [k1B, Bool.and_eq_false_iff]; left; simp; omega)
    have h1' : (k == 1) = false := by simpa using h1
    go_enter Tryz.func124, Tryz.ntmps124
    go_wp2_with fail
    go_ret
    exact ⟨ret_bool HF, HX.out.2⟩

theorem div_one {g : Int} {K : Nat} : (g / 2 ^ K == 1) = decide (2 ^ K ≤ g ∧ g < 2 ^ (K + 1)) := by
  have hp : (0 : Int) < 2 ^ K := Int.pow_pos (by decide)
  rw [Bool.eq_iff_iff, beq_iff_eq, decide_eq_true_eq, Int.pow_succ]
  generalize (2 : Int) ^ K = d at hp
  constructor
  · intro h
    have h1 := Int.ediv_mul_le g (b := d) (by omega)
    have h2 := Int.lt_ediv_add_one_mul_self g hp
    rw [h] at h1 h2
    omega
  · rintro ⟨h1, h2⟩
    have h3 : 1 ≤ g / d := (Int.le_ediv_iff_mul_le hp).2 (by omega)
    have h4 : g / d < 2 := (Int.ediv_lt_iff_lt_mul hp).2 (by omega)
    omega

set_option maxHeartbeats 400000 in
theorem implSecond (p k g : Int) (w : World) :
    Calls Tryz.prog 126 #[.agg #[.int .i64 p, .int .i64 k, .int .i64 g]] w (Gives (.bool (k2B p k g)) w) := by
  have HX := hide (Box.start w 25 p k g)
  by_cases h1 : p = 2
  · subst h1
    by_cases h2 : 3 ≤ k
    · by_cases h3 : k ≤ 8
      · obtain ⟨K, rfl⟩ : ∃ K : Nat, k = K := ⟨k.toNat, by omega⟩
        have HF := hide (show k2B 2 K g = (g / 2 ^ K == 1) by
          rw [div_one, k2B, Int.toNat_natCast, decide_eq_decide]
          exact ⟨fun h => ⟨h.2.2.2.1, h.2.2.2.2⟩, fun h => ⟨rfl, h2, h3, h.1, h.2⟩⟩)
        go_enter Tryz.func126, Tryz.ntmps126
        go_wp2_with fail
        go_ret
        exact ⟨ret_bool HF, HX.out.2⟩
      · have HF := hide (show k2B 2 k g = false by rw [k2B, decide_eq_false_iff_not]; omega)
        have h3' : decide (k ≤ 8) = false := by simpa using h3
        go_enter Tryz.func126, Tryz.ntmps126
        go_wp2_with fail
        go_ret
        exact ⟨ret_bool HF, HX.out.2⟩
    · have HF := hide (show k2B 2 k g = false by rw [k2B, decide_eq_false_iff_not]; omega)
      have h2' : decide (3 ≤ k) = false := by simpa using h2
      go_enter Tryz.func126, Tryz.ntmps126
      go_wp2_with fail
      go_ret
      exact ⟨ret_bool HF, HX.out.2⟩
  · have HF := hide (show k2B p k g = false by rw [k2B, decide_eq_false_iff_not]; omega)
    have h1' : (p == 2) = false := by simpa using h1
    go_enter Tryz.func126, Tryz.ntmps126
    go_wp2_with fail
    go_ret
    exact ⟨ret_bool HF, HX.out.2⟩

set_option maxHeartbeats 1000000 in
theorem implValid (p k g : Int) (w : World) :
    Calls Tryz.prog 94 #[.agg #[.int .i64 p, .int .i64 k, .int .i64 g]] w (Gives (.bool (fieldB p k g)) w) := by
  have HX := hide (Box.start w 25 p k g)
  rcases h1 : k1B p k with _ | _
  · rcases h2 : k2B p k g with _ | _
    · have HF := hide (fieldB_0 h1 h2)
      go_enter Tryz.func94, Tryz.ntmps94
      go_wp2_with fail
      refine (implFirst p k g _).mono ?_
      rintro e w1 ⟨rfl, hb⟩
      have HX1 := hide (HX.out.next hb)
      obtain ⟨c0, c1, c2⟩ := HX1.out.cells
      clear hb
      go_wp2_with fail
      refine (implSecond p k g _).mono ?_
      rintro e w2 ⟨rfl, hb⟩
      have HX2 := hide (HX1.out.next hb)
      clear hb c0 c1 c2
      go_wp2_with fail
      go_ret
      exact ⟨ret_bool HF, HX2.out.2⟩
    · obtain ⟨K, G, rfl, rfl, rfl, h3, h8, hG, hG2⟩ := k2_open h2
      have HF := hide (fieldB_2 h3 h8 hG hG2)
      have HK := Kd.two K G h3 h8 hG hG2
      have h2q : 2 < 2 ^ K := by have := pow_small h3 h8; omega
      clear hG hG2
      go_enter Tryz.func94, Tryz.ntmps94
      go_wp2_with fail
      refine (implFirst _ _ _ _).mono ?_
      rintro e w1 ⟨rfl, hb⟩
      have HX1 := hide (HX.out.next hb)
      obtain ⟨c0, c1, c2⟩ := HX1.out.cells
      clear hb
      go_wp2_with fail
      refine (implSecond _ _ _ _).mono ?_
      rintro e w2 ⟨rfl, hb⟩
      have HX2 := hide (HX1.out.next hb)
      clear hb c0 c1 c2
      obtain ⟨c0, c1, c2⟩ := HX2.out.cells
      go_wp2_with fail
      refine (implGen HK 2 h2q _).mono ?_
      rintro e w3 ⟨rfl, hb⟩
      have HX3 := hide (HX2.out.next hb)
      clear hb c0 c1 c2
      go_wp2_with fail
      go_ret
      exact ⟨ret_bool HF, HX3.out.2⟩
  · obtain ⟨P, rfl, rfl, h3, h4, hp⟩ := k1_open h1
    have HF := hide (fieldB_1 (g := g) h3 h4 hp)
    clear hp
    go_enter Tryz.func94, Tryz.ntmps94
    go_wp2_with fail
    refine (implFirst _ _ _ _).mono ?_
    rintro e w1 ⟨rfl, hb⟩
    have HX1 := hide (HX.out.next hb)
    obtain ⟨c0, c1, c2⟩ := HX1.out.cells
    clear hb
    go_wp2_with fail
    have HC0 := hide c0
    have HC1 := hide c1
    have HC2 := hide c2
    go_region_held3 (fun w' => w'.cell? ⟨w.heap.size, 0, none⟩ = some (.int .i64 (P : Int)) ∧ w'.cell? ⟨w.heap.size, 1, none⟩ = some (.int .i64 1) ∧ w'.cell? ⟨w.heap.size, 2, none⟩ = some (.int .i64 g) ∧ Box w w' 25 P 1 g)
      (first
        | exact ⟨HC0.out, HC1.out, HC2.out, HX1.out.drew⟩
        | (go_split_ands; refine ⟨?_, ?_, ?_, ?_⟩ <;> assumption)
        | exact ⟨HX2.out.cells.1, HX2.out.cells.2.1, HX2.out.cells.2.2, HX2.out⟩)
      (first | (go_at_call 125; refine (implLeast P g h3 h4 _).mono ?_; rintro e w2 ⟨rfl, hb⟩; have HX2 := hide (HX1.out.drew.next hb); clear hb))
    go_wp2_with fail
    go_ret
    exact ⟨ret_bool (by rw [HF.out, Bool.eq_iff_iff]; simp), HX2.out.2⟩
end Go.Proofs.YtlphodhecaagbaaGreat

namespace Go.Proofs.YtlphodhecaagbaaGreat
open Go.RowKit
set_option linter.unusedSimpArgs false

def ElRel (w : World) (p k g : Int) (q n : Nat) (zs : List Int) (i : Value) (wr : World) : Prop :=
  ∃ j : Nat, j ≤ n ∧ i = .int .i64 j ∧ Hid ((zs.take j).all (elB q) = true) ∧ Box w wr 25 p k g

set_option maxHeartbeats 400000 in
theorem implSum {p k g : Int} {q : Nat} {mul : Nat → Nat → Nat} (h : Kd p k g q mul) (a b : Nat) (ha : a < q) (hb : b < q) (w : World) :
    Calls Tryz.prog 105 #[.agg #[.int .i64 p, .int .i64 k, .int .i64 g], .int .i64 a, .int .i64 b] w (Gives (.int .i64 (addF p q a b : Nat)) w) := by
  have HQ := hide h.big
  cases h with
  | one _ _ h3 h =>
    have HX := hide (Box.start w 25 q 1 g)
    have e2 : ((q : Int) == 2) = false := by simp; omega
    go_enter Tryz.func105, Tryz.ntmps105
    go_wp2_with fail
    go_ret
    exact ⟨ret_int (by rw [addF, if_neg (by omega)]; simp), HX.out.2⟩
  | two K G h3 h8 hG hG2 =>
    have HX := hide (Box.start w 25 2 K G)
    have HS := hide (pow_small h3 h8)
    have HV := hide (show ((addF 2 (2 ^ K) a b : Nat) : Int) = bits .xor .i64 (a : Int) (b : Int) by
      have := HS.out
      rw [i64xor _ _ (by omega) (by omega), addF, if_pos rfl])
    go_enter Tryz.func105, Tryz.ntmps105
    go_wp2_with fail
    go_ret
    exact ⟨ret_int HV, HX.out.2⟩

set_option maxHeartbeats 400000 in
theorem implNegative {p k g : Int} {q : Nat} {mul : Nat → Nat → Nat} (h : Kd p k g q mul) (a : Nat) (ha : a < q) (w : World) :
    Calls Tryz.prog 91 #[.agg #[.int .i64 p, .int .i64 k, .int .i64 g], .int .i64 a] w (Gives (.int .i64 (negF p q a : Nat)) w) := by
  have HQ := hide h.big
  cases h with
  | one _ _ h3 h =>
    have HX := hide (Box.start w 25 q 1 g)
    have e2 : ((q : Int) == 2) = false := by simp; omega
    go_enter Tryz.func91, Tryz.ntmps91
    go_wp2_with fail
    go_ret
    exact ⟨ret_int (negF_1 (by omega) ha), HX.out.2⟩
  | two K G h3 h8 hG hG2 =>
    have HX := hide (Box.start w 25 2 K G)
    go_enter Tryz.func91, Tryz.ntmps91
    go_wp2_with fail
    go_ret
    exact ⟨ret_int (by rw [negF, if_pos rfl]), HX.out.2⟩
end Go.Proofs.YtlphodhecaagbaaGreat

namespace Go.Proofs.YtlphodhecaagbaaGreat
open Go.RowKit
set_option linter.unusedSimpArgs false
set_option linter.unusedVariables false

end Go.Proofs.YtlphodhecaagbaaGreat

namespace Go.Proofs.YtlphodhecaagbaaGreat
open Go.RowKit
set_option linter.unusedSimpArgs false
set_option linter.unusedVariables false

/-- The table of the powers of a generator. -/
def tbl (q : Nat) (mul : Nat → Nat → Nat) (γ i : Nat) : Int := if i < q - 1 then (pw mul γ i : Nat) else 0
/-- An array of the table's type reads as t. -/
def Tab (cs : Array Value) (t : Nat → Int) : Prop := cs.size = 1021 ∧ ∀ i, i < 1021 → cs[i]? = some (.int .i64 (t i))

theorem zero_tab : ∃ Z : Array Value, Tab Z (fun _ => 0) ∧ ∀ w, (zeroValue 152).run Tryz.prog w = .ok (.agg Z) w := by
  have h : (Tryz.prog.info? 152).map (fun i => (i.zero, i.size)) = some (some (.agg (Array.replicate 1021 (.int .i64 0))), 1021) := by kernel_rfl
  obtain ⟨h1, h2⟩ := zero_of_info h
  refine ⟨_, ⟨by simp, fun i hi => ?_⟩, h1⟩
  simp [hi]
theorem size_tab : (Tryz.prog.info? 152).map (·.size) = some 1021 := by kernel_rfl

set_option maxHeartbeats 400000 in
theorem implGenerator {p k g : Int} {γ : Nat} (h : (p ≠ 2 ∧ k = 1 ∧ g = γ) ∨ (p = 2 ∧ 3 ≤ k ∧ γ = 2)) (w : World) :
    Calls Tryz.prog 152 #[.agg #[.int .i64 p, .int .i64 k, .int .i64 g]] w (Gives (.int .i64 γ) w) := by
  have HX := hide (Box.start w 25 p k g)
  rcases h with ⟨h1, rfl, rfl⟩ | ⟨rfl, h2, rfl⟩
  · have e1 : (p == 2) = false := by simpa using h1
    go_enter Tryz.func152, Tryz.ntmps152
    go_wp2_with fail
    go_ret
    exact ⟨rfl, HX.out.2⟩
  · go_enter Tryz.func152, Tryz.ntmps152
    go_wp2_with fail
    go_ret
    exact ⟨rfl, HX.out.2⟩

def PowRel (w : World) (p k g : Int) (q : Nat) (mul : Nat → Nat → Nat) (γ : Nat) (Z : Array Value) (s i : Value) (wr : World) : Prop :=
  ∃ (j x : Nat) (cs : Array Value), j ≤ q - 1 ∧ i = .int .i64 j ∧ s = .int .i64 x ∧ x < q ∧ Hid (x = pw mul γ j) ∧ Tab cs (fun i => if i < j then (pw mul γ i : Nat) else 0) ∧
    wr.heap[w.heap.size + 1 + 1]? = some (.cells cs 152 (0, 0)) ∧ wr.heap[w.heap.size + 1]? = some (.cells Z 152 (0, 0)) ∧ Box w wr 25 p k g

theorem tab_put {cs : Array Value} {q : Nat} {mul : Nat → Nat → Nat} {γ j : Nat} (hj : j < 1021) (h : Tab cs (fun i => if i < j then (pw mul γ i : Nat) else 0)) :
    Tab (cs.setIfInBounds j (.int .i64 (pw mul γ j : Nat))) (fun i => if i < j + 1 then (pw mul γ i : Nat) else 0) := by
  refine ⟨by simp [h.1], fun i hi => ?_⟩
  rw [Array.getElem?_setIfInBounds]
  have hs := h.1
  have h2 := h.2 i hi
  by_cases he : j = i
  · subst he
    simp [hs, hj]
  · rw [if_neg he, h2]
    congr 2
    by_cases h3 : i < j
    · simp [h3, show i < j + 1 by omega]
    · simp [h3, show ¬ i < j + 1 by omega]
theorem tab_end {cs : Array Value} {q : Nat} {mul : Nat → Nat → Nat} {γ : Nat} (h : Tab cs (fun i => if i < q - 1 then (pw mul γ i : Nat) else 0)) : Tab cs (tbl q mul γ) := ⟨h.1, fun i hi => by rw [h.2 i hi]; rfl⟩
theorem Tab.one {cs : Array Value} {t : Nat → Int} (h : Tab cs t) : cs.all (·.oneCell') = true := by
  rw [Array.all_eq_true]
  intro i hi
  have := h.2 i (by rw [← h.1]; exact hi)
  rw [Array.getElem?_eq_getElem hi] at this
  injection this with this
  rw [this]; rfl
theorem heap_below {w w' : World} {i : Nat} {o : Obj} (h : w.heap[i]? = some o) (hb : Below w.heap.size w w') : w'.heap[i]? = some o := by
  rw [hb.block i (Array.getElem?_eq_some_iff.1 h).1]; exact h

theorem Box.set {w wr : World} {t : TypeId} {p k g : Int} (h : Box w wr t p k g) (b o : Nat) (v : Value) (hb : w.heap.size < b) : Box w (wr.setCell ⟨b, o, none⟩ v) t p k g :=
  ⟨by rw [heap_setCell_other wr ⟨b, o, none⟩ _ v (by simp; omega)]; exact h.1, h.2.setCell (by simp; omega) v⟩

theorem Below.setRow {B : Nat} {w w' : World} (h : Below B w w') (g : Nat) (cs : Array Value) (hg : B ≤ g) : Below B w (w'.setRow g cs) :=
  ⟨h.os, h.tape, h.output, by simp; exact h.size, fun i hi => (setRow_other w' g i cs (by omega)).trans (h.block i hi)⟩

def TabR (t : Nat → Int) (w : World) (x : Ending) (w' : World) : Prop := ∃ cs : Array Value, x = .returned (.agg cs) ∧ Tab cs t ∧ Below w.heap.size w w'

set_option maxHeartbeats 2000000 in
theorem implPowers {p k g : Int} {q : Nat} {mul : Nat → Nat → Nat} (h : Kd p k g q mul) {γ : Nat} (hγ : γ < q) (hg : (p ≠ 2 ∧ k = 1 ∧ g = γ) ∨ (p = 2 ∧ 3 ≤ k ∧ γ = 2)) (w : World) :
    Calls Tryz.prog 146 #[.agg #[.int .i64 p, .int .i64 k, .int .i64 g]] w (TabR (tbl q mul γ) w) := by
  obtain ⟨hq3, hq⟩ := h.big
  have M := h.mon
  obtain ⟨Z, hZ, hz⟩ := zero_tab
  have HZ := hide hZ
  have HG := hide hg
  clear hZ hg
  go_enter Tryz.func146, Tryz.ntmps146
  go_wp2_with fail
  refine (implSize h _).mono ?_
  rintro e w1 ⟨rfl, hb⟩
  have HX := hide ((((Box.start w 25 p k g).alloc (.cells Z 152)).alloc (.cells Z 152)).next hb)
  have H2 := hide (heap_below (i := w.heap.size + 1 + 1) (o := .cells Z 152 (0, 0)) (by have h1 := heap_alloc_new ((w.alloc (.cells #[.int .i64 p, .int .i64 k, .int .i64 g] 25)).alloc (.cells Z 152)) (.cells Z 152); rw [alloc_size, alloc_size] at h1; exact h1) hb)
  have H1 := hide (heap_below (i := w.heap.size + 1) (o := .cells Z 152 (0, 0)) (by
    have h1 := heap_alloc_new (w.alloc (.cells #[.int .i64 p, .int .i64 k, .int .i64 g] 25)) (.cells Z 152)
    rw [alloc_size] at h1
    exact (Below.heap_alloc _ _ _ (by rw [alloc_size, alloc_size]; omega)).trans h1) hb)
  clear hb
  go_wp2_with fail
  go_loopw [4, 9] (fun s i wr => PowRel w p k g q mul γ Z s i wr) (fun _ i _ => q - (intOf i).toNat)
  case atStart => exact ⟨0, 1, Z, by omega, rfl, rfl, by omega, rfl, ⟨HZ.out.1, fun i hi => by rw [HZ.out.2 i hi]; rfl⟩, H2, H1, HX⟩
  case round =>
    clear HX H1 H2
    obtain ⟨j, x, cs, hj, rfl, rfl, hx, HXJ, HT, H2, H1, HX⟩ := hrel
    have HX := hide HX
    have HT := hide HT
    have H2 := hide H2
    have H1 := hide H1
    obtain ⟨c0, c1, c2⟩ := HX.out.cells
    by_cases hlt : j < q - 1
    · have hlt' : (j : Int) < (q : Int) - 1 := by omega
      have hj1 : j < 1021 := by omega
      have z1 : (j : Int) < 1021 := by omega
      have z0 : (0 : Int) ≤ (j : Int) := by omega
      have hcell : wr.cell? ⟨w.heap.size + 1 + 1, j, none⟩ = some (.int .i64 ((fun i => if i < j then ((pw mul γ i : Nat) : Int) else 0) j)) := (cell_of_row wr _ j _ _ _ H2.out).trans (HT.out.2 j hj1)
      have hfro : wr.frozen? ⟨w.heap.size + 1 + 1, j, none⟩ = false := frozen_of_row wr _ j _ _ H2.out
      go_wp2_with fail
      have HXS := hide (HX.out.set (w.heap.size + 1 + 1) j (.int .i64 (x : Int)) (by omega))
      have H2S := hide (heap_setCell_same wr (w.heap.size + 1 + 1) j cs 152 (.int .i64 (x : Int)) H2.out)
      have H1S := hide ((heap_setCell_other wr ⟨w.heap.size + 1 + 1, j, none⟩ (w.heap.size + 1) (.int .i64 (x : Int)) (by simp)).trans H1.out)
      have HTS := hide (show Tab (cs.setIfInBounds j (.int .i64 (x : Int))) (fun i => if i < j + 1 then (pw mul γ i : Nat) else 0) by rw [HXJ.out]; exact tab_put (q := q) hj1 HT.out)
      generalize hws : wr.setCell ⟨w.heap.size + 1 + 1, j, none⟩ (.int .i64 (x : Int)) = ws at HXS H2S H1S ⊢
      generalize hcs : cs.setIfInBounds j (.int .i64 (x : Int)) = cs' at H2S HTS
      clear hws hcs hcell hfro c0 c1 c2 H1 H2 HT HX
      have HD := hide HXS.out.drew
      obtain ⟨c0, c1, c2⟩ := HXS.out.cells
      go_region_held3 (fun w' => w'.cell? ⟨w.heap.size, 0, none⟩ = some (.int .i64 p) ∧ w'.cell? ⟨w.heap.size, 1, none⟩ = some (.int .i64 k) ∧ w'.cell? ⟨w.heap.size, 2, none⟩ = some (.int .i64 g))
        (first
          | exact ⟨HD.out.cells.1, HD.out.cells.2.1, HD.out.cells.2.2⟩
          | exact ⟨HX2.out.cells.1, HX2.out.cells.2.1, HX2.out.cells.2.2⟩
          | exact ⟨HX3.out.cells.1, HX3.out.cells.2.1, HX3.out.cells.2.2⟩)
        (first
          | (go_at_call 152; refine (implGenerator HG.out _).mono ?_; rintro e w2 ⟨rfl, hb2⟩; have HX2 := hide (HD.out.next hb2); have K2 := hide (heap_below (w := ws.drew) H2S.out hb2); have K1 := hide (heap_below (w := ws.drew) H1S.out hb2); clear hb2)
          | (go_at_call 121; refine (implProd h x γ hx hγ _).mono ?_; rintro e w3 ⟨rfl, hb3⟩; have HX3 := hide (HX2.out.next hb3); have L2 := hide (heap_below K2.out hb3); have L1 := hide (heap_below K1.out hb3); clear hb3))
      go_wp2_with fail
      go_roundw
      case rel => exact ⟨j + 1, mul x γ, cs', by omega, by go_num, rfl, M.clo _ _ hx hγ, by show _ = mul (pw mul γ j) γ; rw [← HXJ.out], HTS, L2, L1, HX3⟩
      case measure => simp [intOf]; omega
    · have hlt' : decide ((j : Int) < (q : Int) - 1) = false := by simp; omega
      have HJ := hide (show j = q - 1 by omega)
      have hzs : cs.size = Z.size := by rw [HT.out.1, HZ.out.1]
      have HS := hide (show (Tryz.prog.info? 152).map (·.size) = some cs.size by rw [HT.out.1]; exact size_tab)
      have HZS := hide hzs.symm
      clear hzs hz
      go_wp2_with (first
        | (with_reducible refine wpList_load_row rfl 152 (.tmp 3) rfl (w.heap.size + 1 + 1) rfl 152 cs (0, 0) _ H2.out Tryz.underlying152 rfl HS.out ?_)
        | (with_reducible refine wpList_store_row rfl 152 (.tmp 2) (.tmp 21) rfl (w.heap.size + 1) cs rfl rfl 152 Z H1.out HS.out HZS.out HT.out.one ?_))
      have HR := hide (setRow_heap wr (w.heap.size + 1) Z cs 152 _ H1.out)
      refine bodyPost_ret (v := .agg cs) (results_cell_row Tryz.results146 _ _ (w.heap.size + 1) 152 cs _ _ rfl HR.out Tryz.underlying152 rfl HS.out) rfl ⟨cs, rfl, ?_, ?_⟩
      · have h1 := HT.out
        rw [HJ.out] at h1
        exact tab_end h1
      · exact Go.Proofs.YtlphodhecaagbaaGreat.Below.setRow HX.out.2 _ _ (by omega)
end Go.Proofs.YtlphodhecaagbaaGreat

namespace Go.Proofs.YtlphodhecaagbaaGreat
open Go.RowKit
set_option linter.unusedSimpArgs false
set_option linter.unusedVariables false

theorem run_index_tab {cs : Array Value} {t : Nat → Int} (h : Tab cs t) (j : Nat) (hj : j < 1021) (w : World) :
    (Instr.index 152 (.agg cs) (.int .i64 (j : Int))).run Tryz.prog w = .ok (.int .i64 (t j)) w := by
  have hi : (Tryz.prog.info? 2).map (fun i => i.size) = some 1 := by kernel_rfl
  have hs : (sizeOf 2).run Tryz.prog w = .ok 1 w := by
    cases hq : Tryz.prog.info? 2 with
    | none => simp [hq] at hi
    | some i => simp [hq] at hi; simp [sizeOf, typeInfo, hq, hi]
  have hagg : (isAgg 2).run Tryz.prog w = .ok false w := by
    unfold isAgg
    rw [Sem.run_bind, run_underlying Tryz.underlying2 w]
    rfl
  have h1 : (0 : Int) ≤ (j : Int) ∧ (j : Int) < 1021 := by omega
  have h2 := h.2 j hj
  simp [Instr.index, asIntOf, run_underlying Tryz.underlying152, h1, hs, part, hagg, h2]
  intro hc
  omega

def LogRel (w : World) (cs : Array Value) (l : Nat) (i : Value) : Prop := ∃ j : Nat, j ≤ l ∧ i = .int .i64 j

set_option maxHeartbeats 1000000 in
theorem implLogm {q : Nat} {mul : Nat → Nat → Nat} (M : Mon q mul) (hq : q ≤ 1021) {γ : Nat} (hγ : γ < q) (hgen : gen q mul γ = true) {cs : Array Value} (hT : Tab cs (tbl q mul γ)) (a l : Nat) (hl : l < q - 1) (ha : pw mul γ l = a) (w : World) :
    Calls Tryz.prog 151 #[.agg cs, .int .i64 a] w (Gives (.int .i64 l) w) := by
  have HT := hide hT
  have HA := hide ha
  have HGN := hide hgen
  have HS := hide (show (Tryz.prog.info? 152).map (·.size) = some cs.size by rw [hT.1]; exact size_tab)
  have HH := hide (heap_alloc_new w (.cells cs 152 (0, 0)))
  clear hT ha hgen
  go_enter Tryz.func151, Tryz.ntmps151
  go_wp2_with (first
    | (with_reducible refine wpList_load_row rfl 152 (.tmp 2) rfl w.heap.size rfl 152 cs (0, 0) _ HH.out Tryz.underlying152 rfl HS.out ?_))
  go_loop [8] (fun i => LogRel w cs l i) (fun i => l + 1 - (intOf i).toNat)
  case atStart => exact ⟨0, by omega, rfl⟩
  case round =>
    obtain ⟨j, hj, rfl⟩ := hrel
    have z1 : (j : Int) < 1021 := by omega
    have z0 : (0 : Int) ≤ (j : Int) := by omega
    have hix := run_index_tab HT.out j (by omega)
    have ht : tbl q mul γ j = ((pw mul γ j : Nat) : Int) := by rw [tbl, if_pos (by omega)]
    rw [ht] at hix
    clear ht
    by_cases hjl : j = l
    · subst hjl
      rw [HA.out] at hix
      go_wp2_with fail
      go_ret
      exact ⟨rfl, (Below.refl _ _).alloc (Nat.le_refl _) _⟩
    · have hne : pw mul γ j ≠ a := by rw [← HA.out]; exact gen_inj M hγ HGN.out (by omega) hl (by omega)
      generalize pw mul γ j = x at hix hne
      have e1 : ((x : Int) == (a : Int)) = false := by simp; omega
      clear hne
      go_wp2_with fail
      go_round
      case rel => exact ⟨j + 1, by omega, by go_num⟩
      case measure => simp [intOf]; omega

theorem wrap_mul {l n : Nat} (hl : l ≤ 1021) (hn : n ≤ 1000000) : IntKind.i64.wrap ((l : Int) * (n : Int)) = ((l * n : Nat) : Int) := by
  have h : l * n ≤ 1021 * 1000000 := Nat.mul_le_mul hl hn
  rw [← Int.natCast_mul]
  generalize l * n = y at h
  exact IntWalk.i64_in _ ⟨by omega, by omega⟩
theorem row_below {w w' : World} {b : Nat} {cs : Array Value} {t : TypeId} {fr : Nat × Nat} (h : w.heap[b]? = some (.cells cs t fr)) : w.rangeAt b 0 cs.toList := fun j v hv => by
  rw [Nat.zero_add, cell_of_row w b j cs t fr h]
  simpa using hv

theorem Box.setRow {w wr : World} {t : TypeId} {p k g : Int} (h : Box w wr t p k g) (b : Nat) (cs : Array Value) (hb : w.heap.size < b) : Box w (wr.setRow b cs) t p k g :=
  ⟨by rw [setRow_other wr b _ cs (by omega)]; exact h.1, Go.Proofs.YtlphodhecaagbaaGreat.Below.setRow h.2 b cs (by omega)⟩

set_option maxRecDepth 8000 in
set_option maxHeartbeats 2000000 in
theorem implPower {p k g : Int} {q : Nat} {mul : Nat → Nat → Nat} (h : Kd p k g q mul) {γ : Nat} (hγ : γ < q) (hgen : gen q mul γ = true) (hg : (p ≠ 2 ∧ k = 1 ∧ g = γ) ∨ (p = 2 ∧ 3 ≤ k ∧ γ = 2)) (a n : Nat) (ha : a < q) (hn : n ≤ 1000000) (w : World) :
    Calls Tryz.prog 145 #[.agg #[.int .i64 p, .int .i64 k, .int .i64 g], .int .i64 a, .int .i64 n] w (Gives (.int .i64 (pw mul a n : Nat)) w) := by
  obtain ⟨hq3, hq⟩ := h.big
  have M := h.mon
  have HX := hide (Box.start w 25 p k g)
  have HG := hide hg
  have HGN := hide hgen
  clear hg hgen
  by_cases hn0 : n = 0
  · subst hn0
    go_enter Tryz.func145, Tryz.ntmps145
    go_wp2_with fail
    go_ret
    exact ⟨rfl, HX.out.2⟩
  · have e0 : ((n : Int) == 0) = false := by simp; omega
    by_cases ha0 : a = 0
    · subst ha0
      have HF := hide (show ((pw mul 0 n : Nat) : Int) = 0 by rw [zero_pw M (by omega)]; rfl)
      go_enter Tryz.func145, Tryz.ntmps145
      go_wp2_with fail
      go_ret
      exact ⟨ret_int HF, HX.out.2⟩
    · have e1 : ((a : Int) == 0) = false := by simp; omega
      obtain ⟨l, hl, hla⟩ := log_exists M hγ HGN.out ha ha0
      obtain ⟨Z, hZ, hz⟩ := zero_tab
      have HZ := hide hZ
      have HLA := hide hla
      have HF := hide (pw_log M hγ HGN.out hla n)
      clear hZ hla hn0 ha0
      go_enter Tryz.func145, Tryz.ntmps145
      go_wp2_with fail
      refine (implPowers h hγ HG.out _).mono ?_
      rintro e w1 ⟨cs, rfl, hT, hb⟩
      have HT := hide hT
      have HX1 := hide (HX.out.next hb)
      have HS := hide (show (Tryz.prog.info? 152).map (·.size) = some cs.size by rw [hT.1]; exact size_tab)
      have HZS := hide (show Z.size = cs.size by rw [hT.1, HZ.out.1])
      have HH := hide (heap_alloc_new w1 (.cells Z 152 (0, 0)))
      clear hT hb
      go_wp2_with (with_reducible refine wpList_store_row rfl 152 (.tmp 7) (.tmp 13) rfl w1.heap.size cs rfl rfl 152 Z HH.out HS.out HZS.out HT.out.one ?_)
      simp only [Act.put]
      have HXA := hide (HX1.out.alloc (.cells Z 152 (0, 0)))
      have HXB := hide (HXA.out.setRow w1.heap.size cs (HX1.out.lt))
      have HR := hide (setRow_heap (w1.alloc (.cells Z 152)) w1.heap.size Z cs 152 _ HH.out)
      have hbl : w1.heap.size < ((w1.alloc (.cells Z 152)).setRow w1.heap.size cs).heap.size := (Array.getElem?_eq_some_iff.1 HR.out).1
      generalize hws : (w1.alloc (.cells Z 152)).setRow w1.heap.size cs = ws at HXB HR hbl ⊢
      generalize hN : w1.heap.size = N at HR hbl ⊢
      clear hws HXA HX1 HH HZS hN hz HZ HX
      have hy : IntKind.i64.wrap ((l : Int) * (n : Int)) = ((l * n : Nat) : Int) := wrap_mul (by omega) hn
      have HM := hide (show l * n % (q - 1) < q - 1 from Nat.mod_lt _ (by omega))
      have hq1 : IntKind.i64.wrap ((q : Int) - 1) = ((q - 1 : Nat) : Int) := by
        rw [IntWalk.i64_in _ ⟨by omega, by omega⟩]; omega
      have hm : (((l * n : Nat) : Int)).tmod ((q - 1 : Nat) : Int) = ((l * n % (q - 1) : Nat) : Int) := by
        rw [Int.tmod_eq_emod_of_nonneg (by omega)]; rfl
      generalize l * n % (q - 1) = m at hm HM HF
      generalize l * n = y at hm hy
      have hq2 : ((q - 1 : Nat) : Int) ≠ 0 := by omega
      have HL := hide hl
      have hm1 : m < 1021 := by have := HM.out; omega
      have HV := hide (show tbl q mul γ m = ((pw mul a n : Nat) : Int) by rw [tbl, if_pos HM.out, HF.out])
      clear hl HM
      generalize ((q - 1 : Nat) : Int) = q1 at hm hq1 hq2
      generalize (y : Int) = Y at hm hy
      have z0 : (0 : Int) ≤ (m : Int) := by omega
      have z1 : (m : Int) < 1021 := by omega
      obtain ⟨cl⟩ := cs
      have HLen := hide (show cl.length = 1021 from HT.out.1)
      have hu := Tryz.underlying152
      have hsz : (Tryz.prog.info? 152).map (·.size) = some cl.length := HS.out
      have HRr := hide (row_below (w' := ws) HR.out)
      have HCm := hide (show ws.cell? ⟨N, m, none⟩ = some (.int .i64 ((pw mul a n : Nat) : Int)) by rw [cell_of_row ws N m _ _ _ HR.out, HT.out.2 m hm1, HV.out])
      obtain ⟨v, hv⟩ : ∃ v : Nat, pw mul a n = v := ⟨_, rfl⟩
      rw [hv] at HCm
      have HVV := hide (show ((pw mul a n : Nat) : Int) = (v : Int) by rw [hv])
      clear hv HV HF
      go_region_held3 (fun w' => w'.rangeAt N 0 cl ∧ w'.cell? ⟨N, m, none⟩ = some (.int .i64 (v : Int)) ∧ w'.cell? ⟨w.heap.size, 0, none⟩ = some (.int .i64 p) ∧ w'.cell? ⟨w.heap.size, 1, none⟩ = some (.int .i64 k) ∧ w'.cell? ⟨w.heap.size, 2, none⟩ = some (.int .i64 g))
        (first
          | exact ⟨HRr.out, HCm.out, HXB.out.drew.cells.1, HXB.out.drew.cells.2.1, HXB.out.drew.cells.2.2⟩
          | exact ⟨row_below (w' := w2) HR2.out, HC2.out, HX2.out.cells.1, HX2.out.cells.2.1, HX2.out.cells.2.2⟩
          | exact ⟨row_below (w' := w3) HR3.out, HC3.out, HX3.out.cells.1, HX3.out.cells.2.1, HX3.out.cells.2.2⟩)
        (first
          | (go_at_call 151; refine (implLogm M hq hγ HGN.out HT.out a l HL.out HLA.out _).mono ?_; rintro e w2 ⟨rfl, hb2⟩; have HX2 := hide (HXB.out.drew.next hb2); have HR2 := hide (heap_below (w := ws.drew) HR.out hb2); have HC2 := hide ((hb2.cell (p := ⟨N, m, none⟩) hbl).trans HCm.out); clear hb2)
          | (go_at_call 95; refine (implSize h _).mono ?_; rintro e w3 ⟨rfl, hb3⟩; have HX3 := hide (HX2.out.next hb3); have HR3 := hide (heap_below HR2.out hb3); have HC3 := hide ((hb3.cell (p := ⟨N, m, none⟩) (Array.getElem?_eq_some_iff.1 HR2.out).1).trans HC2.out); clear hb3))
      go_wp2_with fail
      go_ret
      exact ⟨ret_int HVV, HX3.out.2⟩

set_option maxHeartbeats 1000000 in
theorem implInverse {p k g : Int} {q : Nat} {mul : Nat → Nat → Nat} (h : Kd p k g q mul) {γ : Nat} (hγ : γ < q) (hgen : gen q mul γ = true) (hg : (p ≠ 2 ∧ k = 1 ∧ g = γ) ∨ (p = 2 ∧ 3 ≤ k ∧ γ = 2)) (a : Nat) (ha : a < q) (w : World) :
    Calls Tryz.prog 119 #[.agg #[.int .i64 p, .int .i64 k, .int .i64 g], .int .i64 a] w (Gives (.int .i64 (pw mul a (q - 2) : Nat)) w) := by
  obtain ⟨hq3, hq⟩ := h.big
  have HX := hide (Box.start w 25 p k g)
  have HG := hide hg
  have HGN := hide hgen
  clear hg hgen
  go_enter Tryz.func119, Tryz.ntmps119
  go_wp2_with fail
  have hq1 : IntKind.i64.wrap ((q : Int) - 2) = ((q - 2 : Nat) : Int) := by
    rw [IntWalk.i64_in _ ⟨by omega, by omega⟩]; omega
  have hn : q - 2 ≤ 1000000 := by omega
  obtain ⟨m, hm⟩ : ∃ m : Nat, m = q - 2 := ⟨_, rfl⟩
  rw [← hm] at hq1 hn
  have HM := hide hm
  clear hm
  generalize hws : w.alloc (.cells #[.int .i64 p, .int .i64 k, .int .i64 g] 25) = ws at HX ⊢
  clear hws
  go_region_held3 (fun w' => w'.cell? ⟨w.heap.size, 0, none⟩ = some (.int .i64 p) ∧ w'.cell? ⟨w.heap.size, 1, none⟩ = some (.int .i64 k) ∧ w'.cell? ⟨w.heap.size, 2, none⟩ = some (.int .i64 g))
    (first
      | exact ⟨HX.out.drew.cells.1, HX.out.drew.cells.2.1, HX.out.drew.cells.2.2⟩
      | exact ⟨HX2.out.cells.1, HX2.out.cells.2.1, HX2.out.cells.2.2⟩
      | exact ⟨HX3.out.cells.1, HX3.out.cells.2.1, HX3.out.cells.2.2⟩)
    (first
      | (go_at_call 95; refine (implSize h _).mono ?_; rintro e w2 ⟨rfl, hb2⟩; have HX2 := hide (HX.out.drew.next hb2); clear hb2)
      | (go_at_call 145; refine (implPower h hγ HGN.out HG.out a m ha hn _).mono ?_; rintro e w3 ⟨rfl, hb3⟩; have HX3 := hide (HX2.out.next hb3); clear hb3))
  go_wp2_with fail
  go_ret
  exact ⟨ret_int (by rw [HM.out]), HX3.out.2⟩

theorem inv_cases (p k g a : Int) : (∃ c : Int, invC p k g a = c ∧ (c != 0) = true ∧ c ≠ 0) ∨ ∃ (x q : Nat) (mul : Nat → Nat → Nat) (γ : Nat), invC p k g a = 0 ∧ a = x ∧ x ≠ 0 ∧ x < q ∧ Kd p k g q mul ∧ 1 ≤ γ ∧ γ < q ∧ gen q mul γ = true ∧ genF p g = γ ∧ ((p ≠ 2 ∧ k = 1 ∧ g = γ) ∨ (p = 2 ∧ 3 ≤ k ∧ γ = 2)) := by
  rcases err1 p k g a with ⟨c, hc, hne, hne'⟩ | ⟨x, q, mul, γ, hc, rfl, hx, hK, h1, h2, h3, h4, h5⟩
  · exact .inl ⟨c, invC_bad hc hne', hne, hne'⟩
  · by_cases hx0 : x = 0
    · subst hx0
      exact .inl ⟨5, invC_zero hc, rfl, by decide⟩
    · exact .inr ⟨x, q, mul, γ, invC_ok hc (by omega), rfl, hx0, hx, hK, h1, h2, h3, h4, h5⟩

end Go.Proofs.YtlphodhecaagbaaGreat
