/-
  The contracts of the program's smallest functions of fields.
  The contracts of the program's functions that tell whether a field is valid.
  The contracts of the program's functions that tell whether a field is valid, and of IsField and FieldSize.
  The contracts of the program's IsField, FieldSize, FieldAdd, FieldNeg, FieldMul and what tells their errors.
  Condition: as each statement says.
-/
import Derived.Test.YtncgeoliboidhaaGreatProg
import Derived.Test.YtncgeoliboidhaaGreatVA
import Derived.Deep.RegionHeld3
namespace Go.Proofs.YtncgeoliboidhaaGreat
open Go.RowKit
set_option linter.unusedSimpArgs false
set_option linter.unusedSectionVars false

set_option maxHeartbeats 400000 in
theorem implSize {p k g : Int} {q : Nat} {mul : Nat → Nat → Nat} (h : Kd p k g q mul) (w : World) :
    Calls Tryz.prog 63 #[.agg #[.int .i64 p, .int .i64 k, .int .i64 g]] w (Gives (.int .i64 q) w) := by
  cases h with
  | one _ _ h3 h =>
    have e2 : ((q : Int) == 2) = false := by simp; omega
    go_enter Tryz.func63, Tryz.ntmps63
    go_wp2_with fail
    go_ret
    exact ⟨rfl, (Below.refl _ _).alloc (Nat.le_refl _) _⟩
  | two K G h3 h8 hG hG2 =>
    clear hG hG2
    obtain ⟨pw, hpw, he, hp1, hp2⟩ := pow_fits K (by omega)
    have HE := hide he
    clear he
    go_enter Tryz.func63, Tryz.ntmps63
    go_wp2_with fail
    go_ret
    exact ⟨ret_int (by rw [hpw, HE.out]; simp), (Below.refl _ _).alloc (Nat.le_refl _) _⟩

theorem implHasF {p k g : Int} {q : Nat} {mul : Nat → Nat → Nat} (h : Kd p k g q mul) (a : Int) (w : World) :
    Calls Tryz.prog 124 #[.agg #[.int .i64 p, .int .i64 k, .int .i64 g], .int .i64 a] w (Gives (.bool (decide (0 ≤ a ∧ a < q))) w) := by
  by_cases h0 : 0 ≤ a
  · go_enter Tryz.func124, Tryz.ntmps124
    go_wp2_with fail
    refine (implSize h _).mono ?_
    rintro e w1 ⟨rfl, hb⟩
    go_wp2_with fail
    go_ret
    exact ⟨ret_bool (by simp [h0]), (Box.start w 25 p k g).next hb |>.2⟩
  · have h0' : decide (0 ≤ a) = false := by simpa using h0
    go_enter Tryz.func124, Tryz.ntmps124
    go_wp2_with fail
    go_ret
    exact ⟨ret_bool (by simp [h0]), (Box.start w 25 p k g).2⟩

theorem mul_bd {a b : Nat} (ha : a ≤ 1021) (hb : b ≤ 1021) : (a : Int) * (b : Int) ≤ 1042441 := by
  have h : ((a * b : Nat) : Int) ≤ ((1021 * 1021 : Nat) : Int) := Int.ofNat_le.2 (Nat.mul_le_mul ha hb)
  rw [Int.natCast_mul] at h
  exact h
theorem mod_mul1 (q a b : Nat) : ((mul1 q a b : Nat) : Int) = (a : Int) * (b : Int) % (q : Int) := by unfold mul1; simp

theorem shr_tm {K G a b j : Nat} (hj : j + 1 ≤ K) : tm K G (K - j) a (b / 2 ^ j) = xt K G (tm K G (K - (j + 1)) a (b / 2 ^ (j + 1))) ^^^ (if (b / 2 ^ j) % 2 = 1 then a else 0) := by
  rw [show K - j = (K - (j + 1)) + 1 by omega, tm, Nat.div_div_eq_div_mul, Nat.pow_succ]

theorem prod_rel {w w1 : World} {t : TypeId} {K G a b i r : Nat} {v : Int} (hi : i + 1 ≤ K) (HR : r = tm K G (K - (i + 1)) a (b / 2 ^ (i + 1))) (hv : v = ((xt K G r ^^^ (if (b / 2 ^ i) % 2 = 1 then a else 0) : Nat) : Int)) (hx : Box w w1 t 2 K G) :
    ∃ (j r' : Nat) (kk : Int), j ≤ K ∧ kk = (j : Int) - 1 ∧ Value.int .i64 ((i : Int) - 1) = .int .i64 kk ∧ Value.int .i64 v = .int .i64 r' ∧ Hid (r' = tm K G (K - j) a (b / 2 ^ j)) ∧ Box w w1 t 2 K G :=
  ⟨i, _, _, by omega, rfl, rfl, by rw [hv], by show _ = _; rw [shr_tm hi, HR], hx⟩
theorem bit_one {b i : Nat} (hb : b < 1024) : (bits .and .i64 ((b : Int) / 2 ^ i) 1 == 1) = decide ((b / 2 ^ i) % 2 = 1) := by
  have hc : ((b : Int) / 2 ^ i) = ((b / 2 ^ i : Nat) : Int) := by simp
  have h1 : b / 2 ^ i ≤ b := Nat.div_le_self _ _
  rw [hc]
  generalize b / 2 ^ i = x at h1
  rw [and1 _ (by omega) (by omega), Bool.eq_iff_iff]
  simp only [beq_iff_eq, decide_eq_true_eq]
  omega
theorem xtI_hi {K G r : Nat} (h8 : K ≤ 8) (hG2 : G < 2 ^ (K + 1)) (hr : r < 2 ^ K) (h1 : (2 : Int) ^ K ≤ (r : Int) * 2) : bits .xor .i64 ((r : Int) * 2) (G : Int) = ((xt K G r : Nat) : Int) := by
  have hp : 2 ^ K ≤ 2 ^ 8 := Nat.pow_le_pow_right (by decide) h8
  have hp1 : 2 ^ (K + 1) = 2 * 2 ^ K := by rw [Nat.pow_succ]; omega
  have h1' : 2 ^ K ≤ 2 * r := by
    have : ((2 ^ K : Nat) : Int) ≤ ((2 * r : Nat) : Int) := by push_cast; omega
    exact Int.ofNat_le.1 this
  have e : (r : Int) * 2 = ((2 * r : Nat) : Int) := by push_cast; omega
  rw [e, i64xor _ _ (by omega) (by omega), xt, top_bit (by omega) h1']
  simp
theorem xtI_lo {K G r : Nat} (h1 : (r : Int) * 2 < (2 : Int) ^ K) : (r : Int) * 2 = ((xt K G r : Nat) : Int) := by
  have h1' : 2 * r < 2 ^ K := by
    have : ((2 * r : Nat) : Int) < ((2 ^ K : Nat) : Int) := by push_cast; omega
    exact Int.ofNat_lt.1 this
  rw [xt_small h1']; push_cast; omega
section
variable {K G a b i r : Nat} (hj : i + 1 ≤ K) (h8 : K ≤ 8) (hG : 2 ^ K ≤ G) (hG2 : G < 2 ^ (K + 1)) (ha : a < 2 ^ K) (hb : b < 2 ^ K) (hr : r < 2 ^ K)
include hj h8 hG hG2 ha hb hr
theorem prod_bd : b < 1024 ∧ a < 1024 ∧ xt K G r < 1024 := by
  have hp : 2 ^ K ≤ 2 ^ 8 := Nat.pow_le_pow_right (by decide) h8
  have := xt_lt hG hG2 hr
  omega
theorem prodA (h1 : (2 : Int) ^ K ≤ (r : Int) * 2) (h2 : (bits .and .i64 ((b : Int) / 2 ^ i) 1 == 1) = true) :
    bits .xor .i64 (bits .xor .i64 ((r : Int) * 2) (G : Int)) (a : Int) = ((xt K G r ^^^ (if (b / 2 ^ i) % 2 = 1 then a else 0) : Nat) : Int) := by
  obtain ⟨b1, b2, b3⟩ := prod_bd hj h8 hG hG2 ha hb hr
  rw [bit_one b1, decide_eq_true_eq] at h2
  rw [xtI_hi h8 hG2 hr h1, i64xor _ _ (by omega) (by omega), if_pos h2]
theorem prodB (h1 : (2 : Int) ^ K ≤ (r : Int) * 2) (h2 : (bits .and .i64 ((b : Int) / 2 ^ i) 1 == 1) = false) :
    bits .xor .i64 ((r : Int) * 2) (G : Int) = ((xt K G r ^^^ (if (b / 2 ^ i) % 2 = 1 then a else 0) : Nat) : Int) := by
  obtain ⟨b1, b2, b3⟩ := prod_bd hj h8 hG hG2 ha hb hr
  rw [bit_one b1, decide_eq_false_iff_not] at h2
  rw [xtI_hi h8 hG2 hr h1, if_neg h2, Nat.xor_zero]
theorem prodC (h1 : (r : Int) * 2 < (2 : Int) ^ K) (h2 : (bits .and .i64 ((b : Int) / 2 ^ i) 1 == 1) = true) :
    bits .xor .i64 ((r : Int) * 2) (a : Int) = ((xt K G r ^^^ (if (b / 2 ^ i) % 2 = 1 then a else 0) : Nat) : Int) := by
  obtain ⟨b1, b2, b3⟩ := prod_bd hj h8 hG hG2 ha hb hr
  rw [bit_one b1, decide_eq_true_eq] at h2
  rw [xtI_lo h1 (G := G), i64xor _ _ (by omega) (by omega), if_pos h2]
theorem prodD (h1 : (r : Int) * 2 < (2 : Int) ^ K) (h2 : (bits .and .i64 ((b : Int) / 2 ^ i) 1 == 1) = false) :
    (r : Int) * 2 = ((xt K G r ^^^ (if (b / 2 ^ i) % 2 = 1 then a else 0) : Nat) : Int) := by
  obtain ⟨b1, b2, b3⟩ := prod_bd hj h8 hG hG2 ha hb hr
  rw [bit_one b1, decide_eq_false_iff_not] at h2
  rw [xtI_lo h1 (G := G), if_neg h2, Nat.xor_zero]
end

set_option maxHeartbeats 1000000 in
theorem implProd {p k g : Int} {q : Nat} {mul : Nat → Nat → Nat} (h : Kd p k g q mul) (a b : Nat) (ha : a < q) (hb : b < q) (w : World) :
    Calls Tryz.prog 115 #[.agg #[.int .i64 p, .int .i64 k, .int .i64 g], .int .i64 a, .int .i64 b] w (Gives (.int .i64 (mul a b : Nat)) w) := by
  have hK := h
  have HQ := hide h.big
  cases h with
  | one _ _ h3 h =>
    have e2 : ((q : Int) != 2) = true := by simp; omega
    have hab : (a : Int) * (b : Int) ≤ 1042441 := mul_bd (by omega) (by omega)
    have hab0 : 0 ≤ (a : Int) * (b : Int) := Int.mul_nonneg (by omega) (by omega)
    go_enter Tryz.func115, Tryz.ntmps115
    go_wp2_with fail
    go_ret
    exact ⟨ret_int (mod_mul1 q a b), (Box.start w 25 _ _ g).2⟩
  | two K G h3 h8 hG hG2 =>
    have HP := hide hG
    have HP2 := hide hG2
    have HS := hide (pow_small h3 h8)
    clear hG hG2
    go_enter Tryz.func115, Tryz.ntmps115
    go_wp2_with fail
    go_loopw [7, 8] (fun s i wr => ∃ (j r : Nat) (kk : Int), j ≤ K ∧ kk = (j : Int) - 1 ∧ i = .int .i64 kk ∧ s = .int .i64 r ∧ Hid (r = tm K G (K - j) a (b / 2 ^ j)) ∧ Box w wr 25 2 K G) (fun _ i _ => (intOf i + 1).toNat)
    case atStart => exact ⟨K, 0, _, Nat.le_refl _, rfl, rfl, rfl, by simp [Hid, tm], Box.start w _ _ _ _⟩
    case round =>
      obtain ⟨j, r, kk, hj, hkk, rfl, rfl, HR, HX⟩ := hrel
      have HX := hide HX
      obtain ⟨c0, c1, c2⟩ := HX.out.cells
      have hr : r < 2 ^ K := by rw [HR.out]; exact tm_lt HP HP2 _ _ _ ha
      have hr2 : r < 256 := by have := HS.out; omega
      by_cases hj0 : j = 0
      · subst hj0
        obtain rfl : kk = -1 := by omega
        have HF := hide (show ((mul2 K G a b : Nat) : Int) = (r : Int) by rw [HR.out]; simp [mul2])
        clear HR hr hkk
        go_wp2_with fail
        go_ret
        exact ⟨ret_int HF, HX.out.2⟩
      · obtain ⟨i, rfl⟩ : ∃ i, j = i + 1 := ⟨j - 1, by omega⟩
        obtain rfl : kk = (i : Int) := by omega
        clear hkk
        by_cases h1 : (2 : Int) ^ K ≤ (r : Int) * 2
        · rcases h2 : (bits .and .i64 ((b : Int) / 2 ^ i) 1 == 1) with _ | _
          · have HV := hide (prodB hj h8 HP HP2 ha hb hr h1 h2)
            clear hr
            go_wp2_with fail
            refine (implSize hK _).mono ?_
            rintro e w1 ⟨rfl, hb1⟩
            have HX1 := hide (HX.out.next hb1)
            obtain ⟨d0, d1, d2⟩ := HX1.out.cells
            clear hb1 c0 c1 c2
            go_wp2_with fail
            go_roundw
            case rel => exact prod_rel hj HR HV HX1
            case measure => simp [intOf]
          · have HV := hide (prodA hj h8 HP HP2 ha hb hr h1 h2)
            clear hr
            go_wp2_with fail
            refine (implSize hK _).mono ?_
            rintro e w1 ⟨rfl, hb1⟩
            have HX1 := hide (HX.out.next hb1)
            obtain ⟨d0, d1, d2⟩ := HX1.out.cells
            clear hb1 c0 c1 c2
            go_wp2_with fail
            go_roundw
            case rel => exact prod_rel hj HR HV HX1
            case measure => simp [intOf]
        · have h1' : decide ((2 : Int) ^ K ≤ (r : Int) * 2) = false := by simpa using h1
          have h1'' : (r : Int) * 2 < (2 : Int) ^ K := by omega
          rcases h2 : (bits .and .i64 ((b : Int) / 2 ^ i) 1 == 1) with _ | _
          · have HV := hide (prodD hj h8 HP HP2 ha hb hr h1'' h2)
            clear hr
            go_wp2_with fail
            refine (implSize hK _).mono ?_
            rintro e w1 ⟨rfl, hb1⟩
            have HX1 := hide (HX.out.next hb1)
            obtain ⟨d0, d1, d2⟩ := HX1.out.cells
            clear hb1 c0 c1 c2
            go_wp2_with fail
            go_roundw
            case rel => exact prod_rel hj HR HV HX1
            case measure => simp [intOf]
          · have HV := hide (prodC hj h8 HP HP2 ha hb hr h1'' h2)
            clear hr
            go_wp2_with fail
            refine (implSize hK _).mono ?_
            rintro e w1 ⟨rfl, hb1⟩
            have HX1 := hide (HX.out.next hb1)
            obtain ⟨d0, d1, d2⟩ := HX1.out.cells
            clear hb1 c0 c1 c2
            go_wp2_with fail
            go_roundw
            case rel => exact prod_rel hj HR HV HX1
            case measure => simp [intOf]
end Go.Proofs.YtncgeoliboidhaaGreat

namespace Go.Proofs.YtncgeoliboidhaaGreat
open Go.RowKit
set_option linter.unusedSimpArgs false

theorem sq_bd {d : Nat} (hd : d ≤ 40) : (d : Int) * (d : Int) ≤ 1600 ∧ 0 ≤ (d : Int) * (d : Int) := by
  have h : ((d * d : Nat) : Int) ≤ ((40 * 40 : Nat) : Int) := Int.ofNat_le.2 (Nat.mul_le_mul hd hd)
  rw [Int.natCast_mul] at h
  exact ⟨h, Int.mul_nonneg (by omega) (by omega)⟩
theorem root_bd {n d : Nat} (hn : n ≤ 1021) (h : d * d ≤ n) : d ≤ 31 := by
  rcases Nat.lt_or_ge d 32 with h1 | h1
  · omega
  · have := Nat.mul_le_mul h1 h1; omega

set_option maxHeartbeats 400000 in
theorem implPrime (n : Nat) (hn : n ≤ 1021) (w : World) :
    Calls Tryz.prog 114 #[.int .i64 n] w fun e w' => e = .returned (.bool (primeB n)) ∧ w = w' := by
  go_enter Tryz.func114, Tryz.ntmps114
  go_wp2
  go_loop [3] (fun i => ∃ d : Nat, 2 ≤ d ∧ d ≤ 32 ∧ i = .int .i64 d ∧ Hid (∀ e, e < d → 2 ≤ e → n % e ≠ 0)) (fun i => 33 - (intOf i).toNat)
  case atStart => exact ⟨2, by omega, by omega, rfl, fun e h1 h2 => by omega⟩
  case round =>
    obtain ⟨d, h2, h32, rfl, HD⟩ := hrel
    obtain ⟨hs1, hs0⟩ := sq_bd (d := d) (by omega)
    by_cases hle : d * d ≤ n
    · have hle' : (d : Int) * (d : Int) ≤ (n : Int) := by have := Int.ofNat_le.2 hle; rwa [Int.natCast_mul] at this
      have h31 := root_bd hn hle
      by_cases hm : n % d = 0
      · have HN := hide (primeB_no h2 hle hm)
        have hm' : ((n : Int) % (d : Int) == 0) = true := by rw [← Int.natCast_emod, hm]; rfl
        clear hm hle
        go_wp2
        go_ret
        exact ⟨ret_bool HN, rfl⟩
      · have hm' : ((n : Int) % (d : Int) == 0) = false := by
          rw [← Int.natCast_emod]; simp; omega
        have HM := hide hm
        clear hm hle
        go_wp2
        go_round
        case rel => exact ⟨d + 1, by omega, by omega, by go_num, fun e h1 h2 => by
          rcases Nat.lt_or_ge e d with h3 | h3
          · exact HD.out e h3 h2
          · rw [show e = d by omega]; exact HM⟩
        case measure => simp [intOf]; omega
    · have hle' : decide ((d : Int) * (d : Int) ≤ (n : Int)) = false := by
        simp only [decide_eq_false_iff_not]
        intro h; exact hle (by rw [← Int.natCast_mul] at h; exact Int.ofNat_le.1 h)
      have HY := hide (primeB_yes (by omega) HD)
      clear hle
      go_wp2
      go_ret
      exact ⟨ret_bool HY, rfl⟩

def GenRel (w : World) (p k g : Int) (q : Nat) (mul : Nat → Nat → Nat) (a : Nat) (s i : Value) (wr : World) : Prop :=
  ∃ j x : Nat, j ≤ q - 2 ∧ i = .int .i64 j ∧ s = .int .i64 x ∧ x < q ∧ Hid (x = pw mul a (j + 1)) ∧ Hid (∀ e, e ≤ j → 1 ≤ e → pw mul a e ≠ 1) ∧ Box w wr 25 p k g

set_option maxHeartbeats 1000000 in
theorem implGen {p k g : Int} {q : Nat} {mul : Nat → Nat → Nat} (h : Kd p k g q mul) (a : Nat) (ha : a < q) (w : World) :
    Calls Tryz.prog 78 #[.agg #[.int .i64 p, .int .i64 k, .int .i64 g], .int .i64 a] w (Gives (.bool (gen q mul a)) w) := by
  obtain ⟨hq3, hq⟩ := h.big
  have M := h.mon
  go_enter Tryz.func78, Tryz.ntmps78
  go_wp2_with fail
  refine (implSize h _).mono ?_
  rintro e w1 ⟨rfl, hb⟩
  have HX := hide ((Box.start w 25 p k g).next hb)
  clear hb
  go_wp2_with fail
  go_loopw [5, 10] (fun s i wr => GenRel w p k g q mul a s i wr) (fun _ i _ => q - (intOf i).toNat)
  case atStart => exact ⟨0, a, by omega, rfl, rfl, ha, by rw [pw_one M ha]; rfl, fun e h1 h2 => by omega, HX⟩
  case round =>
    clear HX
    obtain ⟨j, x, hj, rfl, rfl, hx, HXJ, HE, HX⟩ := hrel
    have HX := hide HX
    obtain ⟨c0, c1, c2⟩ := HX.out.cells
    by_cases hlt : j < q - 2
    · have hlt' : (j : Int) < (q : Int) - 2 := by omega
      by_cases hx1 : x = 1
      · subst hx1
        have HN := hide (gen_no_early M (a := a) (j := j + 1) (by omega) (by omega) HXJ.out.symm)
        go_wp2_with fail
        go_ret
        exact ⟨ret_bool HN, HX.out.2⟩
      · have e1 : ((x : Int) == 1) = false := by simp; omega
        have HN1 := hide hx1
        clear hx1
        go_wp2_with fail
        refine (implProd h x a hx ha _).mono ?_
        rintro e w2 ⟨rfl, hb⟩
        have HX2 := hide (HX.out.next hb)
        clear hb
        go_wp2_with fail
        go_roundw
        case rel => exact ⟨j + 1, mul x a, by omega, by go_num, rfl, M.clo _ _ hx ha, by show _ = mul (pw mul a (j + 1)) a; rw [← HXJ.out], fun e h1 h2 => by
          rcases Nat.lt_or_ge j e with h3 | h3
          · rw [show e = j + 1 by omega, ← HXJ.out]; exact HN1
          · exact HE.out e h3 h2, HX2⟩
        case measure => simp [intOf]; omega
    · have hlt' : decide ((j : Int) < (q : Int) - 2) = false := by simp; omega
      obtain rfl : j = q - 2 := by omega
      by_cases hx1 : x = 1
      · subst hx1
        have HN := hide (gen_yes M (a := a) (by rw [show q - 1 = q - 2 + 1 by omega]; exact HXJ.out.symm) (fun e h1 h2 => HE.out e (by omega) h2))
        go_wp2_with fail
        go_ret
        exact ⟨ret_bool HN, HX.out.2⟩
      · have e1 : ((x : Int) == 1) = false := by simp; omega
        have HN := hide (gen_no_last M (a := a) (by rw [show q - 1 = q - 2 + 1 by omega, ← HXJ.out]; exact hx1))
        clear hx1
        go_wp2_with fail
        go_ret
        exact ⟨ret_bool HN, HX.out.2⟩

def LeastRel (w : World) (p k g : Int) (q : Nat) (mul : Nat → Nat → Nat) (i : Value) (wr : World) : Prop :=
  ∃ a : Nat, 1 ≤ a ∧ a ≤ q ∧ i = .int .i64 a ∧ Hid (∀ j, j < a → 1 ≤ j → gen q mul j = false) ∧ Box w wr 25 p k g

set_option maxHeartbeats 1000000 in
theorem implLeast (q : Nat) (g : Int) (h3 : 3 ≤ q) (hq : q ≤ 1021) (w : World) :
    Calls Tryz.prog 76 #[.agg #[.int .i64 q, .int .i64 1, .int .i64 g]] w (Gives (.int .i64 (least q (mul1 q) : Nat)) w) := by
  have h : Kd q 1 g q (mul1 q) := Kd.one q g h3 hq
  go_enter Tryz.func76, Tryz.ntmps76
  go_wp2_with fail
  go_loopw [3] (fun i wr => LeastRel w q 1 g q (mul1 q) i wr) (fun i _ => q - (intOf i).toNat)
  case atStart => exact ⟨1, by omega, by omega, rfl, fun e h1 h2 => by omega, Box.start w _ _ _ _⟩
  case round =>
    obtain ⟨a, h1, ha, rfl, HE, HX⟩ := hrel
    have HX := hide HX
    obtain ⟨c0, c1, c2⟩ := HX.out.cells
    by_cases hlt : a < q
    · rcases hg : gen q (mul1 q) a with _ | _
      · have HG := hide hg
        go_wp2_with fail
        refine (implGen h a hlt _).mono ?_
        rintro e w2 ⟨rfl, hb⟩
        have HX2 := hide (HX.out.next hb)
        clear hb
        go_wp2_with fail
        go_roundw
        case rel => exact ⟨a + 1, by omega, by omega, by go_num, fun j hj h1 => by
          rcases Nat.lt_or_ge j a with h3 | h3
          · exact HE.out j h3 h1
          · rw [show j = a by omega]; exact HG, HX2⟩
        case measure => simp [intOf]; omega
      · have HL := hide (show ((least q (mul1 q) : Nat) : Int) = (a : Int) by rw [least_at hlt h1 hg HE])
        go_wp2_with fail
        refine (implGen h a hlt _).mono ?_
        rintro e w2 ⟨rfl, hb⟩
        have HX2 := hide (HX.out.next hb)
        clear hb
        go_wp2_with fail
        go_ret
        exact ⟨ret_int HL, HX2.out.2⟩
    · have HL := hide (show ((least q (mul1 q) : Nat) : Int) = 0 by rw [least_none (fun j hj h1 => HE.out j (by omega) h1)]; rfl)
      go_wp2_with fail
      go_ret
      exact ⟨ret_int HL, HX.out.2⟩
end Go.Proofs.YtncgeoliboidhaaGreat

namespace Go.Proofs.YtncgeoliboidhaaGreat
open Go.RowKit
set_option linter.unusedSimpArgs false

set_option maxHeartbeats 400000 in
theorem implFirst (p k g : Int) (w : World) :
    Calls Tryz.prog 75 #[.agg #[.int .i64 p, .int .i64 k, .int .i64 g]] w (Gives (.bool (k1B p k)) w) := by
  have HX := hide (Box.start w 25 p k g)
  by_cases h1 : k = 1
  · subst h1
    by_cases h2 : 3 ≤ p
    · by_cases h3 : p ≤ 1021
      · obtain ⟨P, rfl⟩ : ∃ P : Nat, p = P := ⟨p.toNat, by omega⟩
        have HF := hide (show k1B P 1 = primeB P by
          have : decide ((1 : Int) = 1 ∧ 3 ≤ (P : Int) ∧ (P : Int) ≤ 1021) = true := by simp; omega
          rw [k1B, this, Int.toNat_natCast]; rfl)
        go_enter Tryz.func75, Tryz.ntmps75
        go_wp2_with fail
        refine (implPrime P (by omega) _).mono ?_
        rintro e w1 ⟨rfl, rfl⟩
        go_wp2_with fail
        go_ret
        exact ⟨ret_bool HF, HX.out.2⟩
      · have HF := hide (show k1B p 1 = false by rw [k1B, Bool.and_eq_false_iff]; left; simp; omega)
        have h3' : decide (p ≤ 1021) = false := by simpa using h3
        go_enter Tryz.func75, Tryz.ntmps75
        go_wp2_with fail
        go_ret
        exact ⟨ret_bool HF, HX.out.2⟩
    · have HF := hide (show k1B p 1 = false by rw [k1B, Bool.and_eq_false_iff]; left; simp; omega)
      have h2' : decide (3 ≤ p) = false := by simpa using h2
      go_enter Tryz.func75, Tryz.ntmps75
      go_wp2_with fail
      go_ret
      exact ⟨ret_bool HF, HX.out.2⟩
  · have HF := hide (show k1B p k = false by rw [k1B, Bool.and_eq_false_iff]; left; simp; omega)
    have h1' : (k == 1) = false := by simpa using h1
    go_enter Tryz.func75, Tryz.ntmps75
    go_wp2_with fail
    go_ret
    exact ⟨ret_bool HF, HX.out.2⟩

theorem div_one {g : Int} {K : Nat} : (g / 2 ^ K == 1) = decide (2 ^ K ≤ g ∧ g < 2 ^ (K + 1)) := by
  have hp : (0 : Int) < 2 ^ K := Int.pow_pos (by decide)
  rw [Bool.eq_iff_iff, beq_iff_eq, decide_eq_true_eq, Int.pow_succ]
  generalize (2 : Int) ^ K = d at hp
  constructor
  · intro h
    have h1 := Int.ediv_mul_le g (b := d) (by omega)
    have h2 := Int.lt_ediv_add_one_mul_self g hp
    rw [h] at h1 h2
    omega
  · rintro ⟨h1, h2⟩
    have h3 : 1 ≤ g / d := (Int.le_ediv_iff_mul_le hp).2 (by omega)
    have h4 : g / d < 2 := (Int.ediv_lt_iff_lt_mul hp).2 (by omega)
    omega

set_option maxHeartbeats 400000 in
theorem implSecond (p k g : Int) (w : World) :
    Calls Tryz.prog 77 #[.agg #[.int .i64 p, .int .i64 k, .int .i64 g]] w (Gives (.bool (k2B p k g)) w) := by
  have HX := hide (Box.start w 25 p k g)
  by_cases h1 : p = 2
  · subst h1
    by_cases h2 : 3 ≤ k
    · by_cases h3 : k ≤ 8
      · obtain ⟨K, rfl⟩ : ∃ K : Nat, k = K := ⟨k.toNat, by omega⟩
        have HF := hide (show k2B 2 K g = (g / 2 ^ K == 1) by
          rw [div_one, k2B, Int.toNat_natCast, decide_eq_decide]
          exact ⟨fun h => ⟨h.2.2.2.1, h.2.2.2.2⟩, fun h => ⟨rfl, h2, h3, h.1, h.2⟩⟩)
        go_enter Tryz.func77, Tryz.ntmps77
        go_wp2_with fail
        go_ret
        exact ⟨ret_bool HF, HX.out.2⟩
      · have HF := hide (show k2B 2 k g = false by rw [k2B, decide_eq_false_iff_not]; omega)
        have h3' : decide (k ≤ 8) = false := by simpa using h3
        go_enter Tryz.func77, Tryz.ntmps77
        go_wp2_with fail
        go_ret
        exact ⟨ret_bool HF, HX.out.2⟩
    · have HF := hide (show k2B 2 k g = false by rw [k2B, decide_eq_false_iff_not]; omega)
      have h2' : decide (3 ≤ k) = false := by simpa using h2
      go_enter Tryz.func77, Tryz.ntmps77
      go_wp2_with fail
      go_ret
      exact ⟨ret_bool HF, HX.out.2⟩
  · have HF := hide (show k2B p k g = false by rw [k2B, decide_eq_false_iff_not]; omega)
    have h1' : (p == 2) = false := by simpa using h1
    go_enter Tryz.func77, Tryz.ntmps77
    go_wp2_with fail
    go_ret
    exact ⟨ret_bool HF, HX.out.2⟩

set_option maxHeartbeats 1000000 in
theorem implValid (p k g : Int) (w : World) :
    Calls Tryz.prog 29 #[.agg #[.int .i64 p, .int .i64 k, .int .i64 g]] w (Gives (.bool (fieldB p k g)) w) := by
  have HX := hide (Box.start w 25 p k g)
  rcases h1 : k1B p k with _ | _
  · rcases h2 : k2B p k g with _ | _
    · have HF := hide (fieldB_0 h1 h2)
      go_enter Tryz.func29, Tryz.ntmps29
      go_wp2_with fail
      refine (implFirst p k g _).mono ?_
      rintro e w1 ⟨rfl, hb⟩
      have HX1 := hide (HX.out.next hb)
      obtain ⟨c0, c1, c2⟩ := HX1.out.cells
      clear hb
      go_wp2_with fail
      refine (implSecond p k g _).mono ?_
      rintro e w2 ⟨rfl, hb⟩
      have HX2 := hide (HX1.out.next hb)
      clear hb c0 c1 c2
      go_wp2_with fail
      go_ret
      exact ⟨ret_bool HF, HX2.out.2⟩
    · obtain ⟨K, G, rfl, rfl, rfl, h3, h8, hG, hG2⟩ := k2_open h2
      have HF := hide (fieldB_2 h3 h8 hG hG2)
      have HK := Kd.two K G h3 h8 hG hG2
      have h2q : 2 < 2 ^ K := by have := pow_small h3 h8; omega
      clear hG hG2
      go_enter Tryz.func29, Tryz.ntmps29
      go_wp2_with fail
      refine (implFirst _ _ _ _).mono ?_
      rintro e w1 ⟨rfl, hb⟩
      have HX1 := hide (HX.out.next hb)
      obtain ⟨c0, c1, c2⟩ := HX1.out.cells
      clear hb
      go_wp2_with fail
      refine (implSecond _ _ _ _).mono ?_
      rintro e w2 ⟨rfl, hb⟩
      have HX2 := hide (HX1.out.next hb)
      clear hb c0 c1 c2
      obtain ⟨c0, c1, c2⟩ := HX2.out.cells
      go_wp2_with fail
      refine (implGen HK 2 h2q _).mono ?_
      rintro e w3 ⟨rfl, hb⟩
      have HX3 := hide (HX2.out.next hb)
      clear hb c0 c1 c2
      go_wp2_with fail
      go_ret
      exact ⟨ret_bool HF, HX3.out.2⟩
  · obtain ⟨P, rfl, rfl, h3, h4, hp⟩ := k1_open h1
    have HF := hide (fieldB_1 (g := g) h3 h4 hp)
    clear hp
    go_enter Tryz.func29, Tryz.ntmps29
    go_wp2_with fail
    refine (implFirst _ _ _ _).mono ?_
    rintro e w1 ⟨rfl, hb⟩
    have HX1 := hide (HX.out.next hb)
    obtain ⟨c0, c1, c2⟩ := HX1.out.cells
    clear hb
    go_wp2_with fail
    have HC0 := hide c0
    have HC1 := hide c1
    have HC2 := hide c2
    go_region_held3 (fun w' => w'.cell? ⟨w.heap.size, 0, none⟩ = some (.int .i64 (P : Int)) ∧ w'.cell? ⟨w.heap.size, 1, none⟩ = some (.int .i64 1) ∧ w'.cell? ⟨w.heap.size, 2, none⟩ = some (.int .i64 g) ∧ Box w w' 25 P 1 g)
      (first
        | exact ⟨HC0.out, HC1.out, HC2.out, HX1.out.drew⟩
        | (go_split_ands; refine ⟨?_, ?_, ?_, ?_⟩ <;> assumption)
        | exact ⟨HX2.out.cells.1, HX2.out.cells.2.1, HX2.out.cells.2.2, HX2.out⟩)
      (first | (go_at_call 76; refine (implLeast P g h3 h4 _).mono ?_; rintro e w2 ⟨rfl, hb⟩; have HX2 := hide (HX1.out.drew.next hb); clear hb))
    go_wp2_with fail
    go_ret
    exact ⟨ret_bool (by rw [HF.out, Bool.eq_iff_iff]; simp), HX2.out.2⟩
end Go.Proofs.YtncgeoliboidhaaGreat

namespace Go.Proofs.YtncgeoliboidhaaGreat
open Go.RowKit
set_option linter.unusedSimpArgs false

def ElRel (w : World) (p k g : Int) (q n : Nat) (zs : List Int) (i : Value) (wr : World) : Prop :=
  ∃ j : Nat, j ≤ n ∧ i = .int .i64 j ∧ Hid ((zs.take j).all (elB q) = true) ∧ Box w wr 25 p k g

end Go.Proofs.YtncgeoliboidhaaGreat
