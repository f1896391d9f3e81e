/-
  The contracts of the program's smallest functions of fields.
  Condition: the field is of one of both kinds.
-/
import Derived.Test.YtncgeoliboidhaaProg
import Derived.Test.YtncgeoliboidhaaFKind
namespace Go.Proofs.Ytncgeoliboidhaa
open Go.RowKit
set_option linter.unusedSimpArgs false
set_option linter.unusedSectionVars false

set_option maxHeartbeats 400000 in
theorem implSize {p k g : Int} {q : Nat} {mul : Nat → Nat → Nat} (h : Kd p k g q mul) (w : World) :
    Calls Try.prog 74 #[.agg #[.int .i64 p, .int .i64 k, .int .i64 g]] w (Gives (.int .i64 q) w) := by
  cases h with
  | one _ _ h3 h =>
    have e2 : ((q : Int) == 2) = false := by simp; omega
    go_enter Try.func74, Try.ntmps74
    go_wp2_with fail
    go_ret
    exact ⟨rfl, (Below.refl _ _).alloc (Nat.le_refl _) _⟩
  | two K G h3 h8 hG hG2 =>
    clear hG hG2
    obtain ⟨pw, hpw, he, hp1, hp2⟩ := pow_fits K (by omega)
    have HE := hide he
    clear he
    go_enter Try.func74, Try.ntmps74
    go_wp2_with fail
    go_ret
    exact ⟨ret_int (by rw [hpw, HE.out]; simp), (Below.refl _ _).alloc (Nat.le_refl _) _⟩

theorem mul_bd {a b : Nat} (ha : a ≤ 1021) (hb : b ≤ 1021) : (a : Int) * (b : Int) ≤ 1042441 := by
  have h : ((a * b : Nat) : Int) ≤ ((1021 * 1021 : Nat) : Int) := Int.ofNat_le.2 (Nat.mul_le_mul ha hb)
  rw [Int.natCast_mul] at h
  exact h
theorem mod_mul1 (q a b : Nat) : ((mul1 q a b : Nat) : Int) = (a : Int) * (b : Int) % (q : Int) := by unfold mul1; simp

theorem shr_tm {K G a b j : Nat} (hj : j + 1 ≤ K) : tm K G (K - j) a (b / 2 ^ j) = xt K G (tm K G (K - (j + 1)) a (b / 2 ^ (j + 1))) ^^^ (if (b / 2 ^ j) % 2 = 1 then a else 0) := by
  rw [show K - j = (K - (j + 1)) + 1 by omega, tm, Nat.div_div_eq_div_mul, Nat.pow_succ]

theorem prod_rel {w w1 : World} {t : TypeId} {K G a b i r : Nat} {v : Int} (hi : i + 1 ≤ K) (HR : r = tm K G (K - (i + 1)) a (b / 2 ^ (i + 1))) (hv : v = ((xt K G r ^^^ (if (b / 2 ^ i) % 2 = 1 then a else 0) : Nat) : Int)) (hx : Box w w1 t 2 K G) :
    ∃ (j r' : Nat) (kk : Int), j ≤ K ∧ kk = (j : Int) - 1 ∧ Value.int .i64 ((i : Int) - 1) = .int .i64 kk ∧ Value.int .i64 v = .int .i64 r' ∧ Hid (r' = tm K G (K - j) a (b / 2 ^ j)) ∧ Box w w1 t 2 K G :=
  ⟨i, _, _, by omega, rfl, rfl, by rw [hv], by show _ = _; rw [shr_tm hi, HR], hx⟩
theorem bit_one {b i : Nat} (hb : b < 1024) : (bits .and .i64 ((b : Int) / 2 ^ i) 1 == 1) = decide ((b / 2 ^ i) % 2 = 1) := by
  have hc : ((b : Int) / 2 ^ i) = ((b / 2 ^ i : Nat) : Int) := by simp
  have h1 : b / 2 ^ i ≤ b := Nat.div_le_self _ _
  rw [hc]
  generalize b / 2 ^ i = x at h1
  rw [and1 _ (by omega) (by omega), Bool.eq_iff_iff]
  simp only [beq_iff_eq, decide_eq_true_eq]
  omega
theorem xtI_hi {K G r : Nat} (h8 : K ≤ 8) (hG2 : G < 2 ^ (K + 1)) (hr : r < 2 ^ K) (h1 : (2 : Int) ^ K ≤ (r : Int) * 2) : bits .xor .i64 ((r : Int) * 2) (G : Int) = ((xt K G r : Nat) : Int) := by
  have hp : 2 ^ K ≤ 2 ^ 8 := Nat.pow_le_pow_right (by decide) h8
  have hp1 : 2 ^ (K + 1) = 2 * 2 ^ K := by rw [Nat.pow_succ]; omega
  have h1' : 2 ^ K ≤ 2 * r := by
    have : ((2 ^ K : Nat) : Int) ≤ ((2 * r : Nat) : Int) := by push_cast; omega
    exact Int.ofNat_le.1 this
  have e : (r : Int) * 2 = ((2 * r : Nat) : Int) := by push_cast; omega
  rw [e, i64xor _ _ (by omega) (by omega), xt, top_bit (by omega) h1']
  simp
theorem xtI_lo {K G r : Nat} (h1 : (r : Int) * 2 < (2 : Int) ^ K) : (r : Int) * 2 = ((xt K G r : Nat) : Int) := by
  have h1' : 2 * r < 2 ^ K := by
    have : ((2 * r : Nat) : Int) < ((2 ^ K : Nat) : Int) := by push_cast; omega
    exact Int.ofNat_lt.1 this
  rw [xt_small h1']; push_cast; omega
section
variable {K G a b i r : Nat} (hj : i + 1 ≤ K) (h8 : K ≤ 8) (hG : 2 ^ K ≤ G) (hG2 : G < 2 ^ (K + 1)) (ha : a < 2 ^ K) (hb : b < 2 ^ K) (hr : r < 2 ^ K)
include hj h8 hG hG2 ha hb hr
theorem prod_bd : b < 1024 ∧ a < 1024 ∧ xt K G r < 1024 := by
  have hp : 2 ^ K ≤ 2 ^ 8 := Nat.pow_le_pow_right (by decide) h8
  have := xt_lt hG hG2 hr
  omega
theorem prodA (h1 : (2 : Int) ^ K ≤ (r : Int) * 2) (h2 : (bits .and .i64 ((b : Int) / 2 ^ i) 1 == 1) = true) :
    bits .xor .i64 (bits .xor .i64 ((r : Int) * 2) (G : Int)) (a : Int) = ((xt K G r ^^^ (if (b / 2 ^ i) % 2 = 1 then a else 0) : Nat) : Int) := by
  obtain ⟨b1, b2, b3⟩ := prod_bd hj h8 hG hG2 ha hb hr
  rw [bit_one b1, decide_eq_true_eq] at h2
  rw [xtI_hi h8 hG2 hr h1, i64xor _ _ (by omega) (by omega), if_pos h2]
theorem prodB (h1 : (2 : Int) ^ K ≤ (r : Int) * 2) (h2 : (bits .and .i64 ((b : Int) / 2 ^ i) 1 == 1) = false) :
    bits .xor .i64 ((r : Int) * 2) (G : Int) = ((xt K G r ^^^ (if (b / 2 ^ i) % 2 = 1 then a else 0) : Nat) : Int) := by
  obtain ⟨b1, b2, b3⟩ := prod_bd hj h8 hG hG2 ha hb hr
  rw [bit_one b1, decide_eq_false_iff_not] at h2
  rw [xtI_hi h8 hG2 hr h1, if_neg h2, Nat.xor_zero]
theorem prodC (h1 : (r : Int) * 2 < (2 : Int) ^ K) (h2 : (bits .and .i64 ((b : Int) / 2 ^ i) 1 == 1) = true) :
    bits .xor .i64 ((r : Int) * 2) (a : Int) = ((xt K G r ^^^ (if (b / 2 ^ i) % 2 = 1 then a else 0) : Nat) : Int) := by
  obtain ⟨b1, b2, b3⟩ := prod_bd hj h8 hG hG2 ha hb hr
  rw [bit_one b1, decide_eq_true_eq] at h2
  rw [xtI_lo h1 (G := G), i64xor _ _ (by omega) (by omega), if_pos h2]
theorem prodD (h1 : (r : Int) * 2 < (2 : Int) ^ K) (h2 : (bits .and .i64 ((b : Int) / 2 ^ i) 1 == 1) = false) :
    (r : Int) * 2 = ((xt K G r ^^^ (if (b / 2 ^ i) % 2 = 1 then a else 0) : Nat) : Int) := by
  obtain ⟨b1, b2, b3⟩ := prod_bd hj h8 hG hG2 ha hb hr
  rw [bit_one b1, decide_eq_false_iff_not] at h2
  rw [xtI_lo h1 (G := G), if_neg h2, Nat.xor_zero]
end

set_option maxHeartbeats 1000000 in
theorem implProd {p k g : Int} {q : Nat} {mul : Nat → Nat → Nat} (h : Kd p k g q mul) (a b : Nat) (ha : a < q) (hb : b < q) (w : World) :
    Calls Try.prog 103 #[.agg #[.int .i64 p, .int .i64 k, .int .i64 g], .int .i64 a, .int .i64 b] w (Gives (.int .i64 (mul a b : Nat)) w) := by
  have hK := h
  have HQ := hide h.big
  cases h with
  | one _ _ h3 h =>
    have e2 : ((q : Int) != 2) = true := by simp; omega
    have hab : (a : Int) * (b : Int) ≤ 1042441 := mul_bd (by omega) (by omega)
    have hab0 : 0 ≤ (a : Int) * (b : Int) := Int.mul_nonneg (by omega) (by omega)
    go_enter Try.func103, Try.ntmps103
    go_wp2_with fail
    go_ret
    exact ⟨ret_int (mod_mul1 q a b), (Box.start w 29 _ _ g).2⟩
  | two K G h3 h8 hG hG2 =>
    have HP := hide hG
    have HP2 := hide hG2
    have HS := hide (pow_small h3 h8)
    clear hG hG2
    go_enter Try.func103, Try.ntmps103
    go_wp2_with fail
    go_loopw [7, 8] (fun s i wr => ∃ (j r : Nat) (kk : Int), j ≤ K ∧ kk = (j : Int) - 1 ∧ i = .int .i64 kk ∧ s = .int .i64 r ∧ Hid (r = tm K G (K - j) a (b / 2 ^ j)) ∧ Box w wr 29 2 K G) (fun _ i _ => (intOf i + 1).toNat)
    case atStart => exact ⟨K, 0, _, Nat.le_refl _, rfl, rfl, rfl, by simp [Hid, tm], Box.start w _ _ _ _⟩
    case round =>
      obtain ⟨j, r, kk, hj, hkk, rfl, rfl, HR, HX⟩ := hrel
      have HX := hide HX
      obtain ⟨c0, c1, c2⟩ := HX.out.cells
      have hr : r < 2 ^ K := by rw [HR.out]; exact tm_lt HP HP2 _ _ _ ha
      have hr2 : r < 256 := by have := HS.out; omega
      by_cases hj0 : j = 0
      · subst hj0
        obtain rfl : kk = -1 := by omega
        have HF := hide (show ((mul2 K G a b : Nat) : Int) = (r : Int) by rw [HR.out]; simp [mul2])
        clear HR hr hkk
        go_wp2_with fail
        go_ret
        exact ⟨ret_int HF, HX.out.2⟩
      · obtain ⟨i, rfl⟩ : ∃ i, j = i + 1 := ⟨j - 1, by omega⟩
        obtain rfl : kk = (i : Int) := by omega
        clear hkk
        by_cases h1 : (2 : Int) ^ K ≤ (r : Int) * 2
        · rcases h2 : (bits .and .i64 ((b : Int) / 2 ^ i) 1 == 1) with _ | _
          · have HV := hide (prodB hj h8 HP HP2 ha hb hr h1 h2)
            clear hr
            go_wp2_with fail
            refine (implSize hK _).mono ?_
            rintro e w1 ⟨rfl, hb1⟩
            have HX1 := hide (HX.out.next hb1)
            obtain ⟨d0, d1, d2⟩ := HX1.out.cells
            clear hb1 c0 c1 c2
            go_wp2_with fail
            go_roundw
            case rel => exact prod_rel hj HR HV HX1
            case measure => simp [intOf]
          · have HV := hide (prodA hj h8 HP HP2 ha hb hr h1 h2)
            clear hr
            go_wp2_with fail
            refine (implSize hK _).mono ?_
            rintro e w1 ⟨rfl, hb1⟩
            have HX1 := hide (HX.out.next hb1)
            obtain ⟨d0, d1, d2⟩ := HX1.out.cells
            clear hb1 c0 c1 c2
            go_wp2_with fail
            go_roundw
            case rel => exact prod_rel hj HR HV HX1
            case measure => simp [intOf]
        · have h1' : decide ((2 : Int) ^ K ≤ (r : Int) * 2) = false := by simpa using h1
          have h1'' : (r : Int) * 2 < (2 : Int) ^ K := by omega
          rcases h2 : (bits .and .i64 ((b : Int) / 2 ^ i) 1 == 1) with _ | _
          · have HV := hide (prodD hj h8 HP HP2 ha hb hr h1'' h2)
            clear hr
            go_wp2_with fail
            refine (implSize hK _).mono ?_
            rintro e w1 ⟨rfl, hb1⟩
            have HX1 := hide (HX.out.next hb1)
            obtain ⟨d0, d1, d2⟩ := HX1.out.cells
            clear hb1 c0 c1 c2
            go_wp2_with fail
            go_roundw
            case rel => exact prod_rel hj HR HV HX1
            case measure => simp [intOf]
          · have HV := hide (prodC hj h8 HP HP2 ha hb hr h1'' h2)
            clear hr
            go_wp2_with fail
            refine (implSize hK _).mono ?_
            rintro e w1 ⟨rfl, hb1⟩
            have HX1 := hide (HX.out.next hb1)
            obtain ⟨d0, d1, d2⟩ := HX1.out.cells
            clear hb1 c0 c1 c2
            go_wp2_with fail
            go_roundw
            case rel => exact prod_rel hj HR HV HX1
            case measure => simp [intOf]
end Go.Proofs.Ytncgeoliboidhaa
