/-
  The contracts of the model's functions that tell whether a field is valid.
  Condition: none beyond the kinds that each names.
-/
import Derived.Test.YtncgeoliboidhaaFSpec1
import Derived.Test.YtncgeoliboidhaaFImpl2
namespace Go.Proofs.Ytncgeoliboidhaa
open Go.RowKit
set_option linter.unusedSimpArgs false
set_option linter.unusedVariables false

set_option maxHeartbeats 400000 in
theorem specPrime (n : Nat) (h2n : 2 ≤ n) (hn : n ≤ 1021) (w : World) :
    Calls Try.prog 59 #[.int .i64 n] w fun e w' => e = .returned (.bool (primeB n)) ∧ w = w' := by
  go_enter Try.func59, Try.ntmps59
  go_wp2
  go_loop [3] (fun i => ∃ d : Nat, 2 ≤ d ∧ d ≤ 32 ∧ i = .int .i64 d ∧ Hid (∀ e, e < d → 2 ≤ e → n % e ≠ 0)) (fun i => 33 - (intOf i).toNat)
  case atStart => exact ⟨2, by omega, by omega, rfl, fun e h1 h2 => by omega⟩
  case round =>
    obtain ⟨d, h2, h32, rfl, HD⟩ := hrel
    obtain ⟨hs1, hs0⟩ := sq_bd (d := d) (by omega)
    by_cases hle : d * d ≤ n
    · have hle' : (d : Int) * (d : Int) ≤ (n : Int) := by have := Int.ofNat_le.2 hle; rwa [Int.natCast_mul] at this
      have h31 := root_bd hn hle
      by_cases hm : n % d = 0
      · have HN := hide (primeB_no h2 hle hm)
        have hm' : ((n : Int) % (d : Int) == 0) = true := by rw [← Int.natCast_emod, hm]; rfl
        clear hm hle
        go_wp2
        go_ret
        exact ⟨ret_bool HN, rfl⟩
      · have hm' : ((n : Int) % (d : Int) == 0) = false := by
          rw [← Int.natCast_emod]; simp; omega
        have HM := hide hm
        clear hm hle
        go_wp2
        go_round
        case rel => exact ⟨d + 1, by omega, by omega, by go_num, fun e h1 h2 => by
          rcases Nat.lt_or_ge e d with h3 | h3
          · exact HD.out e h3 h2
          · rw [show e = d by omega]; exact HM⟩
        case measure => simp [intOf]; omega
    · have hle' : decide ((d : Int) * (d : Int) ≤ (n : Int)) = false := by
        simp only [decide_eq_false_iff_not]
        intro h; exact hle (by rw [← Int.natCast_mul] at h; exact Int.ofNat_le.1 h)
      have HY := hide (primeB_yes (by omega) HD)
      clear hle
      go_wp2
      go_ret
      exact ⟨ret_bool (by rw [HY.out]; symm; rw [decide_eq_true_eq]; omega), rfl⟩

def RunRel (w : World) (p k g : Int) (q : Nat) (mul : Nat → Nat → Nat) (a : Nat) (s i : Value) (wr : World) : Prop :=
  ∃ j x : Nat, 1 ≤ j ∧ j ≤ q ∧ i = .int .i64 j ∧ s = .int .i64 x ∧ x < q ∧ Hid (x = pw mul a j) ∧ Hid (∀ e, e < j → 1 ≤ e → pw mul a e ≠ 1) ∧ Box w wr 29 p k g

set_option maxHeartbeats 2000000 in
theorem specRuns {p k g : Int} {q : Nat} {mul : Nat → Nat → Nat} (h : Kd p k g q mul) (a : Nat) (ha : a < q) (w : World) :
    Calls Try.prog 60 #[.agg #[.int .i64 p, .int .i64 k, .int .i64 g], .int .i64 a] w (Gives (.bool (gen q mul a)) w) := by
  obtain ⟨hq3, hq⟩ := h.big
  have M := h.mon
  go_enter Try.func60, Try.ntmps60
  go_wp2_with fail
  go_loopw [5, 6] (fun s i wr => RunRel w p k g q mul a s i wr) (fun _ i _ => q + 1 - (intOf i).toNat)
  case atStart => exact ⟨1, a, by omega, by omega, rfl, rfl, ha, by rw [pw_one M ha]; rfl, fun e h1 h2 => by omega, Box.start w _ _ _ _⟩
  case round =>
    obtain ⟨j, x, hj1, hj, rfl, rfl, hx, HXJ, HE, HX⟩ := hrel
    have HX := hide HX
    obtain ⟨c0, c1, c2⟩ := HX.out.cells
    by_cases hx1 : x = 1
    · subst hx1
      by_cases hjq : j = q - 1
      · have HN := hide (gen_yes M (a := a) (by rw [← hjq]; exact HXJ.out.symm) (fun e h1 h2 => HE.out e (by omega) h2))
        have ej : ((j : Int) == (q : Int) - 1) = true := by simp; omega
        clear hjq
        go_wp2_with fail
        refine (specSize h _).mono ?_
        rintro e w1 ⟨rfl, hb⟩
        have HX1 := hide (HX.out.next hb)
        clear hb
        go_wp2_with fail
        go_ret
        exact ⟨ret_bool HN, HX1.out.2⟩
      · have HN := hide (show gen q mul a = false by
          rcases Nat.lt_or_ge j (q - 1) with h1 | h1
          · exact gen_no_early M h1 hj1 HXJ.out.symm
          · exact gen_no_last M (HE.out (q - 1) (by omega) (by omega)))
        have ej : ((j : Int) == (q : Int) - 1) = false := by simp; omega
        clear hjq
        go_wp2_with fail
        refine (specSize h _).mono ?_
        rintro e w1 ⟨rfl, hb⟩
        have HX1 := hide (HX.out.next hb)
        clear hb
        go_wp2_with fail
        go_ret
        exact ⟨ret_bool HN, HX1.out.2⟩
    · have e1 : ((x : Int) != 1) = true := by simp; omega
      have e1' : ((x : Int) == 1) = false := by simp; omega
      have HN1 := hide hx1
      clear hx1
      by_cases hx0 : x = 0
      · subst hx0
        have HN := hide (show gen q mul a = false by
          rcases Nat.lt_or_ge j q with h1 | h1
          · exact gen_no_zero M ha (by omega) HXJ.out.symm
          · exact gen_no_last M (HE.out (q - 1) (by omega) (by omega)))
        go_wp2_with fail
        go_ret
        exact ⟨ret_bool HN, HX.out.2⟩
      · have e0 : ((x : Int) != 0) = true := by simp; omega
        clear hx0
        by_cases hlt : j < q
        · go_wp2_with fail
          refine (specSize h _).mono ?_
          rintro e w1 ⟨rfl, hb⟩
          have HX1 := hide (HX.out.next hb)
          clear hb c0 c1 c2
          obtain ⟨c0, c1, c2⟩ := HX1.out.cells
          go_wp2_with fail
          refine (specMul0 h x a hx ha _).mono ?_
          rintro e w2 ⟨rfl, hb⟩
          have HX2 := hide (HX1.out.next hb)
          clear hb c0 c1 c2
          go_wp2_with fail
          go_roundw
          case rel => exact ⟨j + 1, mul x a, by omega, by omega, by go_num, rfl, M.clo _ _ hx ha, by show _ = mul (pw mul a j) a; rw [← HXJ.out], fun e h1 h2 => by
            rcases Nat.lt_or_ge e j with h3 | h3
            · exact HE.out e h3 h2
            · rw [show e = j by omega, ← HXJ.out]; exact HN1, HX2⟩
          case measure => simp [intOf]; omega
        · have hlt' : decide ((j : Int) < (q : Int)) = false := by simp; omega
          have HN := hide (gen_no_last M (a := a) (HE.out (q - 1) (by omega) (by omega)))
          go_wp2_with fail
          refine (specSize h _).mono ?_
          rintro e w1 ⟨rfl, hb⟩
          have HX1 := hide (HX.out.next hb)
          clear hb c0 c1 c2
          go_wp2_with fail
          go_ret
          exact ⟨ret_bool HN, HX1.out.2⟩

def LowRel (w : World) (q : Nat) (G : Nat) (i : Value) (wr : World) : Prop :=
  ∃ a : Nat, 1 ≤ a ∧ a ≤ G ∧ i = .int .i64 a ∧ Hid (∀ j, j < a → 1 ≤ j → gen q (mul1 q) j = false) ∧ Box w wr 29 q 1 G

theorem shl_two {K : Nat} (h3 : 3 ≤ K) (h8 : K ≤ 8) : ∃ c : Int, wrap64 (2 ^ K) = c ∧ wrap64 (2 * 2 ^ K) = 2 * c ∧ c = 2 ^ K ∧ 8 ≤ c ∧ c ≤ 256 := by
  have h := pow_small h3 h8
  have h1 : (8 : Int) ≤ 2 ^ K := by have := Int.ofNat_le.2 h.1; rw [Int.natCast_pow] at this; exact this
  have h2 : (2 : Int) ^ K ≤ 256 := by have := Int.ofNat_le.2 h.2; rw [Int.natCast_pow] at this; exact this
  exact ⟨2 ^ K, IntWalk.wrap64_in _ ⟨by omega, by omega⟩, IntWalk.wrap64_in _ ⟨by omega, by omega⟩, rfl, h1, h2⟩

set_option maxHeartbeats 2000000 in
theorem specIsField (p k g : Int) (w : World) :
    Calls Try.prog 32 #[.agg #[.int .i64 p, .int .i64 k, .int .i64 g]] w (Gives (.bool (fieldB p k g)) w) := by
  have HX := hide (Box.start w 29 p k g)
  by_cases hk : k = 1
  · subst hk
    rcases hp : inR p 3 1021 with _ | _
    · have HF := hide (show fieldB p 1 g = false by
        simp only [inR, decide_eq_false_iff_not] at hp
        refine fieldB_0 ?_ ?_
        · rw [k1B, Bool.and_eq_false_iff]; left; simp; omega
        · rw [k2B, decide_eq_false_iff_not]; omega)
      have HP := hide hp
      clear hp
      go_enter Try.func32, Try.ntmps32
      go_wp2_with fail
      refine (specIn_is p 3 1021 false _ HP).mono ?_
      rintro e w1 ⟨rfl, rfl⟩
      go_wp2_with fail
      go_ret
      exact ⟨ret_bool HF, HX.out.2⟩
    · obtain ⟨P, rfl⟩ : ∃ P : Nat, p = P := ⟨p.toNat, by simp only [inR, decide_eq_true_eq] at hp; omega⟩
      have h3 : 3 ≤ P := by simp only [inR, decide_eq_true_eq] at hp; omega
      have h4 : P ≤ 1021 := by simp only [inR, decide_eq_true_eq] at hp; omega
      have HP := hide hp
      clear hp
      rcases hpr : primeB P with _ | _
      · have HF := hide (show fieldB P 1 g = false by
          refine fieldB_0 ?_ ?_
          · rw [k1B, Bool.and_eq_false_iff, Int.toNat_natCast]; right; exact hpr
          · rw [k2B, decide_eq_false_iff_not]; omega)
        have HPR := hide hpr
        clear hpr
        go_enter Try.func32, Try.ntmps32
        go_wp2_with fail
        refine (specIn_is P 3 1021 true _ HP).mono ?_
        rintro e w1 ⟨rfl, rfl⟩
        go_wp2_with fail
        refine (specPrime P (by omega) h4 _).mono ?_
        rw [HPR.out]
        rintro e w1 ⟨rfl, rfl⟩
        go_wp2_with fail
        go_ret
        exact ⟨ret_bool HF, HX.out.2⟩
      · have HPR := hide hpr
        have HL := hide (least_spec (prime_gen h3 h4 hpr))
        have HF0 := hide (fieldB_1 (g := g) h3 h4 hpr)
        clear hpr
        rcases hg : inR g 1 ((P : Int) - 1) with _ | _
        · have HF := hide (show fieldB P 1 g = false by
            simp only [inR, decide_eq_false_iff_not] at hg
            have := HL.out
            rw [HF0.out, decide_eq_false_iff_not]; omega)
          have HG := hide hg
          clear hg
          go_enter Try.func32, Try.ntmps32
          go_wp2_with fail
          refine (specIn_is P 3 1021 true _ HP).mono ?_
          rintro e w1 ⟨rfl, rfl⟩
          go_wp2_with fail
          refine (specPrime P (by omega) h4 _).mono ?_
          rw [HPR.out]
          rintro e w1 ⟨rfl, rfl⟩
          go_wp2_with fail
          refine (specIn_is g 1 ((P : Int) - 1) false _ HG).mono ?_
          rintro e w1 ⟨rfl, rfl⟩
          go_wp2_with fail
          go_ret
          exact ⟨ret_bool HF, HX.out.2⟩
        · obtain ⟨G, rfl⟩ : ∃ G : Nat, g = G := ⟨g.toNat, by simp only [inR, decide_eq_true_eq] at hg; omega⟩
          have hG1 : 1 ≤ G := by simp only [inR, decide_eq_true_eq] at hg; omega
          have hG2 : G < P := by simp only [inR, decide_eq_true_eq] at hg; omega
          have HG := hide hg
          have hK : Kd P 1 G P (mul1 P) := Kd.one P G h3 h4
          clear hg
          go_enter Try.func32, Try.ntmps32
          go_wp2_with fail
          refine (specIn_is P 3 1021 true _ HP).mono ?_
          rintro e w1 ⟨rfl, rfl⟩
          go_wp2_with fail
          refine (specPrime P (by omega) h4 _).mono ?_
          rw [HPR.out]
          rintro e w1 ⟨rfl, rfl⟩
          go_wp2_with fail
          refine (specIn_is G 1 ((P : Int) - 1) true _ HG).mono ?_
          rintro e w1 ⟨rfl, rfl⟩
          go_wp2_with fail
          go_loopw [3] (fun i wr => LowRel w P G i wr) (fun i _ => G - (intOf i).toNat)
          case atStart => exact ⟨1, by omega, by omega, rfl, fun e h1 h2 => by omega, HX⟩
          case round =>
            clear HX
            obtain ⟨a, h1, ha, rfl, HE, HX⟩ := hrel
            have HX := hide HX
            obtain ⟨c0, c1, c2⟩ := HX.out.cells
            by_cases hlt : a < G
            · rcases hga : gen P (mul1 P) a with _ | _
              · have HGA := hide hga
                go_wp2_with fail
                refine (specRuns hK a (by omega) _).mono ?_
                rw [HGA.out]
                clear hga
                rintro e w2 ⟨rfl, hb⟩
                have HX2 := hide (HX.out.next hb)
                clear hb
                go_wp2_with fail
                go_roundw
                case rel => exact ⟨a + 1, by omega, by omega, by go_num, fun j hj h1 => by
                  rcases Nat.lt_or_ge j a with h3 | h3
                  · exact HE.out j h3 h1
                  · rw [show j = a by omega]; exact HGA, HX2⟩
                case measure => simp [intOf]; omega
              · have HF := hide (show fieldB P 1 G = false by
                  rw [HF0.out, least_at (by omega) h1 hga HE, decide_eq_false_iff_not]; omega)
                have HGA := hide hga
                go_wp2_with fail
                refine (specRuns hK a (by omega) _).mono ?_
                rw [HGA.out]
                clear hga
                rintro e w2 ⟨rfl, hb⟩
                have HX2 := hide (HX.out.next hb)
                clear hb
                go_wp2_with fail
                go_ret
                exact ⟨ret_bool HF, HX2.out.2⟩
            · obtain rfl : a = G := by omega
              have HF := hide (show fieldB P 1 a = gen P (mul1 P) a by
                rw [HF0.out]
                rcases hga : gen P (mul1 P) a with _ | _
                · rw [decide_eq_false_iff_not]
                  intro he
                  have h5 : least P (mul1 P) = a := by omega
                  have := HL.out.2.2.1
                  rw [h5, hga] at this
                  cases this
                · rw [least_at hG2 h1 hga HE]; simp)
              go_wp2_with fail
              refine (specRuns hK a hG2 _).mono ?_
              rintro e w2 ⟨rfl, hb⟩
              have HX2 := hide (HX.out.next hb)
              clear hb
              go_wp2_with fail
              go_ret
              exact ⟨ret_bool HF, HX2.out.2⟩
  · have hk' : (k == 1) = false := by simpa using hk
    have HK1 := hide (show k1B p k = false by rw [k1B, Bool.and_eq_false_iff]; left; simp; omega)
    by_cases hp : p = 2
    · subst hp
      rcases hkr : inR k 3 8 with _ | _
      · have HF := hide (show fieldB 2 k g = false by
          simp only [inR, decide_eq_false_iff_not] at hkr
          refine fieldB_0 HK1 ?_
          rw [k2B, decide_eq_false_iff_not]; omega)
        have HKR := hide hkr
        clear hkr
        go_enter Try.func32, Try.ntmps32
        go_wp2_with fail
        refine (specIn_is k 3 8 false _ HKR).mono ?_
        rintro e w1 ⟨rfl, rfl⟩
        go_wp2_with fail
        go_ret
        exact ⟨ret_bool HF, HX.out.2⟩
      · obtain ⟨K, rfl⟩ : ∃ K : Nat, k = K := ⟨k.toNat, by simp only [inR, decide_eq_true_eq] at hkr; omega⟩
        have h3 : 3 ≤ K := by simp only [inR, decide_eq_true_eq] at hkr; omega
        have h8 : K ≤ 8 := by simp only [inR, decide_eq_true_eq] at hkr; omega
        have HKR := hide hkr
        clear hkr hk
        obtain ⟨c, hc1, hc2, hc3, hc4, hc5⟩ := shl_two h3 h8
        have HC3 := hide hc3
        clear hc3
        rcases hg : inR g c (2 * c - 1) with _ | _
        · have HF := hide (show fieldB 2 K g = false by
            simp only [inR, decide_eq_false_iff_not] at hg
            refine fieldB_0 HK1 ?_
            rw [k2B, decide_eq_false_iff_not, Int.toNat_natCast, Int.pow_succ, ← HC3.out]; omega)
          have HG := hide hg
          clear hg
          go_enter Try.func32, Try.ntmps32
          go_wp2_with fail
          refine (specIn_is _ 3 8 true _ HKR).mono ?_
          rintro e w1 ⟨rfl, rfl⟩
          go_wp2_with fail
          refine (specIn_is g c (2 * c - 1) false _ HG).mono ?_
          rintro e w1 ⟨rfl, rfl⟩
          go_wp2_with fail
          go_ret
          exact ⟨ret_bool HF, HX.out.2⟩
        · have hk2 : k2B 2 K g = true := by
            simp only [inR, decide_eq_true_eq] at hg
            rw [k2B, decide_eq_true_eq, Int.toNat_natCast, Int.pow_succ, ← HC3.out]; omega
          obtain ⟨K', G, _, hKK, rfl, _, _, hG1, hG2⟩ := k2_open hk2
          obtain rfl : K = K' := by omega
          have HF := hide (fieldB_2 h3 h8 hG1 hG2)
          have hK := Kd.two K G h3 h8 hG1 hG2
          have h2q : 2 < 2 ^ K := by have := pow_small h3 h8; omega
          have HG := hide hg
          clear hg hk2 hKK hG1 hG2
          go_enter Try.func32, Try.ntmps32
          go_wp2_with fail
          refine (specIn_is _ 3 8 true _ HKR).mono ?_
          rintro e w1 ⟨rfl, rfl⟩
          go_wp2_with fail
          refine (specIn_is _ c (2 * c - 1) true _ HG).mono ?_
          rintro e w1 ⟨rfl, rfl⟩
          go_wp2_with fail
          refine (specRuns hK 2 h2q _).mono ?_
          rintro e w2 ⟨rfl, hb⟩
          have HX2 := hide (HX.out.next hb)
          clear hb
          go_wp2_with fail
          go_ret
          exact ⟨ret_bool HF, HX2.out.2⟩
    · have hp' : (p != 2) = true := by simpa using hp
      have HF := hide (show fieldB p k g = false by
        refine fieldB_0 HK1 ?_
        rw [k2B, decide_eq_false_iff_not]; omega)
      go_enter Try.func32, Try.ntmps32
      go_wp2_with fail
      go_ret
      exact ⟨ret_bool HF, HX.out.2⟩
end Go.Proofs.Ytncgeoliboidhaa
