/-
  The contract of the model's FieldOf.
  Condition: none.
-/
import Derived.Test.YtncgeoliboidhaaGreatFOfImpl
import Derived.Test.YtncgeoliboidhaaGreatVC
namespace Go.Proofs.YtncgeoliboidhaaGreat
open Go.RowKit
set_option linter.unusedSimpArgs false
set_option linter.unusedVariables false

theorem pow_nat {K : Nat} (h3 : 3 ≤ K) (h8 : K ≤ 8) : ∃ c : Nat, 2 ^ K = c ∧ 2 ^ (K + 1) = 2 * c ∧ 8 ≤ c ∧ c ≤ 256 ∧ wrap64 (2 ^ K) = (c : Int) := by
  obtain ⟨c, h1, _, h2, h4, h5⟩ := shl_two h3 h8
  have := pow_small h3 h8
  exact ⟨2 ^ K, rfl, by rw [Nat.pow_succ]; omega, this.1, this.2, by rw [h1, h2, Int.natCast_pow]; rfl⟩
theorem fo_00 {s : Int} (h : k1B s 1 = false) (hK : ∀ K : Nat, 3 ≤ K → K ≤ 8 → s ≠ 2 ^ K ∨ powG K = 0) : foP s = 0 ∧ foK s = 0 ∧ foG s = 0 ∧ foC s = 4 := by
  by_cases hh : ∃ K : Nat, 3 ≤ K ∧ K ≤ 8 ∧ s = 2 ^ K
  · obtain ⟨K, h3, h8, he⟩ := hh
    have hp : powG K = 0 := (hK K h3 h8).resolve_left (fun h => h he)
    have := fo_2 h (isPow_at h3 h8 he)
    simp only [lowP, lowK, lowC, hp, if_true] at this
    exact this
  · exact fo_0 h (isPow_no (fun K h3 h8 he => hh ⟨K, h3, h8, he⟩))
def OfRel2 (w : World) (s : Int) (i : Value) (wr : World) : Prop := ∃ j : Nat, 3 ≤ j ∧ j ≤ 9 ∧ i = .int .i64 j ∧ Hid (∀ K : Nat, 3 ≤ K → K < j → s ≠ 2 ^ K ∨ powG K = 0) ∧ Box w wr 25 0 0 0
def FirstRel (w : World) (P : Nat) (i : Value) (wr : World) : Prop := ∃ a : Nat, 1 ≤ a ∧ a ≤ P ∧ i = .int .i64 a ∧ Hid (∀ j, j < a → 1 ≤ j → gen P (mul1 P) j = false) ∧ Box w wr 25 0 0 0

set_option maxHeartbeats 4000000 in
theorem specFieldOf (s : Int) (w : World) :
    Calls Tryz.prog 54 #[.int .i64 s] w (GivesF (foP s) (foK s) (foG s) (foC s) w) := by
  have HX0 := hide (Box.start w 25 0 0 0)
  rcases hin : inR s 3 1021 with _ | _
  · have HIN := hide hin
    have H1 := hide (show k1B s 1 = false by
      simp only [inR, decide_eq_false_iff_not] at hin
      rw [k1B, Bool.and_eq_false_iff]; left; simp; omega)
    clear hin
    go_enter Tryz.func54, Tryz.ntmps54
    go_wp2_with fail
    refine (specIn_is s 3 1021 false _ HIN).mono ?_
    rintro e w1 ⟨rfl, rfl⟩
    go_wp2_with fail
    go_loopw [6] (fun i wr => OfRel2 w s i wr) (fun i _ => 9 - (intOf i).toNat)
    case atStart => exact ⟨3, by omega, by omega, rfl, fun K h1 h2 => by omega, HX0⟩
    case round =>
      clear HX0
      obtain ⟨wo, rfl⟩ : ∃ wo : World, wo = wr := ⟨_, rfl⟩
      obtain ⟨j, h3, h9, rfl, HN, HX⟩ := hrel
      have HX := hide HX
      by_cases h8 : j ≤ 8
      · obtain ⟨c, hcp, hcc, hc8, hc9, hw1⟩ := pow_nat h3 h8
        have z8 : (j : Int) ≤ 8 := by omega
        have HC := hide hcp
        have HCC := hide hcc
        clear hcp hcc
        by_cases hs : s = (c : Int)
        · subst hs
          have HP := hide (isPow_at (s := (c : Int)) h3 h8 (by rw [← HC.out, Int.natCast_pow]; rfl))
          go_wp2_with fail
          simp only [hw1, bne_self_eq_false]
          go_loopw [7] (fun i wr => LowGRel w j i wr) (fun i _ => 2 * c - (intOf i).toNat)
          case atStart => exact ⟨c, by rw [HC.out]; exact Nat.le_refl _, by rw [HCC.out]; omega, rfl, fun j h1 h2 => by rw [HC.out] at h2; omega, HX⟩
          case round =>
            clear HX
            obtain ⟨G, hG1, hG2, rfl, HE, HX⟩ := hrel
            have HX := hide HX
            rw [HC.out] at hG1
            rw [HCC.out] at hG2
            by_cases hlt : G < 2 * c
            · rcases hf : fieldB 2 j G with _ | _
              · have HF := hide hf
                go_wp2_with fail
                refine (specIsField 2 j G _).mono ?_
                rw [HF.out]
                rintro e w2 ⟨rfl, hb⟩
                have HX2 := hide ((HX.out.alloc (.cells #[.int .i64 2, .int .i64 (j : Int), .int .i64 (G : Int)] 25)).next hb)
                clear hb
                go_wp2_with fail
                go_roundw
                case rel => exact ⟨G + 1, by rw [HC.out]; omega, by rw [HCC.out]; omega, by go_num, fun j' hj h1 => by
                  rcases Nat.lt_or_ge j' G with h4 | h4
                  · exact HE.out j' h4 h1
                  · rw [show j' = G by omega]; exact HF, HX2⟩
                case measure => simp [intOf]; omega
              · have HF := hide hf
                have HPG := hide (powG_at (by rw [HC.out]; exact hG1) (by rw [HCC.out]; exact hlt) hf HE)
                have hp0 : powG j ≠ 0 := by rw [HPG.out]; omega
                have HL := hide (show lowP j = 2 ∧ lowK j = j ∧ lowC j = 0 by simp only [lowP, lowK, lowC, if_neg hp0]; exact ⟨trivial, trivial, trivial⟩)
                have HFO := hide (fo_2 H1.out HP.out)
                clear hp0 hf
                go_wp2_with fail
                refine (specIsField 2 j G _).mono ?_
                rw [HF.out]
                rintro e w2 ⟨rfl, hb⟩
                have HX2 := hide ((HX.out.alloc (.cells #[.int .i64 2, .int .i64 (j : Int), .int .i64 (G : Int)] 25)).next hb)
                have HY2 := hide ((Box.start wr 25 2 j G).next hb)
                obtain ⟨c0, c1, c2⟩ := HX2.out.cells
                obtain ⟨f0, f1, f2⟩ := HX2.out.frozen
                obtain ⟨d0, d1, d2⟩ := HY2.out.cells
                clear hb
                go_wp2_with fail
                refine bodyPost_ret (v := .tuple #[.agg #[.int .i64 2, .int .i64 (j : Int), .int .i64 (G : Int)], .int .i64 0]) (by simp [results, Tryz.results54, go_sem, c0, c1, c2]) rfl ⟨ret_f (HFO.out.1.trans HL.out.1) (HFO.out.2.1.trans HL.out.2.1) (HFO.out.2.2.1.trans (by rw [HPG.out])) (HFO.out.2.2.2.trans HL.out.2.2), ?_⟩
                exact ((HX2.out.2.setCell (Nat.le_refl _) _).setCell (Nat.le_refl _) _).setCell (Nat.le_refl _) _
            · have HPG := hide (powG_none (K := j) (fun j' hj h1 => HE.out j' (by rw [HCC.out] at hj; omega) h1))
              go_wp2_with fail
              go_roundw
              case rel => exact ⟨j + 1, by omega, by omega, by go_num, fun K h1 h2 => by
                rcases Nat.lt_or_ge K j with h4 | h4
                · exact HN.out K h1 h4
                · rw [show K = j by omega]; exact .inr HPG, HX⟩
              case measure => simp [intOf]; omega
        · have hs' : (s != (c : Int)) = true := by simpa using hs
          have HS := hide hs
          clear hs
          go_wp2_with fail
          go_roundw
          case rel => exact ⟨j + 1, by omega, by omega, by go_num, fun K h1 h2 => by
            rcases Nat.lt_or_ge K j with h4 | h4
            · exact HN.out K h1 h4
            · rw [show K = j by omega]; exact .inl (fun e => HS.out (by rw [e, ← HC.out, Int.natCast_pow]; rfl)), HX⟩
          case measure => simp [intOf]; omega
      · have d8 : decide ((j : Int) ≤ 8) = false := by simp; omega
        have HF := hide (fo_00 H1.out (fun K h1 h2 => HN.out K h1 (by omega)))
        obtain ⟨c0, c1, c2⟩ := HX.out.cells
        obtain ⟨f0, f1, f2⟩ := HX.out.frozen
        go_wp2_with fail
        refine bodyPost_ret (v := .tuple #[.agg #[.int .i64 0, .int .i64 0, .int .i64 0], .int .i64 4]) (by simp [results, Tryz.results54, go_sem, c0, c1, c2]) rfl ⟨ret_f HF.out.1 HF.out.2.1 HF.out.2.2.1 HF.out.2.2.2, ?_⟩
        exact ((HX.out.2.setCell (Nat.le_refl _) _).setCell (Nat.le_refl _) _).setCell (Nat.le_refl _) _
  · have HIN := hide hin
    obtain ⟨P, rfl⟩ : ∃ P : Nat, s = P := ⟨s.toNat, by simp only [inR, decide_eq_true_eq] at hin; omega⟩
    have h3P : 3 ≤ P := by simp only [inR, decide_eq_true_eq] at hin; omega
    have h4P : P ≤ 1021 := by simp only [inR, decide_eq_true_eq] at hin; omega
    clear hin
    rcases hpr : primeB P with _ | _
    · have HPR := hide hpr
      have H1 := hide (show k1B P 1 = false by rw [k1B, Bool.and_eq_false_iff, Int.toNat_natCast]; right; exact hpr)
      clear hpr
      generalize hsP : (P : Int) = s at H1 HIN ⊢
      go_enter Tryz.func54, Tryz.ntmps54
      go_wp2_with fail
      refine (specIn_is s 3 1021 true _ HIN).mono ?_
      rintro e w1 ⟨rfl, rfl⟩
      go_wp2_with fail
      rw [← hsP]
      refine (specPrime P (by omega) h4P _).mono ?_
      rw [HPR.out]
      rintro e w1 ⟨rfl, rfl⟩
      rw [hsP]
      clear hsP h3P h4P HPR HIN
      go_wp2_with fail
      go_loopw [6] (fun i wr => OfRel2 w s i wr) (fun i _ => 9 - (intOf i).toNat)
      case atStart => exact ⟨3, by omega, by omega, rfl, fun K h1 h2 => by omega, HX0⟩
      case round =>
        clear HX0
        obtain ⟨wo, rfl⟩ : ∃ wo : World, wo = wr := ⟨_, rfl⟩
        obtain ⟨j, h3, h9, rfl, HN, HX⟩ := hrel
        have HX := hide HX
        by_cases h8 : j ≤ 8
        · obtain ⟨c, hcp, hcc, hc8, hc9, hw1⟩ := pow_nat h3 h8
          have z8 : (j : Int) ≤ 8 := by omega
          have HC := hide hcp
          have HCC := hide hcc
          clear hcp hcc
          by_cases hs : s = (c : Int)
          · subst hs
            have HP := hide (isPow_at (s := (c : Int)) h3 h8 (by rw [← HC.out, Int.natCast_pow]; rfl))
            go_wp2_with fail
            simp only [hw1, bne_self_eq_false]
            go_loopw [7] (fun i wr => LowGRel w j i wr) (fun i _ => 2 * c - (intOf i).toNat)
            case atStart => exact ⟨c, by rw [HC.out]; exact Nat.le_refl _, by rw [HCC.out]; omega, rfl, fun j h1 h2 => by rw [HC.out] at h2; omega, HX⟩
            case round =>
              clear HX
              obtain ⟨G, hG1, hG2, rfl, HE, HX⟩ := hrel
              have HX := hide HX
              rw [HC.out] at hG1
              rw [HCC.out] at hG2
              by_cases hlt : G < 2 * c
              · rcases hf : fieldB 2 j G with _ | _
                · have HF := hide hf
                  go_wp2_with fail
                  refine (specIsField 2 j G _).mono ?_
                  rw [HF.out]
                  rintro e w2 ⟨rfl, hb⟩
                  have HX2 := hide ((HX.out.alloc (.cells #[.int .i64 2, .int .i64 (j : Int), .int .i64 (G : Int)] 25)).next hb)
                  clear hb
                  go_wp2_with fail
                  go_roundw
                  case rel => exact ⟨G + 1, by rw [HC.out]; omega, by rw [HCC.out]; omega, by go_num, fun j' hj h1 => by
                    rcases Nat.lt_or_ge j' G with h4 | h4
                    · exact HE.out j' h4 h1
                    · rw [show j' = G by omega]; exact HF, HX2⟩
                  case measure => simp [intOf]; omega
                · have HF := hide hf
                  have HPG := hide (powG_at (by rw [HC.out]; exact hG1) (by rw [HCC.out]; exact hlt) hf HE)
                  have hp0 : powG j ≠ 0 := by rw [HPG.out]; omega
                  have HL := hide (show lowP j = 2 ∧ lowK j = j ∧ lowC j = 0 by simp only [lowP, lowK, lowC, if_neg hp0]; exact ⟨trivial, trivial, trivial⟩)
                  have HFO := hide (fo_2 H1.out HP.out)
                  clear hp0 hf
                  go_wp2_with fail
                  refine (specIsField 2 j G _).mono ?_
                  rw [HF.out]
                  rintro e w2 ⟨rfl, hb⟩
                  have HX2 := hide ((HX.out.alloc (.cells #[.int .i64 2, .int .i64 (j : Int), .int .i64 (G : Int)] 25)).next hb)
                  have HY2 := hide ((Box.start wr 25 2 j G).next hb)
                  obtain ⟨c0, c1, c2⟩ := HX2.out.cells
                  obtain ⟨f0, f1, f2⟩ := HX2.out.frozen
                  obtain ⟨d0, d1, d2⟩ := HY2.out.cells
                  clear hb
                  go_wp2_with fail
                  refine bodyPost_ret (v := .tuple #[.agg #[.int .i64 2, .int .i64 (j : Int), .int .i64 (G : Int)], .int .i64 0]) (by simp [results, Tryz.results54, go_sem, c0, c1, c2]) rfl ⟨ret_f (HFO.out.1.trans HL.out.1) (HFO.out.2.1.trans HL.out.2.1) (HFO.out.2.2.1.trans (by rw [HPG.out])) (HFO.out.2.2.2.trans HL.out.2.2), ?_⟩
                  exact ((HX2.out.2.setCell (Nat.le_refl _) _).setCell (Nat.le_refl _) _).setCell (Nat.le_refl _) _
              · have HPG := hide (powG_none (K := j) (fun j' hj h1 => HE.out j' (by rw [HCC.out] at hj; omega) h1))
                go_wp2_with fail
                go_roundw
                case rel => exact ⟨j + 1, by omega, by omega, by go_num, fun K h1 h2 => by
                  rcases Nat.lt_or_ge K j with h4 | h4
                  · exact HN.out K h1 h4
                  · rw [show K = j by omega]; exact .inr HPG, HX⟩
                case measure => simp [intOf]; omega
          · have hs' : (s != (c : Int)) = true := by simpa using hs
            have HS := hide hs
            clear hs
            go_wp2_with fail
            go_roundw
            case rel => exact ⟨j + 1, by omega, by omega, by go_num, fun K h1 h2 => by
              rcases Nat.lt_or_ge K j with h4 | h4
              · exact HN.out K h1 h4
              · rw [show K = j by omega]; exact .inl (fun e => HS.out (by rw [e, ← HC.out, Int.natCast_pow]; rfl)), HX⟩
            case measure => simp [intOf]; omega
        · have d8 : decide ((j : Int) ≤ 8) = false := by simp; omega
          have HF := hide (fo_00 H1.out (fun K h1 h2 => HN.out K h1 (by omega)))
          obtain ⟨c0, c1, c2⟩ := HX.out.cells
          obtain ⟨f0, f1, f2⟩ := HX.out.frozen
          go_wp2_with fail
          refine bodyPost_ret (v := .tuple #[.agg #[.int .i64 0, .int .i64 0, .int .i64 0], .int .i64 4]) (by simp [results, Tryz.results54, go_sem, c0, c1, c2]) rfl ⟨ret_f HF.out.1 HF.out.2.1 HF.out.2.2.1 HF.out.2.2.2, ?_⟩
          exact ((HX.out.2.setCell (Nat.le_refl _) _).setCell (Nat.le_refl _) _).setCell (Nat.le_refl _) _
    · have HPR := hide hpr
      have H1 := hide (k1_is h3P h4P hpr)
      have HL := hide (least_spec (prime_gen h3P h4P hpr))
      have HFO := hide (fo_1 (k1_is h3P h4P hpr))
      clear hpr
      go_enter Tryz.func54, Tryz.ntmps54
      go_wp2_with fail
      refine (specIn_is P 3 1021 true _ HIN).mono ?_
      rintro e w1 ⟨rfl, rfl⟩
      go_wp2_with fail
      refine (specPrime P (by omega) h4P _).mono ?_
      rw [HPR.out]
      rintro e w1 ⟨rfl, rfl⟩
      go_wp2_with fail
      go_loopw [4] (fun i wr => FirstRel w P i wr) (fun i _ => P - (intOf i).toNat)
      case atStart => exact ⟨1, by omega, by omega, rfl, fun j h1 h2 => by omega, HX0⟩
      case round =>
        clear HX0
        obtain ⟨a, h1, ha, rfl, HE, HX⟩ := hrel
        have HX := hide HX
        by_cases hlt : a < P
        · rcases hg : gen P (mul1 P) a with _ | _
          · have HG := hide hg
            clear hg
            go_wp2_with fail
            refine (specRuns (Kd.one P a h3P h4P) a hlt _).mono ?_
            rw [HG.out]
            rintro e w2 ⟨rfl, hb⟩
            have HX2 := hide ((HX.out.alloc (.cells #[.int .i64 (P : Int), .int .i64 1, .int .i64 (a : Int)] 25)).next hb)
            clear hb
            go_wp2_with fail
            go_roundw
            case rel => exact ⟨a + 1, by omega, by omega, by go_num, fun j hj h1 => by
              rcases Nat.lt_or_ge j a with h4 | h4
              · exact HE.out j h4 h1
              · rw [show j = a by omega]; exact HG, HX2⟩
            case measure => simp [intOf]; omega
          · have HG := hide hg
            have HA := hide (show ((least P (mul1 P) : Nat) : Int) = (a : Int) by rw [least_at hlt h1 hg HE])
            clear hg
            go_wp2_with fail
            refine (specRuns (Kd.one P a h3P h4P) a hlt _).mono ?_
            rw [HG.out]
            rintro e w2 ⟨rfl, hb⟩
            have HX2 := hide ((HX.out.alloc (.cells #[.int .i64 (P : Int), .int .i64 1, .int .i64 (a : Int)] 25)).next hb)
            have HY2 := hide ((Box.start wr 25 P 1 a).next hb)
            obtain ⟨c0, c1, c2⟩ := HX2.out.cells
            obtain ⟨f0, f1, f2⟩ := HX2.out.frozen
            obtain ⟨d0, d1, d2⟩ := HY2.out.cells
            clear hb
            go_wp2_with fail
            refine bodyPost_ret (v := .tuple #[.agg #[.int .i64 P, .int .i64 1, .int .i64 (a : Int)], .int .i64 0]) (by simp [results, Tryz.results54, go_sem, c0, c1, c2]) rfl ⟨ret_f HFO.out.1 HFO.out.2.1 (HFO.out.2.2.1.trans HA.out) HFO.out.2.2.2, ?_⟩
            exact ((HX2.out.2.setCell (Nat.le_refl _) _).setCell (Nat.le_refl _) _).setCell (Nat.le_refl _) _
        · exfalso
          have h5 := HE.out (least P (mul1 P)) (by have := HL.out.2.1; omega) HL.out.1
          rw [HL.out.2.2.1] at h5
          cases h5
end Go.Proofs.YtncgeoliboidhaaGreat
