/-
  The contract of the program's FieldOf.
  Condition: none.
-/
import Derived.Test.YtncgeoliboidhaaGreatVA
import Derived.Test.YtncgeoliboidhaaGreatVB
namespace Go.Proofs.YtncgeoliboidhaaGreat
open Go.RowKit
set_option linter.unusedSimpArgs false
set_option linter.unusedVariables false

def LowGRel (w : World) (K : Nat) (i : Value) (wr : World) : Prop :=
  ∃ G : Nat, 2 ^ K ≤ G ∧ G ≤ 2 ^ (K + 1) ∧ i = .int .i64 G ∧ Hid (∀ j : Nat, j < G → 2 ^ K ≤ j → fieldB 2 K j = false) ∧ Box w wr 25 0 0 0

set_option maxHeartbeats 2000000 in
theorem implLow (K : Nat) (h3 : 3 ≤ K) (h8 : K ≤ 8) (w : World) :
    Calls Tryz.prog 148 #[.int .i64 K] w (GivesF (lowP K) (lowK K) (powG K) (lowC K) w) := by
  obtain ⟨c, hc, hcc, hc8, hc9⟩ : ∃ c : Nat, 2 ^ K = c ∧ 2 ^ (K + 1) = 2 * c ∧ 8 ≤ c ∧ c ≤ 256 := ⟨_, rfl, by rw [Nat.pow_succ]; omega, (pow_small h3 h8).1, (pow_small h3 h8).2⟩
  have hw1 : wrap64 (2 ^ K) = (c : Int) := by
    rw [← hc, Int.natCast_pow]
    have := Int.ofNat_le.2 hc9
    rw [← hc, Int.natCast_pow] at this
    exact IntWalk.wrap64_in _ ⟨by have : (0 : Int) < 2 ^ K := Int.pow_pos (by decide); omega, by have h : ((2 : Nat) : Int) ^ K ≤ 256 := this; have : (2 : Int) ^ K ≤ 256 := h; omega⟩
  have hw2 : wrap64 (2 * 2 ^ K) = 2 * (c : Int) := by
    have h : (2 : Int) ^ K = (c : Int) := by rw [← hc, Int.natCast_pow]; rfl
    rw [h]
    exact IntWalk.wrap64_in _ ⟨by omega, by omega⟩
  have HC := hide hc
  have HCC := hide hcc
  have HX0 := hide (Box.start w 25 0 0 0)
  clear hc hcc
  go_enter Tryz.func148, Tryz.ntmps148
  go_wp2_with fail
  rw [hw1]
  go_loopw [4] (fun i wr => LowGRel w K i wr) (fun i _ => 2 * c - (intOf i).toNat)
  case atStart => exact ⟨c, by rw [HC.out]; exact Nat.le_refl _, by rw [HCC.out]; omega, rfl, fun j h1 h2 => by rw [HC.out] at h2; omega, HX0⟩
  case round =>
    clear HX0
    obtain ⟨G, hG1, hG2, rfl, HE, HX⟩ := hrel
    have HX := hide HX
    rw [HC.out] at hG1
    rw [HCC.out] at hG2
    by_cases hlt : G < 2 * c
    · rcases hf : fieldB 2 K G with _ | _
      · have HF := hide hf
        go_wp2_with fail
        refine (implValid 2 K G _).mono ?_
        rw [HF.out]
        rintro e w2 ⟨rfl, hb⟩
        have HX2 := hide ((HX.out.alloc (.cells #[.int .i64 2, .int .i64 (K : Int), .int .i64 (G : Int)] 25)).next hb)
        clear hb
        go_wp2_with fail
        go_roundw
        case rel => exact ⟨G + 1, by rw [HC.out]; omega, by rw [HCC.out]; omega, by go_num, fun j hj h1 => by
          rcases Nat.lt_or_ge j G with h4 | h4
          · exact HE.out j h4 h1
          · rw [show j = G by omega]; exact HF, HX2⟩
        case measure => simp [intOf]; omega
      · have HF := hide hf
        have HP := hide (powG_at (by rw [HC.out]; exact hG1) (by rw [HCC.out]; exact hlt) hf HE)
        have hp0 : powG K ≠ 0 := by rw [HP.out]; omega
        have HL := hide (show lowP K = 2 ∧ lowK K = K ∧ lowC K = 0 by simp only [lowP, lowK, lowC, if_neg hp0]; exact ⟨trivial, trivial, trivial⟩)
        clear hp0 hf
        go_wp2_with fail
        refine (implValid 2 K G _).mono ?_
        rw [HF.out]
        rintro e w2 ⟨rfl, hb⟩
        have HX2 := hide ((HX.out.alloc (.cells #[.int .i64 2, .int .i64 (K : Int), .int .i64 (G : Int)] 25)).next hb)
        have HY2 := hide ((Box.start wr 25 2 K G).next hb)
        obtain ⟨c0, c1, c2⟩ := HX2.out.cells
        obtain ⟨f0, f1, f2⟩ := HX2.out.frozen
        obtain ⟨d0, d1, d2⟩ := HY2.out.cells
        clear hb
        go_wp2_with fail
        refine bodyPost_ret (v := .tuple #[.agg #[.int .i64 2, .int .i64 (K : Int), .int .i64 (G : Int)], .int .i64 0]) (by simp [results, Tryz.results148, go_sem, c0, c1, c2]) rfl ⟨ret_f HL.out.1 HL.out.2.1 (by rw [HP.out]) HL.out.2.2, ?_⟩
        exact ((HX2.out.2.setCell (Nat.le_refl _) _).setCell (Nat.le_refl _) _).setCell (Nat.le_refl _) _
    · have HP := hide (powG_none (K := K) (fun j hj h1 => HE.out j (by rw [HCC.out] at hj; omega) h1))
      have HL := hide (show lowP K = 0 ∧ lowK K = 0 ∧ lowC K = 4 by simp only [lowP, lowK, lowC, if_pos HP.out]; exact ⟨trivial, trivial, trivial⟩)
      obtain ⟨c0, c1, c2⟩ := HX.out.cells
      obtain ⟨f0, f1, f2⟩ := HX.out.frozen
      go_wp2_with fail
      refine bodyPost_ret (v := .tuple #[.agg #[.int .i64 0, .int .i64 0, .int .i64 0], .int .i64 4]) (by simp [results, Tryz.results148, go_sem, c0, c1, c2]) rfl ⟨ret_f HL.out.1 HL.out.2.1 (by rw [HP.out]; rfl) HL.out.2.2, ?_⟩
      exact ((HX.out.2.setCell (Nat.le_refl _) _).setCell (Nat.le_refl _) _).setCell (Nat.le_refl _) _

theorem pow_c {K : Nat} (h3 : 3 ≤ K) (h8 : K ≤ 8) : ∃ c : Int, wrap64 (2 ^ K) = c ∧ c = 2 ^ K := by
  obtain ⟨c, h1, _, h2, _⟩ := (show ∃ c : Int, wrap64 (2 ^ K) = c ∧ True ∧ c = 2 ^ K ∧ True from by
    obtain ⟨pw, hpw, he, _, _⟩ := pow_fits K (by omega)
    exact ⟨pw, hpw, trivial, he, trivial⟩)
  exact ⟨c, h1, h2⟩

def OfRel (s : Int) (i : Value) : Prop := ∃ j : Nat, 3 ≤ j ∧ j ≤ 9 ∧ i = .int .i64 j ∧ Hid (∀ K : Nat, 3 ≤ K → K < j → s ≠ 2 ^ K)

set_option maxHeartbeats 2000000 in
theorem implFieldOf (s : Int) (w : World) :
    Calls Tryz.prog 135 #[.int .i64 s] w (GivesF (foP s) (foK s) (foG s) (foC s) w) := by
  have HX0 := hide ((Box.start w 25 0 0 0).alloc (.cells #[.int .i64 s, .int .i64 1, .int .i64 0] 25))
  have HY0 := hide (Box.start (w.alloc (.cells #[.int .i64 0, .int .i64 0, .int .i64 0] 25)) 25 s 1 0)
  rcases h1 : k1B s 1 with _ | _
  · have H1 := hide h1
    clear h1
    go_enter Tryz.func135, Tryz.ntmps135
    go_wp2_with fail
    refine (implFirst s 1 0 _).mono ?_
    rw [H1.out]
    rintro e w1 ⟨rfl, hb⟩
    have HX1 := hide (HX0.out.next hb)
    obtain ⟨c0, c1, c2⟩ := HX1.out.cells
    obtain ⟨f0, f1, f2⟩ := HX1.out.frozen
    clear hb HX0 HY0
    go_wp2_with fail
    go_loop [5] (fun i => OfRel s i) (fun i => 9 - (intOf i).toNat)
    case atStart => exact ⟨3, by omega, by omega, rfl, fun K h1 h2 => by omega⟩
    case round =>
      obtain ⟨j, h3, h9, rfl, HN⟩ := hrel
      by_cases h8 : j ≤ 8
      · obtain ⟨c, hc, hcc⟩ := pow_c h3 h8
        have HCC := hide hcc
        clear hcc
        by_cases hs : s = c
        · have hs' : (s == c) = true := by simpa using hs
          have HF := hide (fo_2 H1.out (isPow_at h3 h8 (by rw [hs]; exact HCC.out)))
          clear hs
          go_wp2_with fail
          refine (implLow j h3 h8 _).mono ?_
          rintro e w2 ⟨rfl, hb⟩
          have HX2 := hide (HX1.out.next hb)
          clear hb c0 c1 c2 f0 f1 f2
          obtain ⟨c0, c1, c2⟩ := HX2.out.cells
          obtain ⟨f0, f1, f2⟩ := HX2.out.frozen
          go_wp2_with fail
          refine bodyPost_ret (v := .tuple #[.agg #[.int .i64 (lowP j), .int .i64 (lowK j), .int .i64 (powG j : Nat)], .int .i64 (lowC j)]) (by simp [results, Tryz.results135, go_sem, c0, c1, c2]) rfl ⟨ret_f HF.out.1 HF.out.2.1 HF.out.2.2.1 HF.out.2.2.2, ?_⟩
          exact ((HX2.out.2.setCell (Nat.le_refl _) _).setCell (Nat.le_refl _) _).setCell (Nat.le_refl _) _
        · have hs' : (s == c) = false := by simpa using hs
          have HS := hide hs
          clear hs
          go_wp2_with fail
          go_round
          case rel => exact ⟨j + 1, by omega, by omega, by go_num, fun K h1 h2 => by
            rcases Nat.lt_or_ge K j with h4 | h4
            · exact HN.out K h1 h4
            · rw [show K = j by omega, ← HCC.out]; exact HS⟩
          case measure => simp [intOf]; omega
      · have d8 : decide ((j : Int) ≤ 8) = false := by simp; omega
        have HF := hide (fo_0 H1.out (isPow_no (fun K h1 h2 => HN.out K h1 (by omega))))
        go_wp2_with fail
        refine bodyPost_ret (v := .tuple #[.agg #[.int .i64 0, .int .i64 0, .int .i64 0], .int .i64 4]) (by simp [results, Tryz.results135, go_sem, c0, c1, c2]) rfl ⟨ret_f HF.out.1 HF.out.2.1 HF.out.2.2.1 HF.out.2.2.2, ?_⟩
        exact ((HX1.out.2.setCell (Nat.le_refl _) _).setCell (Nat.le_refl _) _).setCell (Nat.le_refl _) _
  · have H1 := hide h1
    obtain ⟨P, rfl, _, h3, h4, hp⟩ := k1_open h1
    have HF := hide (fo_1 h1)
    clear h1 hp
    go_enter Tryz.func135, Tryz.ntmps135
    go_wp2_with fail
    refine (implFirst P 1 0 _).mono ?_
    rw [H1.out]
    rintro e w1 ⟨rfl, hb⟩
    have HX1 := hide (HX0.out.next hb)
    have HY1 := hide (HY0.out.next hb)
    obtain ⟨d0, d1, d2⟩ := (show w1.cell? ⟨w.heap.size + 1, 0, none⟩ = some (.int .i64 (P : Int)) ∧ w1.cell? ⟨w.heap.size + 1, 1, none⟩ = some (.int .i64 1) ∧ w1.cell? ⟨w.heap.size + 1, 2, none⟩ = some (.int .i64 0) by have h := HY1.out.cells; rw [alloc_size] at h; exact h)
    clear hb HX0 HY0
    go_wp2_with fail
    refine (implLeast P 0 h3 h4 _).mono ?_
    rintro e w2 ⟨rfl, hb⟩
    have HX2 := hide (HX1.out.next hb)
    have HY2 := hide (HY1.out.next hb)
    clear hb d0 d1 d2
    obtain ⟨d0, d1, d2⟩ := (show w2.cell? ⟨w.heap.size + 1, 0, none⟩ = some (.int .i64 (P : Int)) ∧ w2.cell? ⟨w.heap.size + 1, 1, none⟩ = some (.int .i64 1) ∧ w2.cell? ⟨w.heap.size + 1, 2, none⟩ = some (.int .i64 0) by have h := HY2.out.cells; rw [alloc_size] at h; exact h)
    have g2 : w2.frozen? ⟨w.heap.size + 1, 2, none⟩ = false := by have h := HY2.out.frozen.2.2; rw [alloc_size] at h; exact h
    obtain ⟨c0, c1, c2⟩ := HX2.out.cells
    obtain ⟨f0, f1, f2⟩ := HX2.out.frozen
    go_wp2_with fail
    refine bodyPost_ret (v := .tuple #[.agg #[.int .i64 P, .int .i64 1, .int .i64 (least P (mul1 P) : Nat)], .int .i64 0]) (by simp [results, Tryz.results135, go_sem, c0, c1, c2]) rfl ⟨ret_f HF.out.1 HF.out.2.1 HF.out.2.2.1 HF.out.2.2.2, ?_⟩
    exact (((HX2.out.2.setCell (Nat.le_succ _) _).setCell (Nat.le_refl _) _).setCell (Nat.le_refl _) _).setCell (Nat.le_refl _) _
end Go.Proofs.YtncgeoliboidhaaGreat
