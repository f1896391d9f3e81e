/-
  The count of ones, the minimum distance and FormatDistance, of the program and of the model; StandardFormat.
  Condition: as each statement says.
-/
import Derived.Test.YtkaconpbmppekaaWd4
namespace Go.Proofs.Ytkaconpbmppekaa
open Go.RowKit
set_option linter.unusedSimpArgs false
set_option linter.unusedVariables false

set_option maxHeartbeats 1000000 in
theorem implOnesOf (x : Nat) (hx : x < 16777216) (w : World) :
    Calls Try.prog 65 #[.int .i64 x] w fun e w' => e = .returned (.int .i64 (popN 24 x : Nat)) ∧ w = w' := by
  have hcv : IntKind.u64.wrap (x : Int) = (x : Int) := by rw [IntKind.wrap_u64]; omega
  go_enter Try.func65, Try.ntmps65
  go_wp2_with fail
  refine (implOnes64 x hx w).mono ?_
  rintro e w1 ⟨rfl, rfl⟩
  go_wp2_with fail
  go_ret
  exact ⟨rfl, rfl⟩
theorem pop_len {x L : Nat} (h : x < 2 ^ L) (hL : L ≤ 24) : popN 24 x = popN L x := by
  have := pop_more h (24 - L)
  rw [show L + (24 - L) = 24 by omega] at this
  exact this

/-- The minimum distance of a code, and what FormatDistance gives. -/
def minD (D L P K : Nat) : Nat := minF L D K P (2 ^ D - 1)
theorem minD_le (D L P K : Nat) : minD D L P K ≤ L := minF_le _ _ _ _ _
theorem min_step {L D K P n x : Nat} (hx : popN L (wordF D K P (n + 1)) = x) : minF L D K P (n + 1) = min (minF L D K P n) x := by rw [← hx]; rfl

set_option maxRecDepth 100000 in
set_option maxHeartbeats 2000000 in
theorem implMin {D L P K : Nat} (h : FcIs D L P K) (w : World) :
    Calls Try.prog 53 #[.agg #[.int .i64 D, .int .i64 L, .int .i64 P]] w (Gives (.int .i64 (minD D L P K : Nat)) w) := by
  have HX := hide (Box.start w 25 D L P)
  obtain ⟨c0, c1, c2⟩ := HX.out.cells
  have HF := hide h
  have hD8 := h.d8
  have hL := h.l24
  obtain ⟨N, hN⟩ : ∃ N, N = 2 ^ D := ⟨_, rfl⟩
  have HC := hide (fun w' => implCount hD8 L P w')
  rw [← hN] at HC
  have hN1 : 1 ≤ N := by rw [hN]; exact Nat.two_pow_pos D
  have hN2 : N ≤ 256 := by rw [hN]; exact (Nat.pow_le_pow_right (n := 2) (by decide) hD8 : 2 ^ D ≤ 2 ^ 8)
  have HN := hide hN
  clear h hN
  go_enter Try.func53, Try.ntmps53
  go_wp2_with fail
  go_loopw [3, 4] (fun s i wr => ∃ (n m : Nat), n + 1 ≤ N ∧ i = .int .i64 ((n + 1 : Nat) : Int) ∧ s = .int .i64 m ∧ Hid (m = minF L D K P n) ∧ Box w wr 25 D L P) (fun _ i _ => N - (intOf i).toNat)
  case atStart => exact ⟨0, L, hN1, rfl, rfl, rfl, HX.out⟩
  case round =>
    clear c0 c1 c2
    obtain ⟨n, m, hn, rfl, rfl, HM, HX2⟩ := hrel
    have HX2 := hide HX2
    obtain ⟨c0, c1, c2⟩ := HX2.out.cells
    obtain ⟨v, hv⟩ : ∃ v, n + 1 = v := ⟨_, rfl⟩
    rw [hv] at hn ⊢
    have HV := hide hv
    have hm24 : m ≤ 24 := by rw [HM.out]; exact Nat.le_trans (minF_le _ _ _ _ _) hL
    by_cases hlt : v < N
    · have hv2 : v < 2 ^ D := by rw [← HN.out]; exact hlt
      have HW := hide (fun w' => implWord HF.out v hv2 w')
      have hx1 := HF.out.w24 hv2
      have hx := Nat.lt_of_lt_of_le hx1 (pow24 hL)
      obtain ⟨x, hxx⟩ : ∃ x, wordF D K P v = x := ⟨_, rfl⟩
      have hp24 := popN_le 24 x
      have HST := hide (show minF L D K P (n + 1) = min m (popN 24 x) by
        rw [HM.out]; exact min_step (by rw [HV.out, hxx, ← hxx, pop_len hx1 hL]))
      rw [hxx] at HW hx
      obtain ⟨y, hy⟩ : ∃ y, popN 24 x = y := ⟨_, rfl⟩
      have HO := hide (fun w' => implOnesOf x hx w')
      rw [hy] at HO HST hp24
      have HMN := hide (show (if y < m then (y : Int) else (m : Int)) = ((min m y : Nat) : Int) by split <;> omega)
      clear hxx hv hv2 hx1 hy
      go_wp2_with fail
      refine (HC.out _).mono ?_
      rintro e w1 ⟨rfl, hb⟩
      have HX3 := hide (HX2.out.next hb)
      clear hb c0 c1 c2
      obtain ⟨c0, c1, c2⟩ := HX3.out.cells
      go_wp2_with fail
      refine (HW.out _).mono ?_
      rintro e w2 ⟨rfl, hb⟩
      have HX4 := hide (HX3.out.next hb)
      clear hb c0 c1 c2
      obtain ⟨c0, c1, c2⟩ := HX4.out.cells
      go_wp2_with fail
      refine (HO.out _).mono ?_
      rintro e w3 ⟨rfl, rfl⟩
      go_wp2_with fail
      go_roundw
      case rel => exact ⟨v, min m y, by omega, by go_num, by rw [HMN.out], by rw [← HV.out]; exact HST.out.symm, HX4.out⟩
      case measure => simp [intOf]; omega
    · obtain rfl : v = N := by omega
      have HR := hide (show ((minD D L P K : Nat) : Int) = (m : Int) by
        rw [HM.out, minD, ← HN.out, ← HV.out, Nat.add_sub_cancel])
      clear hv hlt
      go_wp2_with fail
      refine (HC.out _).mono ?_
      rintro e w1 ⟨rfl, hb⟩
      have HX3 := hide (HX2.out.next hb)
      clear hb c0 c1 c2
      go_wp2_with fail
      go_ret
      exact ⟨ret_int HR, HX3.out.2⟩
set_option maxRecDepth 100000 in
set_option maxHeartbeats 2000000 in
theorem specMin {D L P K : Nat} (h : FcIs D L P K) (w : World) :
    Calls Try.prog 59 #[.agg #[.int .i64 D, .int .i64 L, .int .i64 P]] w (Gives (.int .i64 (minD D L P K : Nat)) w) := by
  have HX := hide (Box.start w 25 D L P)
  obtain ⟨c0, c1, c2⟩ := HX.out.cells
  have HF := hide h
  have hD8 := h.d8
  have hL := h.l24
  obtain ⟨N, hN⟩ : ∃ N, N = 2 ^ D := ⟨_, rfl⟩
  obtain ⟨pw, hpw, he, hp1, hp2⟩ := pow_fits D (by omega)
  obtain rfl : pw = (N : Int) := by rw [he, hN]; push_cast; rfl
  have hcv : IntKind.u64.wrap (D : Int) = (D : Int) := by rw [IntKind.wrap_u64]; omega
  have hN1 : 1 ≤ N := by rw [hN]; exact Nat.two_pow_pos D
  have hN2 : N ≤ 256 := by rw [hN]; exact (Nat.pow_le_pow_right (n := 2) (by decide) hD8 : 2 ^ D ≤ 2 ^ 8)
  have HN := hide hN
  have HW0 := hide (fun w' => specWord h 0 (by rw [← hN]; exact hN1) w')
  clear h hN he
  go_enter Try.func59, Try.ntmps59
  go_wp2_with fail
  refine (HW0.out _).mono ?_
  rintro e w1 ⟨A0, m0, rfl, hm0, hown, hb⟩
  have HX1 := hide (HX.out.next hb)
  have HI0 := hide (Own.ints hown)
  rw [bitsOf_len] at HI0 hm0 ⊢
  clear hb hown c0 c1 c2
  obtain ⟨c0, c1, c2⟩ := HX1.out.cells
  go_wp2_with fail
  go_loopw [3, 5] (fun s i wr => ∃ (n m : Nat), n + 1 ≤ N ∧ i = .int .i64 ((n + 1 : Nat) : Int) ∧ s = .int .i64 m ∧ Hid (m = minF L D K P n) ∧ Box w wr 25 D L P ∧ Below w1.heap.size w1 wr) (fun _ i _ => N - (intOf i).toNat)
  case atStart => exact ⟨0, L, hN1, rfl, rfl, rfl, HX1.out, Below.refl _ _⟩
  case round =>
    clear c0 c1 c2
    obtain ⟨n, m, hn, rfl, rfl, HM, HX2, hbl⟩ := hrel
    have HX2 := hide HX2
    have HBL := hide hbl
    obtain ⟨c0, c1, c2⟩ := HX2.out.cells
    obtain ⟨v, hv⟩ : ∃ v, n + 1 = v := ⟨_, rfl⟩
    rw [hv] at hn ⊢
    have HV := hide hv
    have hm24 : m ≤ 24 := by rw [HM.out]; exact Nat.le_trans (minF_le _ _ _ _ _) hL
    clear hbl
    by_cases hlt : v < N
    · have hv2 : v < 2 ^ D := by rw [← HN.out]; exact hlt
      have HW := hide (fun w' => specWord HF.out v hv2 w')
      have h00 : wordF D K P 0 = 0 := by
        have := word_xor HF.out.p1 HF.out.p2 hv2 hv2
        rw [Nat.xor_self, Nat.xor_self] at this
        exact this.symm
      have hdf : differ (bitsOf (wordF D K P v : Nat) L) (bitsOf (wordF D K P 0 : Nat) L) = popN L (wordF D K P v) := by rw [differ_pop, h00, Nat.xor_zero]
      have HST := hide (show minF L D K P (n + 1) = min m (popN L (wordF D K P v)) by
        rw [HM.out]; exact min_step (by rw [HV.out]))
      have hpl := popN_le L (wordF D K P v)
      obtain ⟨y, hy⟩ : ∃ y, popN L (wordF D K P v) = y := ⟨_, rfl⟩
      rw [hy] at HST hdf hpl
      have HDF := hide hdf
      have HMN := hide (show (if y < m then (y : Int) else (m : Int)) = ((min m y : Nat) : Int) by split <;> omega)
      clear hv hv2 hy h00 hdf
      go_wp2_with fail
      refine (HW.out _).mono ?_
      rintro e w2 ⟨A2, m2, rfl, hm2, hown, hb⟩
      have HX3 := hide (HX2.out.next hb)
      have HBL2 := hide (HBL.out.trans (hb.mono HBL.out.size))
      have HI2 := hide (Own.ints hown)
      rw [bitsOf_len] at HI2 hm2 ⊢
      have HI02 := hide (HI0.out.below HBL2.out)
      clear hb hown c0 c1 c2
      go_wp2_with fail
      refine (specDiffer A2 L m2 _ _ A0 m0 _ _ w2 HI2.out HI02.out (by omega)).mono ?_
      rw [HDF.out]
      rintro e w3 ⟨rfl, k3, rfl⟩
      go_wp2_with fail
      go_roundw
      case rel => exact ⟨v, min m y, by omega, by go_num, by rw [HMN.out], by rw [← HV.out]; exact HST.out.symm, HX3.out.drewN _, below_drewN HBL2.out _⟩
      case measure => simp [intOf]; omega
    · obtain rfl : v = N := by omega
      have HR := hide (show ((minD D L P K : Nat) : Int) = (m : Int) by
        rw [HM.out, minD, ← HN.out, ← HV.out, Nat.add_sub_cancel])
      clear hv hlt
      go_wp2_with fail
      go_ret
      exact ⟨ret_int HR, HX2.out.2⟩

/-- What FormatDistance gives. -/
theorem fd_both (d l p : Int) (hl : -9223372036854775808 ≤ l ∧ l ≤ 9223372036854775807) :
    ∃ a k : Int, V0 29 d l p (GivesII a k) ∧ V0 25 d l p (GivesII a k) := by
  rcases h : fcB d l p with _ | _
  · refine ⟨0, 1, fun w => ?_, fun w => ?_⟩
    · have HX := hide (Box.start w 25 d l p)
      have HV := hide (fun w' => specFcIs d l p hl.1 w')
      rw [h] at HV
      go_enter Try.func29, Try.ntmps29
      go_wp2_with fail
      refine (HV.out _).mono ?_
      rintro e w1 ⟨rfl, hb⟩
      have HX1 := hide (HX.out.next hb)
      clear hb
      go_wp2_with fail
      go_ret2
      exact ⟨rfl, HX1.out.2⟩
    · have HX := hide (Box.start w 25 d l p)
      have HV := hide (fun w' => implFcValid d l p w')
      rw [h] at HV
      go_enter Try.func25, Try.ntmps25
      go_wp2_with fail
      refine (HV.out _).mono ?_
      rintro e w1 ⟨rfl, hb⟩
      have HX1 := hide (HX.out.next hb)
      clear hb
      go_wp2_with fail
      go_ret2
      exact ⟨rfl, HX1.out.2⟩
  · obtain ⟨D, L, P, K, rfl, rfl, rfl, hf⟩ := fcB_open h
    have HF := hide hf
    refine ⟨(minD D L P K : Nat), 0, fun w => ?_, fun w => ?_⟩
    · have HX := hide (Box.start w 25 D L P)
      have HV := hide (fun w' => specFcIs D L P hl.1 w')
      rw [h] at HV
      clear h hf
      go_enter Try.func29, Try.ntmps29
      go_wp2_with fail
      refine (HV.out _).mono ?_
      rintro e w1 ⟨rfl, hb⟩
      have HX1 := hide (HX.out.next hb)
      obtain ⟨c0, c1, c2⟩ := HX1.out.cells
      clear hb
      go_wp2_with fail
      refine (specMin HF.out _).mono ?_
      rintro e w1 ⟨rfl, hb⟩
      have HX2 := hide (HX1.out.next hb)
      clear hb
      go_wp2_with fail
      go_ret2
      exact ⟨rfl, HX2.out.2⟩
    · have HX := hide (Box.start w 25 D L P)
      have HV := hide (fun w' => implFcValid D L P w')
      rw [h] at HV
      clear h hf
      go_enter Try.func25, Try.ntmps25
      go_wp2_with fail
      refine (HV.out _).mono ?_
      rintro e w1 ⟨rfl, hb⟩
      have HX1 := hide (HX.out.next hb)
      obtain ⟨c0, c1, c2⟩ := HX1.out.cells
      clear hb
      go_wp2_with fail
      refine (implMin HF.out _).mono ?_
      rintro e w1 ⟨rfl, hb⟩
      have HX2 := hide (HX1.out.next hb)
      clear hb
      go_wp2_with fail
      go_ret2
      exact ⟨rfl, HX2.out.2⟩
end Go.Proofs.Ytkaconpbmppekaa
