/-
  Lists with unknown bits: listError of the program, l08Away of the model.
  Condition: the lists are shorter than 2^40.
-/
import Derived.Test.YtkaconpbmppekaaWd6
namespace Go.Proofs.Ytkaconpbmppekaa
open Go.RowKit
set_option linter.unusedSimpArgs false
set_option linter.unusedVariables false

/-- The list number i of a slice of lists: they lie in the block g. -/
def Lst (w : World) (B g : Nat) (A : Nat → Option Addr) (n c : Nat → Nat) (Z : Nat → List Int) (N : Nat) : Prop :=
  ∀ i, i < N → w.cell? ⟨g, i, none⟩ = some (.slice (A i) (n i) (c i)) ∧ Ints .i64 w B (A i) (n i) (Z i) ∧ n i ≤ 1099511627776
/-- The code of lists that a valid format code is given. -/
def lstR (L : Nat) (Z : Nat → List Int) (N : Nat) : Int := if (List.range N).all (fun i => okL L (Z i)) = true then 0 else 2
theorem lst_all {f : Nat → Bool} {N : Nat} (h : ∀ i, i < N → f i = true) : (List.range N).all f = true := List.all_eq_true.2 fun i hi => h i (List.mem_range.1 hi)
theorem lstR_yes {L N : Nat} {Z : Nat → List Int} (h : ∀ i, i < N → okL L (Z i) = true) : lstR L Z N = 0 := by rw [lstR, if_pos (List.all_eq_true.2 fun i hi => h i (List.mem_range.1 hi))]
theorem lstR_no {L N i : Nat} {Z : Nat → List Int} (hi : i < N) (h : okL L (Z i) = false) : lstR L Z N = 2 := by
  rw [lstR, if_neg]
  intro e
  have := List.all_eq_true.1 e i (List.mem_range.2 hi)
  rw [h] at this
  cases this
theorem lst_no {f : Nat → Bool} {N i : Nat} (hi : i < N) (h : f i = false) : (List.range N).all f = false := List.all_eq_false.2 ⟨i, List.mem_range.2 hi, by simp [h]⟩

set_option maxRecDepth 100000 in
set_option maxHeartbeats 2000000 in
theorem implListErr_bad (d l p : Int) (h : fcB d l p = false) (A : Option Addr) (N c : Nat) (w : World) :
    Calls Try.prog 55 #[.agg #[.int .i64 d, .int .i64 l, .int .i64 p], .slice A N c] w (Gives (.int .i64 1) w) := by
  have HX := hide (Box.start w 25 d l p)
  have HV := hide (fun w' => implFcValid d l p w')
  rw [h] at HV
  clear h
  go_enter Try.func55, Try.ntmps55
  go_wp2_with fail
  refine (HV.out _).mono ?_
  rintro e w1 ⟨rfl, hb⟩
  have HX1 := hide (HX.out.next hb)
  clear hb
  go_wp2_with fail
  go_ret
  exact ⟨rfl, HX1.out.2⟩
set_option maxRecDepth 100000 in
set_option maxHeartbeats 2000000 in
theorem implListErr {D L P K : Nat} (h : FcIs D L P K) (B g N c : Nat) (A : Nat → Option Addr) (n cc : Nat → Nat) (Z : Nat → List Int) (w : World) (hL : Lst w B g A n cc Z N) (hB : B ≤ w.heap.size) (hg : g < w.heap.size) (hN : N ≤ 2) :
    Calls Try.prog 55 #[.agg #[.int .i64 D, .int .i64 L, .int .i64 P], .slice (some ⟨g, 0, none⟩) N c] w (Gives (.int .i64 (lstR L Z N)) w) := by
  have HX := hide (Box.start w 25 D L P)
  have HV := hide (fun w' => implFcValid D L P w')
  rw [fcB_of h] at HV
  have HL := hide hL
  have hL24 := h.l24
  clear h hL
  go_enter Try.func55, Try.ntmps55
  go_wp2_with fail
  refine (HV.out _).mono ?_
  rintro e w1 ⟨rfl, hb⟩
  have HX1 := hide (HX.out.next hb)
  obtain ⟨c0, c1, c2⟩ := HX1.out.cells
  have HL1 := hide (show Lst w1 B g A n cc Z N from fun i hi => by
    obtain ⟨a1, a2, a3⟩ := HL.out i hi
    exact ⟨(HX1.out.2.cell (p := ⟨g, i, none⟩) hg).trans a1, a2.below (HX1.out.2.mono hB), a3⟩)
  clear hb HL
  go_wp2_with fail
  go_loop [12] (fun i => ∃ j : Nat, j ≤ N ∧ i = .int .i64 j ∧ Hid (∀ i, i < j → okL L (Z i) = true)) (fun i => N - (intOf i).toNat)
  case atStart => exact ⟨0, Nat.zero_le _, rfl, fun i hi => absurd hi (Nat.not_lt_zero i)⟩
  case round =>
    obtain ⟨j, hj, rfl, HA⟩ := hrel
    by_cases hlt : j < N
    · obtain ⟨q1, q2, q3⟩ := HL1.out j hlt
      have HI := hide q2
      have hzl := hide q2.len
      obtain ⟨Aj, hAj⟩ : ∃ a, A j = a := ⟨_, rfl⟩
      obtain ⟨nj, hnj⟩ : ∃ a, n j = a := ⟨_, rfl⟩
      obtain ⟨cj, hcj⟩ : ∃ a, cc j = a := ⟨_, rfl⟩
      obtain ⟨zj, hzj⟩ : ∃ a, Z j = a := ⟨_, rfl⟩
      rw [hAj, hnj, hcj] at q1
      rw [hAj, hnj, hzj] at HI
      rw [hnj, hzj] at hzl
      rw [hnj] at q3
      have HZ := hide hzj
      clear q2 hAj hnj hcj hzj
      by_cases hle : nj = L
      · subst hle
        have e0 : ((nj : Int) != (nj : Int)) = false := by simp
        rcases ht : zj.all isTri with _ | _
        · have HT := hide ht
          have HR := hide (show lstR nj Z N = 2 from lstR_no hlt (by rw [HZ.out]; unfold okL; rw [ht]; rfl))
          clear ht
          go_wp2_with (go_at_call 66; refine (implHasBits _ _ _ B zj _ HI.out q3).mono ?_; rw [HT.out]; rintro e w' ⟨rfl, rfl⟩)
          go_ret
          exact ⟨ret_int HR, HX1.out.2⟩
        · have HT := hide ht
          have HO := hide (show okL nj (Z j) = true by rw [HZ.out]; unfold okL; rw [ht, hzl.out]; simp)
          clear ht
          go_wp2_with (go_at_call 66; refine (implHasBits _ _ _ B zj _ HI.out q3).mono ?_; rw [HT.out]; rintro e w' ⟨rfl, rfl⟩)
          go_round
          case rel => exact ⟨j + 1, by omega, by go_num, fun i hi => by
            rcases (show i < j ∨ i = j by omega) with h | rfl
            · exact HA.out i h
            · exact HO.out⟩
          case measure => simp [intOf]; omega
      · have e0 : ((nj : Int) != (L : Int)) = true := by simp; omega
        have HR := hide (show lstR L Z N = 2 from lstR_no hlt (by
          rw [HZ.out]; unfold okL; rw [hzl.out, Bool.and_eq_false_iff]; right; simpa using hle))
        clear hle
        go_wp2_with fail
        go_ret
        exact ⟨ret_int HR, HX1.out.2⟩
    · obtain rfl : j = N := by omega
      have HR := hide (show lstR L Z j = 0 from lstR_yes HA.out)
      go_wp2_with fail
      go_ret
      exact ⟨ret_int HR, HX1.out.2⟩

set_option maxRecDepth 100000 in
set_option maxHeartbeats 1000000 in
theorem specAway (A : Option Addr) (n c B : Nat) (ws : List Int) (A' : Option Addr) (c' B' : Nat) (zs : List Int) (w : World) (hI : Ints .i64 w B A n ws) (hJ : Ints .i64 w B' A' n zs) (hn : n ≤ 1000) :
    Calls Try.prog 71 #[.slice A n c, .slice A' n c'] w (Tells (.tuple #[.int .i64 (awayL ws zs : Nat), .int .i64 (unkL zs : Nat)]) w) := by
  have hl := hide hI.len
  have hl' := hide hJ.len
  have HI := hide hI
  have HJ := hide hJ
  clear hI hJ
  go_enter Try.func71, Try.ntmps71
  go_wp2
  go_loopw [6, 7, 8] (fun a b i wr => ∃ k t u : Nat, k ≤ n ∧ i = .int .i64 k ∧ a = .int .i64 t ∧ b = .int .i64 u ∧ t ≤ k ∧ u ≤ k ∧ Hid (awayL (ws.take k) (zs.take k) = t) ∧ Hid (unkL (zs.take k) = u) ∧ ∃ m, wr = w.drewN m) (fun _ _ i _ => n - (intOf i).toNat)
  case atStart => exact ⟨0, 0, 0, by omega, rfl, rfl, rfl, by omega, by omega, by simp [Hid, awayL], by simp [Hid, unkL], 0, rfl⟩
  case round =>
    obtain ⟨k, t, u, hk, rfl, rfl, rfl, ht, hu, HT, HU, m, rfl⟩ := hrel
    by_cases hlt : k < n
    · obtain ⟨b, off, x, rfl, hb, hx, hc⟩ := HI.out.at_ hlt
      obtain ⟨b', off', z, rfl, hb', hz, hc'⟩ := HJ.out.at_ hlt
      have hk1 : (ws.take k).length = (zs.take k).length := by rw [List.length_take, List.length_take, hl.out, hl'.out]
      have HS := hide (show awayL (ws.take (k + 1)) (zs.take (k + 1)) = t + (if 0 ≤ z ∧ x ≠ z then 1 else 0) by rw [take_snocI hx, take_snocI hz, away_snoc hk1, HT.out])
      have HV := hide (show unkL (zs.take (k + 1)) = u + (if z < 0 then 1 else 0) by rw [take_snocI hz, unk_snoc, HU.out])
      clear hx hz hk1
      have z1 : (k : Int) < (n : Int) := by omega
      have z0 : (0 : Int) ≤ (k : Int) := by omega
      by_cases hz0 : z < 0
      · rw [if_neg (by omega)] at HS
        rw [if_pos hz0] at HV
        go_wp2
        go_roundw
        case rel => exact ⟨k + 1, t, u + 1, by omega, by go_num, rfl, by go_num, by omega, by omega, HS.out, HV.out, _, rfl⟩
        case measure => simp [intOf]; omega
      · rw [if_neg hz0] at HV
        have hz2 : decide (z < 0) = false := by simpa using hz0
        by_cases hxz : z = x
        · subst hxz
          rw [if_neg (by simp)] at HS
          have e0 : (z != z) = false := by simp
          go_wp2
          go_quiet (fail)
          go_wp2
          go_roundw
          case rel => exact ⟨k + 1, t, u, by omega, by go_num, rfl, rfl, by omega, by omega, HS.out, HV.out, _, rfl⟩
          case measure => simp [intOf]; omega
        · rw [if_pos ⟨by omega, fun e => hxz e.symm⟩] at HS
          have e0 : (z != x) = true := by simpa using hxz
          clear hxz
          go_wp2
          go_quiet (fail)
          go_wp2
          go_roundw
          case rel => exact ⟨k + 1, t + 1, u, by omega, by go_num, by go_num, rfl, by omega, by omega, HS.out, HV.out, _, rfl⟩
          case measure => simp [intOf]; omega
    · have HF := hide (show awayL ws zs = t by
        have := HT.out
        rw [List.take_of_length_le (by rw [hl.out]; omega), List.take_of_length_le (by rw [hl'.out]; omega)] at this
        exact this)
      have HG := hide (show unkL zs = u by
        have := HU.out
        rw [List.take_of_length_le (by rw [hl'.out]; omega)] at this
        exact this)
      go_wp2
      go_ret2
      exact ⟨by rw [HF.out, HG.out]; rfl, m, rfl⟩
end Go.Proofs.Ytkaconpbmppekaa
