/-
  Format words: the contracts of word and l08Word, IsFormatCode, FormatWord, of the program and of the model.
  Condition: as each statement says.
-/
import Derived.Test.YtkaconpbmppekaaWd1
import Derived.Test.YtkaconpbmppekaaAppend
namespace Go.Proofs.Ytkaconpbmppekaa
open Go.RowKit
set_option linter.unusedSimpArgs false
set_option linter.unusedVariables false

theorem red_step {K P D s i : Nat} (hi : i + 1 ≤ D) : redR K P D s (D - i) = stepR K P i (redR K P D s (D - (i + 1))) := by
  rw [show D - i = (D - (i + 1)) + 1 by omega]
  show stepR K P (D - 1 - (D - (i + 1))) _ = _
  rw [show D - 1 - (D - (i + 1)) = i by omega]
theorem FcIs.red {D L P K v : Nat} (h : FcIs D L P K) (hv : v < 2 ^ D) {j : Nat} (hj : j ≤ D) : redR K P D (v * 2 ^ K) j < 16777216 := by
  have h1 := red_lt h.p1 h.p2 (shl_lt (k := K) hv) j hj
  have h2 := h.lk; have h3 := h.l24
  exact Nat.lt_of_lt_of_le h1 (pow24 (by omega))
theorem FcIs.shl {D L P K v : Nat} (h : FcIs D L P K) (hv : v < 2 ^ D) : v * 2 ^ K < 16777216 := by
  have h1 := shl_lt (k := K) hv
  have h2 := h.lk; have h3 := h.l24
  exact Nat.lt_of_lt_of_le h1 (pow24 (by omega))
theorem FcIs.psh {D L P K i : Nat} (h : FcIs D L P K) (hi : i + 1 ≤ D) : P * 2 ^ i < 16777216 := by
  have h1 := shl_lt (d := K + 1) (k := i) h.p2
  have h2 := h.lk; have h3 := h.l24
  exact Nat.lt_of_lt_of_le h1 (pow24 (by omega))
/-- A number shifted to the left. -/
theorem shlI {v k s : Nat} (h : s = v * 2 ^ k) (hs : s < 16777216) : IntKind.i64.wrap ((v : Int) * 2 ^ k) = (s : Int) := by
  rw [show (v : Int) * 2 ^ k = ((v * 2 ^ k : Nat) : Int) by push_cast; rfl, ← h, IntWalk.i64_in _ ⟨by omega, by omega⟩]
theorem bitI {r m : Nat} (h : r < 16777216) : bits .and .i64 ((r : Int) / 2 ^ m) 1 = ((r / 2 ^ m % 2 : Nat) : Int) := by
  have hc : ((r : Int) / 2 ^ m) = ((r / 2 ^ m : Nat) : Int) := by simp
  have h1 : r / 2 ^ m ≤ r := Nat.div_le_self _ _
  rw [hc]
  generalize r / 2 ^ m = x at h1
  rw [and1 _ (by omega) (by omega)]
  omega
theorem xorI64 {r q : Nat} (hr : r < 16777216) (hq : q < 16777216) : bits .xor .i64 (r : Int) (q : Int) = ((r ^^^ q : Nat) : Int) := i64xor _ _ (by omega) (by omega)

set_option maxRecDepth 100000 in
set_option maxHeartbeats 2000000 in
theorem implWord {D L P K : Nat} (h : FcIs D L P K) (v : Nat) (hv : v < 2 ^ D) (w : World) :
    Calls Try.prog 47 #[.agg #[.int .i64 D, .int .i64 L, .int .i64 P], .int .i64 v] w (Gives (.int .i64 (wordF D K P v : Nat)) w) := by
  have HX := hide (Box.start w 25 D L P)
  have HC := hide (fun w' => implCheck h.lk h.l24 P w')
  have HF := hide h
  have HV := hide hv
  have hD8 := h.d8
  have hD1 := h.d1
  have hK1 := h.k1
  have hK : K ≤ 24 := by have := h.lk; have := h.l24; omega
  obtain ⟨s, hs⟩ : ∃ s, s = v * 2 ^ K := ⟨_, rfl⟩
  have hs24 : s < 16777216 := by rw [hs]; exact h.shl hv
  have hsh := shlI hs hs24
  have HS := hide hs
  have hP := h.p24
  have hv24 : v < 16777216 := by
    have : v * 1 ≤ v * 2 ^ K := Nat.mul_le_mul_left v (Nat.two_pow_pos K)
    omega
  clear h hv hs
  go_enter Try.func47, Try.ntmps47
  go_wp2_with fail
  refine (HC.out _).mono ?_
  rintro e w1 ⟨rfl, hb⟩
  have HX1 := hide (HX.out.next hb)
  obtain ⟨c0, c1, c2⟩ := HX1.out.cells
  clear hb
  go_wp2_with fail
  go_loopw [6, 7] (fun r i wr => ∃ (t rr : Nat) (kk : Int), t ≤ D ∧ kk = (t : Int) - 1 ∧ i = .int .i64 kk ∧ r = .int .i64 rr ∧ Hid (rr = redR K P D s (D - t)) ∧ Box w wr 25 D L P) (fun _ i _ => (intOf i + 1).toNat)
  case atStart => exact ⟨D, s, _, Nat.le_refl _, rfl, rfl, rfl, by rw [Nat.sub_self]; exact rfl, HX1.out⟩
  case round =>
    clear c0 c1 c2
    obtain ⟨t, r, kk, ht, hkk, rfl, rfl, HR, HX2⟩ := hrel
    have HX2 := hide HX2
    obtain ⟨c0, c1, c2⟩ := HX2.out.cells
    have hr : r < 16777216 := by rw [HR.out, HS.out]; exact HF.out.red HV.out (by omega)
    by_cases ht0 : t = 0
    · subst ht0
      obtain rfl : kk = -1 := by omega
      have hor : bits .or .i64 (s : Int) (r : Int) = ((s ||| r : Nat) : Int) := orI s r (by omega) (by omega)
      have HW := hide (show ((wordF D K P v : Nat) : Int) = ((s ||| r : Nat) : Int) by
        have hrr : r = remF D K P v := by rw [HR.out, HS.out]; rfl
        have := or_word (v := v) (rem_lt HF.out.p1 HF.out.p2 HV.out)
        rw [HS.out, hrr, this]
        rfl)
      obtain ⟨z, hz⟩ : ∃ z, z = s ||| r := ⟨_, rfl⟩
      rw [← hz] at hor HW
      clear hz HR hkk
      go_wp2_with fail
      go_ret
      exact ⟨ret_int HW, HX2.out.2⟩
    · obtain ⟨i, rfl⟩ : ∃ i, t = i + 1 := ⟨t - 1, by omega⟩
      obtain rfl : kk = (i : Int) := by omega
      have hi8 : i + 1 ≤ 8 := by omega
      have HI := hide ht
      clear hkk ht ht0
      obtain ⟨m, hm⟩ : ∃ m, m = i + K := ⟨_, rfl⟩
      have hm2 : (i : Int) + (K : Int) = (m : Int) := by omega
      have hm3 : m ≤ 40 := by omega
      obtain ⟨q, hq⟩ : ∃ q, q = P * 2 ^ i := ⟨_, rfl⟩
      have hq24 : q < 16777216 := by rw [hq]; exact HF.out.psh HI.out
      have hqs := shlI hq hq24
      have hx := xorI64 hr hq24
      have hbit := bitI (m := m) hr
      obtain ⟨x, hxx⟩ : ∃ x, x = r ^^^ q := ⟨_, rfl⟩
      rw [← hxx] at hx
      rcases (show r / 2 ^ m % 2 = 0 ∨ r / 2 ^ m % 2 = 1 by omega) with h2 | h2
      · rw [h2] at hbit
        have HN := hide (show r = redR K P D s (D - i) by rw [red_step HI.out, ← HR.out]; exact (step_no (by rw [← hm]; exact h2)).symm)
        clear HR hm hq hxx h2
        go_wp2_with fail
        refine (HC.out _).mono ?_
        rintro e w3 ⟨rfl, hb⟩
        have HX3 := hide (HX2.out.next hb)
        clear hb c0 c1 c2
        obtain ⟨c0, c1, c2⟩ := HX3.out.cells
        go_wp2_with fail
        go_roundw
        case rel => exact ⟨i, r, _, by have := HI.out; omega, rfl, rfl, rfl, HN, HX3.out⟩
        case measure => simp [intOf]
      · rw [h2] at hbit
        have HN := hide (show x = redR K P D s (D - i) by rw [red_step HI.out, ← HR.out, step_yes (by rw [← hm]; exact h2), ← hq]; exact hxx)
        clear HR hm hq hxx h2
        go_wp2_with fail
        refine (HC.out _).mono ?_
        rintro e w3 ⟨rfl, hb⟩
        have HX3 := hide (HX2.out.next hb)
        clear hb c0 c1 c2
        obtain ⟨c0, c1, c2⟩ := HX3.out.cells
        go_wp2_with fail
        go_roundw
        case rel => exact ⟨i, x, _, by have := HI.out; omega, rfl, rfl, rfl, HN, HX3.out⟩
        case measure => simp [intOf]
end Go.Proofs.Ytkaconpbmppekaa
