/-
  Format words: the model's l08Word and IsFormatCode, FormatWord of both.
  Condition: as each statement says.
-/
import Derived.Test.YtkaconpbmppekaaWd2
namespace Go.Proofs.Ytkaconpbmppekaa
open Go.RowKit
set_option linter.unusedSimpArgs false
set_option linter.unusedVariables false

/-- The code of a format code and a number, and the word. -/
def fwCode (d l p v : Int) : Int := if fcB d l p = true then (if inR v 0 (2 ^ d.toNat - 1) = true then 0 else 2) else 1
/-- The contract of a function of a format code, of one and a number, of one and lists. -/
def V0 (f : Nat) (d l p : Int) (Post : World → Ending → World → Prop) : Prop := ∀ w : World, Calls Try.prog f #[.agg #[.int .i64 d, .int .i64 l, .int .i64 p]] w (Post w)
def V0i (f : Nat) (d l p v : Int) (Post : World → Ending → World → Prop) : Prop := ∀ w : World, Calls Try.prog f #[.agg #[.int .i64 d, .int .i64 l, .int .i64 p], .int .i64 v] w (Post w)
def V1 (f : Nat) (d l p : Int) (z : List Int) (Post : World → Ending → World → Prop) : Prop :=
  ∀ (A : Option Addr) (n c B : Nat) (w : World), Ints .i64 w B A n z → B ≤ w.heap.size → Calls Try.prog f #[.agg #[.int .i64 d, .int .i64 l, .int .i64 p], .slice A n c] w (Post w)
def V2 (f : Nat) (d l p : Int) (z z' : List Int) (Post : World → Ending → World → Prop) : Prop :=
  ∀ (A : Option Addr) (n c : Nat) (A' : Option Addr) (n' c' B : Nat) (w : World), Ints .i64 w B A n z → Ints .i64 w B A' n' z' → B ≤ w.heap.size → Calls Try.prog f #[.agg #[.int .i64 d, .int .i64 l, .int .i64 p], .slice A n c, .slice A' n' c'] w (Post w)

set_option maxRecDepth 100000 in
set_option maxHeartbeats 2000000 in
theorem specFcIs (d l p : Int) (hl0 : -9223372036854775808 ≤ l) (w : World) :
    Calls Try.prog 20 #[.agg #[.int .i64 d, .int .i64 l, .int .i64 p]] w (Gives (.bool (fcB d l p)) w) := by
  have HX := hide (Box.start w 25 d l p)
  obtain ⟨c0, c1, c2⟩ := HX.out.cells
  rcases h1 : inR d 1 8 with _ | _
  · have H1 := hide h1
    have HF := hide (show fcB d l p = false by
      unfold fcB
      rw [Bool.and_eq_false_iff]; left
      simp only [inR, decide_eq_false_iff_not] at h1 ⊢
      omega)
    go_enter Try.func20, Try.ntmps20
    go_wp2_with fail
    refine (specIn_is d 1 8 false _ H1).mono ?_
    rintro e w1 ⟨rfl, rfl⟩
    go_wp2_with fail
    go_ret
    exact ⟨ret_bool HF, HX.out.2⟩
  · have H1 := hide h1
    have hd : 1 ≤ d ∧ d ≤ 8 := by simpa [inR] using h1
    obtain ⟨hd1, hd8⟩ := hd
    rcases h2 : inR l (d + 1) 24 with _ | _
    · have H2 := hide h2
      have HF := hide (show fcB d l p = false by
        unfold fcB
        rw [Bool.and_eq_false_iff]; left
        simp only [inR, decide_eq_false_iff_not] at h2 ⊢
        omega)
      clear h1 h2
      go_enter Try.func20, Try.ntmps20
      go_wp2_with fail
      refine (specIn_is d 1 8 true _ H1).mono ?_
      rintro e w1 ⟨rfl, rfl⟩
      go_wp2_with fail
      refine (specIn_is l (d + 1) 24 false _ H2).mono ?_
      rintro e w1 ⟨rfl, rfl⟩
      go_wp2_with fail
      go_ret
      exact ⟨ret_bool HF, HX.out.2⟩
    · have H2 := hide h2
      have hl : d + 1 ≤ l ∧ l ≤ 24 := by simpa [inR] using h2
      obtain ⟨hl1, hl2⟩ := hl
      obtain ⟨K, hK⟩ : ∃ K : Nat, l - d = K := ⟨(l - d).toNat, by omega⟩
      have hK24 : K ≤ 24 := by omega
      obtain ⟨pw, hpw, he, hp1, hp2⟩ := pow_fits K (by omega)
      obtain ⟨pv, hpv, he2, hp3, hp4⟩ := pow_fits (K + 1) (by omega)
      have hpv2 : IntKind.i64.wrap (2 * 2 ^ K) = pv := by rw [show (2 : Int) * 2 ^ K = 2 ^ (K + 1) by rw [Int.pow_succ, Int.mul_comm], ← he2]; exact IntWalk.i64_in _ ⟨by omega, by omega⟩
      have HF := hide (show fcB d l p = inR p pw (pv - 1) by
        unfold fcB inR
        rw [fdiv_one, hK, Int.toNat_natCast, decide_eq_true (by omega), Bool.true_and, he, he2, decide_eq_decide]
        omega)
      have hcv : IntKind.u64.wrap (K : Int) = (K : Int) := by rw [IntKind.wrap_u64]; omega
      clear h1 h2 he he2 hpv
      go_enter Try.func20, Try.ntmps20
      go_wp2_with fail
      refine (specIn_is d 1 8 true _ H1).mono ?_
      rintro e w1 ⟨rfl, rfl⟩
      go_wp2_with fail
      refine (specIn_is l (d + 1) 24 true _ H2).mono ?_
      rintro e w1 ⟨rfl, rfl⟩
      go_wp2_with fail
      refine (specIn_is p pw (pv - 1) _ _ rfl).mono ?_
      rintro e w1 ⟨rfl, rfl⟩
      go_wp2_with fail
      go_ret
      exact ⟨ret_bool HF, HX.out.2⟩

set_option maxHeartbeats 1000000 in
theorem implFcIs (d l p : Int) (w : World) :
    Calls Try.prog 19 #[.agg #[.int .i64 d, .int .i64 l, .int .i64 p]] w (Gives (.bool (fcB d l p)) w) := by
  have HX := hide (Box.start w 25 d l p)
  go_enter Try.func19, Try.ntmps19
  go_wp2_with fail
  refine (implFcValid d l p _).mono ?_
  rintro e w1 ⟨rfl, hb⟩
  have HX1 := hide (HX.out.next hb)
  clear hb
  go_wp2_with fail
  go_ret
  exact ⟨rfl, HX1.out.2⟩
theorem isFc_both (d l p : Int) (hl0 : -9223372036854775808 ≤ l ∧ l ≤ 9223372036854775807) :
    ∃ b : Bool, V0 20 d l p (Gives (.bool b)) ∧ V0 19 d l p (Gives (.bool b)) :=
  ⟨_, fun w => specFcIs d l p hl0.1 w, fun w => implFcIs d l p w⟩

set_option maxRecDepth 100000 in
set_option maxHeartbeats 4000000 in
theorem specWord {D L P K : Nat} (h : FcIs D L P K) (v : Nat) (hv : v < 2 ^ D) (w : World) :
    Calls Try.prog 49 #[.agg #[.int .i64 D, .int .i64 L, .int .i64 P], .int .i64 v] w (NewInts 2 .i64 (bitsOf (wordF D K P v : Nat) L) w) := by
  have HX := hide (Box.start w 25 D L P)
  obtain ⟨c0, c1, c2⟩ := HX.out.cells
  have HF := hide h
  have HV := hide hv
  have hD8 := h.d8
  have hD1 := h.d1
  have hK1 := h.k1
  have hlk := h.lk
  have hK : K ≤ 24 := by have := h.l24; omega
  obtain ⟨s, hs⟩ : ∃ s, s = v * 2 ^ K := ⟨_, rfl⟩
  have hs24 : s < 16777216 := by rw [hs]; exact h.shl hv
  have hsh := shlI hs hs24
  have HS := hide hs
  have hP := h.p24
  have hv24 : v < 16777216 := by
    have : v * 1 ≤ v * 2 ^ K := Nat.mul_le_mul_left v (Nat.two_pow_pos K)
    omega
  have hkk : (L : Int) - (D : Int) = (K : Int) := by omega
  have hcv : IntKind.u64.wrap (K : Int) = (K : Int) := by rw [IntKind.wrap_u64]; omega
  have hll : (L : Int) - 1 = ((K + D : Nat) : Int) - 1 := by omega
  have HL := hide hlk
  have hL24 : L ≤ 24 := h.l24
  clear h hv hs hlk
  go_enter Try.func49, Try.ntmps49
  go_wp2_with fail
  clear hll
  go_loopw [6, 7] (fun r i wr => ∃ (t rr b : Nat), t ≤ D ∧ b + 1 = K + t ∧ i = .int .i64 b ∧ r = .int .i64 rr ∧ Hid (rr = redR K P D s (D - t)) ∧ Box w wr 25 D L P) (fun _ i _ => (intOf i + 1).toNat)
  case atStart =>
    have := HL.out
    exact ⟨D, s, K + D - 1, Nat.le_refl _, by omega, by congr 1; omega, rfl, by rw [Nat.sub_self]; exact rfl, HX.out⟩
  case round =>
    clear c0 c1 c2
    obtain ⟨t, r, b, ht, hbt, rfl, rfl, HR, HX2⟩ := hrel
    have HX2 := hide HX2
    obtain ⟨c0, c1, c2⟩ := HX2.out.cells
    have hr : r < 16777216 := by rw [HR.out, HS.out]; exact HF.out.red HV.out (by omega)
    by_cases ht0 : t = 0
    · subst ht0
      have hb1 : decide ((K : Int) ≤ (b : Int)) = false := by simp; omega
      have hb2 : decide (K ≤ b) = false := by simp; omega
      have hrr : r = remF D K P v := by rw [HR.out, HS.out]; rfl
      have HW := hide (show bitsOf (v : Int) D ++ bitsOf (r : Int) K = bitsOf (wordF D K P v : Nat) L by
        rw [HL.out, hrr]; exact (bitsOf_app (rem_lt HF.out.p1 HF.out.p2 HV.out)).symm)
      clear hrr HR hbt
      go_wp2_with fail
      refine (specAppendL none 0 0 wr.heap.size D [] (v : Int) wr Ints.empty (Nat.le_refl _) (by omega) (by omega) (by omega) (by omega)).mono ?_
      rintro e w3 ⟨v3, rfl, hown, hb⟩
      have HX3 := hide (HX2.out.next hb)
      have HO3 := hide hown
      obtain ⟨A3, m3, rfl, hm3⟩ := HO3.out.form
      have HI3 := hide (Own.ints hown)
      rw [List.nil_append, bitsOf_len] at HI3 hm3 ⊢
      clear hb hown c0 c1 c2
      go_wp2_with fail
      refine (specAppendL A3 _ m3 w3.heap.size K (bitsOf (v : Int) D) (r : Int) w3 HI3.out (Nat.le_refl _) (by omega) (by omega) (by omega) (by omega)).mono ?_
      rintro e w4 ⟨v4, rfl, hown, hb⟩
      have HX4 := hide (HX3.out.next hb)
      rw [HW.out] at hown
      have HO4 := hide (hown.low (base' := w.heap.size) (Nat.le_of_lt HX3.out.lt))
      clear hb hown
      go_wp2_with fail
      go_ret
      obtain ⟨A4, m4, rfl, hm4⟩ := HO4.out.form
      exact ⟨A4, m4, rfl, hm4, HO4.out, HX4.out.2⟩
    · obtain ⟨i, rfl⟩ : ∃ i, t = i + 1 := ⟨t - 1, by omega⟩
      obtain rfl : b = K + i := by omega
      have hi8 : i + 1 ≤ 8 := by omega
      have HI := hide ht
      clear hbt ht ht0
      obtain ⟨m, hm⟩ : ∃ m, m = K + i := ⟨_, rfl⟩
      rw [← hm]
      have hm3 : m ≤ 40 := by omega
      have hmK : K ≤ m := by omega
      have hmi : (m : Int) - (K : Int) = (i : Int) := by omega
      have hcm : IntKind.u64.wrap (m : Int) = (m : Int) := by rw [IntKind.wrap_u64]; omega
      have hci : IntKind.u64.wrap (i : Int) = (i : Int) := by rw [IntKind.wrap_u64]; omega
      have HM := hide hm
      obtain ⟨q, hq⟩ : ∃ q, q = P * 2 ^ i := ⟨_, rfl⟩
      have hq24 : q < 16777216 := by rw [hq]; exact HF.out.psh HI.out
      have hqs := shlI hq hq24
      have hx := xorI64 hr hq24
      have hbit := bitI (m := m) hr
      obtain ⟨x, hxx⟩ : ∃ x, x = r ^^^ q := ⟨_, rfl⟩
      rw [← hxx] at hx
      rcases (show r / 2 ^ m % 2 = 0 ∨ r / 2 ^ m % 2 = 1 by omega) with h2 | h2
      · rw [h2] at hbit
        have HN := hide (show r = redR K P D s (D - i) by rw [red_step HI.out, ← HR.out]; exact (step_no (by rw [Nat.add_comm, ← hm]; exact h2)).symm)
        clear HR hm hq hxx h2
        go_wp2_with fail
        go_roundw
        case rel => exact ⟨i, r, m - 1, by have := HI.out; omega, by have := HM.out; omega, by congr 1; omega, rfl, HN, HX2.out⟩
        case measure => simp [intOf]; try omega
      · rw [h2] at hbit
        have HN := hide (show x = redR K P D s (D - i) by rw [red_step HI.out, ← HR.out, step_yes (by rw [Nat.add_comm, ← hm]; exact h2), ← hq]; exact hxx)
        clear HR hm hq hxx h2
        go_wp2_with fail
        go_roundw
        case rel => exact ⟨i, x, m - 1, by have := HI.out; omega, by have := HM.out; omega, by congr 1; omega, rfl, HN, HX2.out⟩
        case measure => simp [intOf]; try omega
end Go.Proofs.Ytkaconpbmppekaa
