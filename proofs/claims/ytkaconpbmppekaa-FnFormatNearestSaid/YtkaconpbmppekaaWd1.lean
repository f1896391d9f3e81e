/-
  Format codes: what is valid, and the count of ones of a number of 24 bits.
  Condition: as each statement says.
-/
import Derived.Test.YtkaconpbmppekaaProg
import Derived.Test.YtkaconpbmppekaaWdMath
import Derived.Test.YtkaconpbmppekaaBox
import Derived.Test.YtkaconpbmppekaaSpecIn
import Derived.Deep.RegionHeld3
import Derived.Deep.QuietTactic
import Derived.BigQuiet
namespace Go.Proofs.Ytkaconpbmppekaa
open Go.RowKit
set_option linter.unusedSimpArgs false
set_option linter.unusedVariables false

theorem u64Nat (a : Nat) (ha : a < 18446744073709551616) : (BitVec.ofInt 64 (a : Int)).toNat = a := by
  rw [BitVec.ofInt_natCast, BitVec.toNat_ofNat]; exact Nat.mod_eq_of_lt (by omega)
theorem andU (a m : Nat) (ha : a < 18446744073709551616) (hm : m < 18446744073709551616) : bits .and .u64 (a : Int) (m : Int) = ((a &&& m : Nat) : Int) := by
  show IntKind.u64.wrap ((BitVec.ofInt 64 (a : Int) &&& BitVec.ofInt 64 (m : Int)).toNat : Int) = _
  have h : a &&& m ≤ a := Nat.and_le_left
  rw [BitVec.toNat_and, u64Nat a ha, u64Nat m hm, IntKind.wrap_u64]
  omega
theorem andI (a m : Nat) (ha : a < 9223372036854775808) (hm : m < 9223372036854775808) : bits .and .i64 (a : Int) (m : Int) = ((a &&& m : Nat) : Int) := by
  show IntKind.i64.wrap ((BitVec.ofInt 64 (a : Int) &&& BitVec.ofInt 64 (m : Int)).toNat : Int) = _
  have h : a &&& m ≤ a := Nat.and_le_left
  rw [BitVec.toNat_and, u64Nat a (by omega), u64Nat m (by omega), IntKind.wrap_i64]
  omega
theorem orI (a m : Nat) (ha : a < 4611686018427387904) (hm : m < 4611686018427387904) : bits .or .i64 (a : Int) (m : Int) = ((a ||| m : Nat) : Int) := by
  show IntKind.i64.wrap ((BitVec.ofInt 64 (a : Int) ||| BitVec.ofInt 64 (m : Int)).toNat : Int) = _
  have h : a ||| m < 2 ^ 62 := Nat.or_lt_two_pow (show a < 2 ^ 62 from ha) (show m < 2 ^ 62 from hm)
  rw [BitVec.toNat_or, u64Nat a (by omega), u64Nat m (by omega), IntKind.wrap_i64]
  omega

set_option maxHeartbeats 1000000 in
theorem implOnes64 (x : Nat) (hx : x < 16777216) (w : World) :
    Calls Try.prog 73 #[.int .u64 (x : Int)] w fun e w' => e = .returned (.int .i64 (popN 24 x : Nat)) ∧ w = w' := by
  obtain ⟨a, b, c, ha, hb, hc, h3, hp, l1, l2⟩ := pop_is hx
  obtain ⟨y4, y5, e4, e5, b4, b5, z5, m5⟩ := swar_sum ha hb hc h3
  have HP := hide hp
  have k1 : bits .and .u64 ((x : Int) / 2) 6148914691236517205 = ((x / 2 &&& 6148914691236517205 : Nat) : Int) := by
    have := andU (x / 2) 6148914691236517205 (by omega) (by decide); simpa using this
  have k2 : bits .and .u64 (x : Int) 6148914691236517205 = ((x &&& 6148914691236517205 : Nat) : Int) := by
    have := andU x 6148914691236517205 (by omega) (by decide); simpa using this
  have HM := hide m5
  have HS3 := hide h3
  obtain ⟨y1, hy1⟩ : ∃ y, y = swar1 x := ⟨_, rfl⟩
  rw [← hy1] at l1 l2 h3
  obtain ⟨y2, hy2⟩ : ∃ y, y = swar2 y1 := ⟨_, rfl⟩
  rw [← hy2] at l2 h3
  obtain ⟨y3, hy3⟩ : ∃ y, y = swar3 y2 := ⟨_, rfl⟩
  have h3' : y3 = a + 256 * (b + 256 * c) := by rw [hy3, h3]
  have l3 : y3 ≤ 600000 := by omega
  rw [← hy1, ← hy2, ← hy3] at e4
  have q1 : x / 2 &&& 6148914691236517205 ≤ x / 2 := Nat.and_le_left
  have q2 : x &&& 6148914691236517205 ≤ x := Nat.and_le_left
  have k3 : IntKind.u64.wrap (((x / 2 &&& 6148914691236517205 : Nat) : Int) + ((x &&& 6148914691236517205 : Nat) : Int)) = (y1 : Int) := by
    rw [IntKind.wrap_u64, hy1]; unfold swar1; omega
  have k4 : bits .and .u64 ((y1 : Int) / 4) 3689348814741910323 = ((y1 / 4 &&& 3689348814741910323 : Nat) : Int) := by
    have := andU (y1 / 4) 3689348814741910323 (by omega) (by decide); simpa using this
  have k5 : bits .and .u64 (y1 : Int) 3689348814741910323 = ((y1 &&& 3689348814741910323 : Nat) : Int) := by
    have := andU y1 3689348814741910323 (by omega) (by decide); simpa using this
  have q3 : y1 / 4 &&& 3689348814741910323 ≤ y1 / 4 := Nat.and_le_left
  have q4 : y1 &&& 3689348814741910323 ≤ y1 := Nat.and_le_left
  have k6 : IntKind.u64.wrap (((y1 / 4 &&& 3689348814741910323 : Nat) : Int) + ((y1 &&& 3689348814741910323 : Nat) : Int)) = (y2 : Int) := by
    rw [IntKind.wrap_u64, hy2]; unfold swar2; omega
  obtain ⟨z2, hz2⟩ : ∃ z, z = y2 / 16 + y2 := ⟨_, rfl⟩
  have k7 : IntKind.u64.wrap ((y2 : Int) / 16 + (y2 : Int)) = (z2 : Int) := by rw [IntKind.wrap_u64, hz2]; omega
  have k8 : bits .and .u64 (z2 : Int) 1085102592571150095 = (y3 : Int) := by
    have := andU z2 1085102592571150095 (by omega) (by decide)
    rw [hy3]; unfold swar3; rw [← hz2]; simpa using this
  have k9 : IntKind.u64.wrap ((y3 : Int) + (y3 : Int) / 256) = (y4 : Int) := by rw [IntKind.wrap_u64, e4]; omega
  have k10 : IntKind.u64.wrap ((y4 : Int) + (y4 : Int) / 65536) = (y5 : Int) := by rw [IntKind.wrap_u64, e5]; omega
  have k11 : IntKind.u64.wrap ((y5 : Int) + (y5 : Int) / 4294967296) = (y5 : Int) := by rw [IntKind.wrap_u64]; omega
  have k12 : bits .and .i64 (y5 : Int) 127 = ((y5 % 128 : Nat) : Int) := by
    have := andI y5 127 (by omega) (by decide)
    rw [show (127 : Nat) = 2 ^ 7 - 1 from rfl, Nat.and_two_pow_sub_one_eq_mod] at this
    simpa using this
  obtain ⟨r, hr⟩ : ∃ r, r = y5 % 128 := ⟨_, rfl⟩
  rw [← hr] at k12
  have HR := hide (show popN 24 x = r by rw [hr, HM.out, HP.out])
  clear hp h3 h3' e4 e5 hy1 hy2 hy3 hz2 hr z5 m5 q1 q2 q3 q4 ha hb hc
  go_enter Try.func73, Try.ntmps73
  go_wp2_with fail
  go_ret
  exact ⟨ret_int (by rw [HR.out]), rfl⟩

/-- These numbers are a valid format code: its data, its length, its polynomial; K: how many bits are checks. -/
structure FcIs (D L P K : Nat) : Prop where
  d1 : 1 ≤ D
  d8 : D ≤ 8
  k1 : 1 ≤ K
  lk : L = D + K
  l24 : L ≤ 24
  p1 : 2 ^ K ≤ P
  p2 : P < 2 ^ (K + 1)
theorem pow24 {n : Nat} (h : n ≤ 24) : 2 ^ n ≤ 16777216 := (Nat.pow_le_pow_right (n := 2) (by decide) h : 2 ^ n ≤ 2 ^ 24)
theorem FcIs.p24 {D L P K : Nat} (h : FcIs D L P K) : P < 16777216 := by
  have h1 := h.lk; have h2 := h.l24; have h3 := h.d1
  have := pow24 (n := K + 1) (by omega)
  have := h.p2
  omega
theorem FcIs.w24 {D L P K v : Nat} (h : FcIs D L P K) (hv : v < 2 ^ D) : wordF D K P v < 2 ^ L := by
  have := word_lt h.p1 h.p2 hv
  rwa [← h.lk] at this
def fcB (d l p : Int) : Bool := decide (1 ≤ d ∧ d ≤ 8 ∧ d < l ∧ l ≤ 24) && (p / 2 ^ (l - d).toNat == 1)
theorem fdiv_one {g : Int} {K : Nat} : (g / 2 ^ K == 1) = decide (2 ^ K ≤ g ∧ g < 2 ^ (K + 1)) := by
  have hp : (0 : Int) < 2 ^ K := Int.pow_pos (by decide)
  rw [Bool.eq_iff_iff, beq_iff_eq, decide_eq_true_eq, Int.pow_succ]
  generalize (2 : Int) ^ K = d at hp
  constructor
  · intro h
    have h1 := Int.ediv_mul_le g (b := d) (by omega)
    have h2 := Int.lt_ediv_add_one_mul_self g hp
    rw [h] at h1 h2
    omega
  · rintro ⟨h1, h2⟩
    have h3 : 1 ≤ g / d := (Int.le_ediv_iff_mul_le hp).2 (by omega)
    have h4 : g / d < 2 := (Int.ediv_lt_iff_lt_mul hp).2 (by omega)
    omega
theorem fcB_open {d l p : Int} (h : fcB d l p = true) : ∃ D L P K : Nat, d = D ∧ l = L ∧ p = P ∧ FcIs D L P K := by
  unfold fcB at h
  rw [fdiv_one, Bool.and_eq_true, decide_eq_true_eq, decide_eq_true_eq] at h
  obtain ⟨⟨h1, h2, h3, h4⟩, h5, h6⟩ := h
  have hp : (0 : Int) < 2 ^ (l - d).toNat := Int.pow_pos (by decide)
  refine ⟨d.toNat, l.toNat, p.toNat, (l - d).toNat, by omega, by omega, by omega, by omega, by omega, by omega, by omega, by omega, ?_, ?_⟩
  · have : ((2 ^ (l - d).toNat : Nat) : Int) ≤ (p.toNat : Int) := by rw [Int.toNat_of_nonneg (by omega)]; push_cast; exact h5
    exact Int.ofNat_le.1 this
  · have : (p.toNat : Int) < ((2 ^ ((l - d).toNat + 1) : Nat) : Int) := by rw [Int.toNat_of_nonneg (by omega)]; push_cast; exact h6
    exact Int.ofNat_lt.1 this
theorem fcB_of {D L P K : Nat} (h : FcIs D L P K) : fcB D L P = true := by
  have h1 := h.lk; have h2 := h.l24; have h3 := h.d1; have h4 := h.d8; have h5 := h.k1; have h6 := h.p1; have h7 := h.p2
  unfold fcB
  rw [fdiv_one, Bool.and_eq_true, decide_eq_true_eq, decide_eq_true_eq, show ((L : Int) - (D : Int)).toNat = K by omega]
  refine ⟨by omega, ?_, ?_⟩
  · have := Int.ofNat_le.2 h6; push_cast at this; exact this
  · have := Int.ofNat_lt.2 h7; push_cast at this; exact this

set_option maxHeartbeats 1000000 in
theorem implCheck {D L K : Nat} (hL : L = D + K) (h : L ≤ 24) (p : Int) (w : World) :
    Calls Try.prog 60 #[.agg #[.int .i64 D, .int .i64 L, .int .i64 p]] w (Gives (.int .i64 K) w) := by
  have HX := hide (Box.start w 25 D L p)
  have hw : (L : Int) - (D : Int) = (K : Int) := by omega
  have hK : K ≤ 24 := by omega
  clear hL
  go_enter Try.func60, Try.ntmps60
  go_wp2_with fail
  go_ret
  exact ⟨rfl, HX.out.2⟩
set_option maxHeartbeats 1000000 in
theorem implCount {D : Nat} (h : D ≤ 8) (l p : Int) (w : World) :
    Calls Try.prog 64 #[.agg #[.int .i64 D, .int .i64 l, .int .i64 p]] w (Gives (.int .i64 (2 ^ D : Nat)) w) := by
  have HX := hide (Box.start w 25 D l p)
  obtain ⟨pw, hpw, he, hp1, hp2⟩ := pow_fits D (by omega)
  have HE := hide he
  clear he
  go_enter Try.func64, Try.ntmps64
  go_wp2_with fail
  go_ret
  exact ⟨ret_int (by rw [hpw, HE.out]; simp), HX.out.2⟩

set_option maxRecDepth 100000 in
set_option maxHeartbeats 4000000 in
theorem implFcValid (d l p : Int) (w : World) :
    Calls Try.prog 44 #[.agg #[.int .i64 d, .int .i64 l, .int .i64 p]] w (Gives (.bool (fcB d l p)) w) := by
  have HX := hide (Box.start w 25 d l p)
  obtain ⟨c0, c1, c2⟩ := HX.out.cells
  rcases (show decide (1 ≤ d) = false ∨ (decide (1 ≤ d) = true ∧ decide (d ≤ 8) = false) ∨ (decide (1 ≤ d) = true ∧ decide (d ≤ 8) = true ∧ decide (d < l) = false) ∨ (decide (1 ≤ d) = true ∧ decide (d ≤ 8) = true ∧ decide (d < l) = true ∧ decide (l ≤ 24) = false) ∨ (decide (1 ≤ d) = true ∧ decide (d ≤ 8) = true ∧ decide (d < l) = true ∧ decide (l ≤ 24) = true) by
    simp only [decide_eq_false_iff_not, decide_eq_true_eq]; omega) with h1 | ⟨h1, h2⟩ | ⟨h1, h2, h3⟩ | ⟨h1, h2, h3, h4⟩ | ⟨h1, h2, h3, h4⟩
  rotate_left 4
  · have hb1 := of_decide_eq_true h1
    have hb2 := of_decide_eq_true h2
    have hb3 := of_decide_eq_true h3
    have hb4 := of_decide_eq_true h4
    obtain ⟨D, L, K, rfl, rfl, hL, hK1⟩ : ∃ D L K : Nat, d = D ∧ l = L ∧ L = D + K ∧ 1 ≤ K := ⟨d.toNat, l.toNat, l.toNat - d.toNat, by omega, by omega, by omega, by omega⟩
    have HF := hide (show fcB D L p = (p / 2 ^ K == 1) by
      unfold fcB
      rw [show ((L : Int) - (D : Int)).toNat = K by omega, decide_eq_true (by omega), Bool.true_and])
    have HC := hide (fun w' => implCheck hL (by omega) p w')
    have hK : K ≤ 24 := by omega
    clear hL
    rcases hq : (p / 2 ^ K == 1) with _ | _ <;> (
      have HQ := hide hq
      go_enter Try.func44, Try.ntmps44
      go_wp2_with fail
      go_region_held3 (fun w' => w'.cell? ⟨w.heap.size, 0, none⟩ = some (.int .i64 D) ∧ w'.cell? ⟨w.heap.size, 1, none⟩ = some (.int .i64 L) ∧ w'.cell? ⟨w.heap.size, 2, none⟩ = some (.int .i64 p))
        (first
          | exact HX.out.drew.cells
          | exact HX2.out.cells)
        (first
          | (go_at_call 60; refine (HC.out _).mono ?_; rintro e w2 ⟨rfl, hb⟩; have HX2 := hide (HX.out.drew.next hb); clear hb))
      go_wp2_with fail
      go_ret
      exact ⟨ret_bool (by rw [HF.out, HQ.out]), HX2.out.2⟩)
  all_goals
    have HF := hide (show fcB d l p = false from by
      unfold fcB
      rw [Bool.and_eq_false_iff]; left
      simp only [decide_eq_false_iff_not, decide_eq_true_eq] at *; omega)
    go_enter Try.func44, Try.ntmps44
    go_wp2_with fail
    go_quiet (fail)
    go_wp2_with fail
    go_ret
    exact ⟨ret_bool HF, (HX.out.drewN _).2⟩
end Go.Proofs.Ytkaconpbmppekaa
