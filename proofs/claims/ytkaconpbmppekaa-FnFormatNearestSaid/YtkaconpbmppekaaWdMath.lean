/-
  Plain mathematics of format words: divisions of bits, their linearity, the count of ones, distances of lists with unknown bits, the nearest word.
  No condition.
-/
import Derived.Test.YtkaconpbmppekaaBitsMath
namespace Go.Proofs.Ytkaconpbmppekaa
set_option linter.unusedVariables false
/-- How many of the lowest bits are ones. -/
def popN : Nat → Nat → Nat
  | 0, _ => 0
  | n + 1, x => x % 2 + popN n (x / 2)
theorem popN_le : ∀ n x, popN n x ≤ n
  | 0, _ => Nat.le_refl _
  | n + 1, x => by
    have := popN_le n (x / 2)
    show x % 2 + popN n (x / 2) ≤ _
    omega
theorem popN_zero : ∀ n, popN n 0 = 0
  | 0 => rfl
  | n + 1 => by show 0 % 2 + popN n (0 / 2) = 0; rw [show 0 / 2 = 0 from rfl, popN_zero n]
theorem popN_app : ∀ m n a y, a < 2 ^ m → popN (m + n) (a + 2 ^ m * y) = popN m a + popN n y
  | 0, n, a, y, h => by
    have : a = 0 := by simpa using h
    subst this; simp [popN]
  | m + 1, n, a, y, h => by
    have e : 2 ^ (m + 1) * y = 2 * (2 ^ m * y) := by rw [Nat.pow_succ]; ac_rfl
    have hp : 2 ^ (m + 1) = 2 * 2 ^ m := by rw [Nat.pow_succ]; omega
    rw [show m + 1 + n = m + n + 1 by omega, e]
    show (a + 2 * (2 ^ m * y)) % 2 + popN (m + n) ((a + 2 * (2 ^ m * y)) / 2) = a % 2 + popN m (a / 2) + popN n y
    rw [show (a + 2 * (2 ^ m * y)) / 2 = a / 2 + 2 ^ m * y by omega, popN_app m n (a / 2) y (by omega)]
    omega
theorem and_split {a b c d : Nat} (ha : a < 256) (hc : c < 256) : (a + 256 * b) &&& (c + 256 * d) = (a &&& c) + 256 * (b &&& d) := by
  have h1 := Nat.and_mod_two_pow (a := a + 256 * b) (b := c + 256 * d) (n := 8)
  have h2 := Nat.and_div_two_pow (a := a + 256 * b) (b := c + 256 * d) (n := 8)
  rw [show 2 ^ 8 = 256 from rfl] at h1 h2
  rw [show (a + 256 * b) % 256 = a by omega, show (c + 256 * d) % 256 = c by omega] at h1
  rw [show (a + 256 * b) / 256 = b by omega, show (c + 256 * d) / 256 = d by omega] at h2
  omega
theorem mask3 {a b c m M : Nat} (ha : a < 256) (hb : b < 256) (hc : c < 256) (hm : m < 256) :
    (a + 256 * (b + 256 * c)) &&& (m + 256 * (m + 256 * (m + 256 * M))) = (a &&& m) + 256 * ((b &&& m) + 256 * (c &&& m)) := by
  rw [and_split ha hm, and_split hb hm]
  have := and_split (a := c) (b := 0) (c := m) (d := M) hc hm
  rw [Nat.mul_zero, Nat.add_zero, Nat.zero_and, Nat.mul_zero, Nat.add_zero] at this
  rw [this]
def pbA (a : Nat) : Nat := (a / 2 &&& 85) + (a &&& 85)
def pbB (a : Nat) : Nat := (a / 4 &&& 51) + (a &&& 51)
def pbC (a : Nat) : Nat := (a / 16 + a) &&& 15
theorem sh1 : ∀ (a : Fin 256) (b : Fin 2), (a.val / 2 + 128 * b.val) &&& 85 = a.val / 2 &&& 85 := by decide +kernel
theorem sh2 : ∀ (a : Fin 256) (b : Fin 4), (a.val / 4 + 64 * b.val) &&& 51 = a.val / 4 &&& 51 := by decide +kernel
theorem sh3 : ∀ (a : Fin 136) (b : Fin 16), (a.val + 16 * b.val) &&& 15 = a.val &&& 15 := by decide +kernel
theorem s1_lt : ∀ a : Fin 256, pbA a.val < 256 := by decide +kernel
theorem s2_lt : ∀ a : Fin 256, pbB (pbA a.val) < 69 := by decide +kernel
theorem s2_nib : ∀ a : Fin 256, pbB (pbA a.val) % 16 ≤ 4 := by decide +kernel
theorem s3_is : ∀ a : Fin 256, pbC (pbB (pbA a.val)) = popN 8 a.val := by decide +kernel
def swar1 (x : Nat) : Nat := (x / 2 &&& 6148914691236517205) + (x &&& 6148914691236517205)
def swar2 (x : Nat) : Nat := (x / 4 &&& 3689348814741910323) + (x &&& 3689348814741910323)
def swar3 (x : Nat) : Nat := (x / 16 + x) &&& 1085102592571150095
theorem swar1_is {a b c : Nat} (ha : a < 256) (hb : b < 256) (hc : c < 256) : swar1 (a + 256 * (b + 256 * c)) = pbA a + 256 * (pbA b + 256 * pbA c) := by
  have e : (6148914691236517205 : Nat) = 85 + 256 * (85 + 256 * (85 + 256 * 366503875925)) := by decide
  have h : (a + 256 * (b + 256 * c)) / 2 = (a / 2 + 128 * (b % 2)) + 256 * ((b / 2 + 128 * (c % 2)) + 256 * (c / 2)) := by omega
  unfold swar1
  rw [h, e, mask3 (by omega) (by omega) (by omega) (by omega), mask3 ha hb hc (by omega)]
  have q1 := sh1 ⟨a, ha⟩ ⟨b % 2, by omega⟩
  have q2 := sh1 ⟨b, hb⟩ ⟨c % 2, by omega⟩
  simp only at q1 q2
  rw [q1, q2]
  unfold pbA
  omega
theorem swar2_is {a b c : Nat} (ha : a < 256) (hb : b < 256) (hc : c < 256) : swar2 (a + 256 * (b + 256 * c)) = pbB a + 256 * (pbB b + 256 * pbB c) := by
  have e : (3689348814741910323 : Nat) = 51 + 256 * (51 + 256 * (51 + 256 * 219902325555)) := by decide
  have h : (a + 256 * (b + 256 * c)) / 4 = (a / 4 + 64 * (b % 4)) + 256 * ((b / 4 + 64 * (c % 4)) + 256 * (c / 4)) := by omega
  unfold swar2
  rw [h, e, mask3 (by omega) (by omega) (by omega) (by omega), mask3 ha hb hc (by omega)]
  have q1 := sh2 ⟨a, ha⟩ ⟨b % 4, by omega⟩
  have q2 := sh2 ⟨b, hb⟩ ⟨c % 4, by omega⟩
  simp only at q1 q2
  rw [q1, q2]
  unfold pbB
  omega
theorem swar3_is {a b c : Nat} (ha : a < 69) (hb : b < 69) (hc : c < 69) (nb : b % 16 ≤ 4) (nc : c % 16 ≤ 4) : swar3 (a + 256 * (b + 256 * c)) = pbC a + 256 * (pbC b + 256 * pbC c) := by
  have e : (1085102592571150095 : Nat) = 15 + 256 * (15 + 256 * (15 + 256 * 64677154575)) := by decide
  have h : (a + 256 * (b + 256 * c)) / 16 + (a + 256 * (b + 256 * c)) = (a / 16 + a + 16 * (b % 16)) + 256 * ((b / 16 + b + 16 * (c % 16)) + 256 * (c / 16 + c)) := by omega
  unfold swar3
  rw [h, e, mask3 (by omega) (by omega) (by omega) (by omega)]
  have q1 := sh3 ⟨a / 16 + a, by omega⟩ ⟨b % 16, by omega⟩
  have q2 := sh3 ⟨b / 16 + b, by omega⟩ ⟨c % 16, by omega⟩
  simp only at q1 q2
  rw [q1, q2]
  rfl
/-- The sum of the bytes. -/
theorem swar_sum {a b c : Nat} (ha : a ≤ 8) (hb : b ≤ 8) (hc : c ≤ 8) {y : Nat} (hy : y = a + 256 * (b + 256 * c)) :
    ∃ y4 y5, y4 = y + y / 256 ∧ y5 = y4 + y4 / 65536 ∧ y4 ≤ 1000000 ∧ y5 ≤ 1000100 ∧ y5 / 4294967296 = 0 ∧ y5 % 128 = a + b + c := by
  have h1 : y / 256 = b + 256 * c := by omega
  have h2 : y + y / 256 = a + b + 256 * (b + c) + 65536 * c := by omega
  have h3 : (y + y / 256) / 65536 = c := by rw [h2]; omega
  refine ⟨_, _, rfl, rfl, by omega, ?_, ?_, ?_⟩ <;> rw [h3, h2] <;> omega
theorem pop_is {x : Nat} (hx : x < 16777216) : ∃ a b c, a ≤ 8 ∧ b ≤ 8 ∧ c ≤ 8 ∧ swar3 (swar2 (swar1 x)) = a + 256 * (b + 256 * c) ∧ popN 24 x = a + b + c ∧ swar1 x < 16777216 ∧ swar2 (swar1 x) < 16777216 := by
  obtain ⟨a, b, c, ha, hb, hc, rfl⟩ : ∃ a b c, a < 256 ∧ b < 256 ∧ c < 256 ∧ x = a + 256 * (b + 256 * c) :=
    ⟨x % 256, x / 256 % 256, x / 65536, by omega, by omega, by omega, by omega⟩
  have l1 := s1_lt ⟨a, ha⟩; have l2 := s1_lt ⟨b, hb⟩; have l3 := s1_lt ⟨c, hc⟩
  have m1 := s2_lt ⟨a, ha⟩; have m2 := s2_lt ⟨b, hb⟩; have m3 := s2_lt ⟨c, hc⟩
  have p1 := s3_is ⟨a, ha⟩; have p2 := s3_is ⟨b, hb⟩; have p3 := s3_is ⟨c, hc⟩
  have n2 := s2_nib ⟨b, hb⟩; have n3 := s2_nib ⟨c, hc⟩
  simp only at l1 l2 l3 m1 m2 m3 p1 p2 p3 n2 n3
  refine ⟨popN 8 a, popN 8 b, popN 8 c, popN_le _ _, popN_le _ _, popN_le _ _, ?_, ?_, ?_, ?_⟩
  · rw [swar1_is ha hb hc, swar2_is l1 l2 l3, swar3_is m1 m2 m3 n2 n3, p1, p2, p3]
  · have e1 := popN_app 8 16 a (b + 256 * c) (by omega)
    have e2 := popN_app 8 8 b c (by omega)
    rw [show (2 : Nat) ^ 8 = 256 from rfl] at e1 e2
    rw [show (24 : Nat) = 8 + 16 from rfl, e1, show (16 : Nat) = 8 + 8 from rfl, e2]
    omega
  · rw [swar1_is ha hb hc]; omega
  · rw [swar1_is ha hb hc, swar2_is l1 l2 l3]; omega

theorem tb {x m : Nat} : x / 2 ^ m % 2 = 1 ↔ x.testBit m = true := by rw [Nat.testBit_eq_decide_div_mod_eq]; simp
/-- One step of a division. -/
def stepR (k p s r : Nat) : Nat := if r / 2 ^ (s + k) % 2 = 1 then r ^^^ (p * 2 ^ s) else r
def redR (k p d r : Nat) : Nat → Nat
  | 0 => r
  | j + 1 => stepR k p (d - 1 - j) (redR k p d r j)
/-- The remainder of a number's bits, and its word. -/
def remF (d k p v : Nat) : Nat := redR k p d (v * 2 ^ k) d
def wordF (d k p v : Nat) : Nat := v * 2 ^ k + remF d k p v
theorem step_yes {k p s r : Nat} (h : r / 2 ^ (s + k) % 2 = 1) : stepR k p s r = r ^^^ (p * 2 ^ s) := if_pos h
theorem step_no {k p s r : Nat} (h : r / 2 ^ (s + k) % 2 = 0) : stepR k p s r = r := if_neg (by omega)
theorem step_lt {k p s r : Nat} (h1 : 2 ^ k ≤ p) (h2 : p < 2 ^ (k + 1)) (hr : r < 2 ^ (s + 1 + k)) : stepR k p s r < 2 ^ (s + k) := by
  have hp : p.testBit k = true := by
    refine tb.1 ?_
    rw [Nat.pow_succ] at h2
    have : p / 2 ^ k = 1 := Nat.div_eq_of_lt_le (by omega) (by omega)
    rw [this]
  unfold stepR
  split
  · rename_i hb
    have hb := tb.1 hb
    refine Nat.lt_pow_two_of_testBit _ fun i hi => ?_
    rw [Nat.testBit_xor, Nat.testBit_mul_two_pow]
    by_cases he : i = s + k
    · subst he
      rw [hb, show s + k - s = k by omega, hp]
      simp
    · have a1 : r.testBit i = false := Nat.testBit_lt_two_pow (Nat.lt_of_lt_of_le hr (Nat.pow_le_pow_right (by decide) (by omega)))
      have a2 : p.testBit (i - s) = false := Nat.testBit_lt_two_pow (Nat.lt_of_lt_of_le h2 (Nat.pow_le_pow_right (by decide) (by omega)))
      rw [a1, a2]; simp
  · rename_i hb
    have e : 2 ^ (s + 1 + k) = 2 * 2 ^ (s + k) := by rw [show s + 1 + k = s + k + 1 by omega, Nat.pow_succ]; omega
    have : r / 2 ^ (s + k) < 2 := Nat.div_lt_of_lt_mul (by rw [Nat.mul_comm]; omega)
    have h0 : r / 2 ^ (s + k) = 0 := by
      generalize r / 2 ^ (s + k) = q at this hb
      omega
    exact (Nat.div_eq_zero_iff.1 h0).resolve_left (by have := Nat.two_pow_pos (s + k); omega)
theorem red_lt {k p d r : Nat} (h1 : 2 ^ k ≤ p) (h2 : p < 2 ^ (k + 1)) (hr : r < 2 ^ (d + k)) : ∀ j, j ≤ d → redR k p d r j < 2 ^ (d - j + k)
  | 0, _ => hr
  | j + 1, h => by
    have := red_lt h1 h2 hr j (by omega)
    rw [show d - j + k = d - 1 - j + 1 + k by omega] at this
    have := step_lt h1 h2 this
    rw [show d - (j + 1) + k = d - 1 - j + k by omega]
    exact this
theorem shl_lt {v d k : Nat} (h : v < 2 ^ d) : v * 2 ^ k < 2 ^ (d + k) := by
  rw [Nat.pow_add]; exact Nat.mul_lt_mul_of_pos_right h (Nat.two_pow_pos k)
theorem rem_lt {d k p v : Nat} (h1 : 2 ^ k ≤ p) (h2 : p < 2 ^ (k + 1)) (hv : v < 2 ^ d) : remF d k p v < 2 ^ k := by
  have := red_lt h1 h2 (shl_lt (k := k) hv) d (Nat.le_refl _)
  rwa [Nat.sub_self, Nat.zero_add] at this
theorem word_lt {d k p v : Nat} (h1 : 2 ^ k ≤ p) (h2 : p < 2 ^ (k + 1)) (hv : v < 2 ^ d) : wordF d k p v < 2 ^ (d + k) := by
  have a := rem_lt h1 h2 hv
  have b : (v + 1) * 2 ^ k ≤ 2 ^ d * 2 ^ k := Nat.mul_le_mul_right _ hv
  rw [← Nat.pow_add, Nat.add_mul] at b
  unfold wordF
  omega
theorem or_word {v k r : Nat} (h : r < 2 ^ k) : v * 2 ^ k ||| r = v * 2 ^ k + r := by
  have := Nat.shiftLeft_add_eq_or_of_lt h v
  rw [Nat.shiftLeft_eq] at this
  exact this.symm
theorem xor_word {v k r : Nat} (h : r < 2 ^ k) : v * 2 ^ k ^^^ r = v * 2 ^ k + r := by
  rw [← or_word h]
  refine Nat.eq_of_testBit_eq fun i => ?_
  rw [Nat.testBit_xor, Nat.testBit_or, Nat.testBit_mul_two_pow]
  by_cases hi : k ≤ i
  · rw [Nat.testBit_lt_two_pow (Nat.lt_of_lt_of_le h (Nat.pow_le_pow_right (by decide) hi))]
    simp
  · simp [hi]
theorem xor4 (a b c d : Nat) : (a ^^^ b) ^^^ (c ^^^ d) = (a ^^^ c) ^^^ (b ^^^ d) := by
  rw [Nat.xor_assoc, Nat.xor_assoc, ← Nat.xor_assoc b c d, Nat.xor_comm b c, Nat.xor_assoc c b d]
theorem step_xor (k p s a b : Nat) : stepR k p s (a ^^^ b) = stepR k p s a ^^^ stepR k p s b := by
  unfold stepR
  simp only [tb, Nat.testBit_xor]
  rcases ha : a.testBit (s + k) with _ | _ <;> rcases hb : b.testBit (s + k) with _ | _
  · simp
  · simp [Nat.xor_assoc]
  · simp only [Bool.xor_false, Bool.false_eq_true, if_false, if_true]
    rw [Nat.xor_assoc, Nat.xor_assoc, Nat.xor_comm b]
  · simp only [Bool.xor_self, Bool.false_eq_true, if_false, if_true]
    rw [xor4, Nat.xor_self, Nat.xor_zero]
theorem red_xor (k p d a b : Nat) : ∀ j, redR k p d (a ^^^ b) j = redR k p d a j ^^^ redR k p d b j
  | 0 => rfl
  | j + 1 => by
    show stepR k p _ _ = stepR k p _ _ ^^^ stepR k p _ _
    rw [red_xor k p d a b j, step_xor]
theorem mul_xor (a b k : Nat) : (a ^^^ b) * 2 ^ k = a * 2 ^ k ^^^ b * 2 ^ k := by
  rw [← Nat.shiftLeft_eq, ← Nat.shiftLeft_eq, ← Nat.shiftLeft_eq, Nat.shiftLeft_xor_distrib]
/-- The sum of two words is a word. -/
theorem word_xor {d k p v u : Nat} (h1 : 2 ^ k ≤ p) (h2 : p < 2 ^ (k + 1)) (hv : v < 2 ^ d) (hu : u < 2 ^ d) : wordF d k p v ^^^ wordF d k p u = wordF d k p (v ^^^ u) := by
  have h3 : v ^^^ u < 2 ^ d := Nat.xor_lt_two_pow hv hu
  unfold wordF
  rw [← xor_word (rem_lt h1 h2 hv), ← xor_word (rem_lt h1 h2 hu), ← xor_word (rem_lt h1 h2 h3), xor4, mul_xor]
  congr 1
  unfold remF
  rw [mul_xor, red_xor]
/-- The least number of ones of a word of 1 .. n. -/
def minF (l d k p : Nat) : Nat → Nat
  | 0 => l
  | n + 1 => min (minF l d k p n) (popN l (wordF d k p (n + 1)))
theorem minF_le (l d k p : Nat) : ∀ n, minF l d k p n ≤ l
  | 0 => Nat.le_refl _
  | n + 1 => Nat.le_trans (Nat.min_le_left _ _) (minF_le l d k p n)
theorem minF_min {l d k p : Nat} : ∀ {n v}, 1 ≤ v → v ≤ n → minF l d k p n ≤ popN l (wordF d k p v)
  | 0, v, h1, h2 => by omega
  | n + 1, v, h1, h2 => by
    by_cases h : v = n + 1
    · subst h; exact Nat.min_le_right _ _
    · exact Nat.le_trans (Nat.min_le_left _ _) (minF_min h1 (by omega))
/-- Two words differ at no fewer indices than the minimum distance. -/
theorem word_far {l d k p v u : Nat} (h1 : 2 ^ k ≤ p) (h2 : p < 2 ^ (k + 1)) (hv : v < 2 ^ d) (hu : u < 2 ^ d) (hne : v ≠ u) : minF l d k p (2 ^ d - 1) ≤ popN l (wordF d k p v ^^^ wordF d k p u) := by
  have h3 : v ^^^ u < 2 ^ d := Nat.xor_lt_two_pow hv hu
  rw [word_xor h1 h2 hv hu]
  refine minF_min ?_ (by omega)
  rcases Nat.eq_zero_or_pos (v ^^^ u) with h | h
  · exact absurd (by have := congrArg (· ^^^ u) h; simpa [Nat.xor_assoc] using this) hne
  · exact h
/-- The first number with the least distance, and this distance. -/
def bestF (f : Nat → Nat) (l : Nat) : Nat → Nat × Nat
  | 0 => (0, l + 1)
  | n + 1 => if f n < (bestF f l n).2 then (n, f n) else bestF f l n
theorem best_yes {f : Nat → Nat} {l n : Nat} (h : f n < (bestF f l n).2) : bestF f l (n + 1) = (n, f n) := if_pos h
theorem best_no {f : Nat → Nat} {l n : Nat} (h : ¬ f n < (bestF f l n).2) : bestF f l (n + 1) = bestF f l n := if_neg h
theorem best_spec {f : Nat → Nat} {l : Nat} (hf : ∀ v, f v ≤ l) : ∀ n, 0 < n → (bestF f l n).1 < n ∧ f (bestF f l n).1 = (bestF f l n).2 ∧ (∀ v, v < n → (bestF f l n).2 ≤ f v) ∧ (∀ v, v < (bestF f l n).1 → (bestF f l n).2 < f v)
  | 0, h => by omega
  | n + 1, _ => by
    rcases Nat.eq_zero_or_pos n with h0 | h0
    · subst h0
      have : f 0 < (bestF f l 0).2 := by have := hf 0; show f 0 < l + 1; omega
      rw [best_yes this]
      refine ⟨Nat.lt_succ_self _, rfl, fun v hv => ?_, fun v hv => by omega⟩
      rw [show v = 0 by omega]; exact Nat.le_refl _
    · obtain ⟨a, b, c, e⟩ := best_spec hf n h0
      by_cases h : f n < (bestF f l n).2
      · rw [best_yes h]
        refine ⟨Nat.lt_succ_self _, rfl, fun v hv => ?_, fun v hv => ?_⟩
        · by_cases hv' : v = n
          · subst hv'; exact Nat.le_refl _
          · have := c v (by omega); show f n ≤ f v; omega
        · have := c v hv; show f n < f v; omega
      · rw [best_no h]
        refine ⟨by omega, b, fun v hv => ?_, e⟩
        by_cases hv' : v = n
        · subst hv'; omega
        · exact c v (by omega)
/-- The least of the distances and the length, as the program holds it. -/
def leastF (f : Nat → Nat) (l : Nat) : Nat → Nat
  | 0 => l
  | n + 1 => min (leastF f l n) (f n)
theorem least_is {f : Nat → Nat} {l : Nat} (hf : ∀ v, f v ≤ l) : ∀ n, 0 < n → leastF f l n = (bestF f l n).2
  | 0, h => by omega
  | n + 1, _ => by
    have hn := hf n
    show min (leastF f l n) (f n) = _
    rcases Nat.eq_zero_or_pos n with h0 | h0
    · subst h0
      have : f 0 < (bestF f l 0).2 := by show f 0 < l + 1; omega
      rw [best_yes this]
      show min l (f 0) = f 0
      omega
    · rw [least_is hf n h0]
      by_cases h : f n < (bestF f l n).2
      · rw [best_yes h]; show min _ (f n) = f n; omega
      · rw [best_no h]; omega
theorem bitsOf_snocN (x n : Nat) : bitsOf (x : Int) (n + 1) = bitsOf ((x / 2 : Nat) : Int) n ++ [((x % 2 : Nat) : Int)] := by
  unfold bitsOf
  rw [List.range_succ, List.map_append]
  congr 1
  · refine List.map_congr_left fun i hi => ?_
    have hi := List.mem_range.1 hi
    rw [show n + 1 - 1 - i = n - 1 - i + 1 by omega, Int.pow_succ, Int.natCast_ediv, Int.mul_comm, ← Int.ediv_ediv_of_nonneg (by decide)]
    rfl
  · simp
theorem bitsOf_bitN {x : Int} {n : Nat} {z : Int} (h : z ∈ bitsOf x n) : z = 0 ∨ z = 1 := by
  unfold bitsOf at h
  obtain ⟨i, _, rfl⟩ := List.mem_map.1 h
  omega
theorem bitsOf_app {d k v r : Nat} (h : r < 2 ^ k) : bitsOf ((v * 2 ^ k + r : Nat) : Int) (d + k) = bitsOf (v : Int) d ++ bitsOf (r : Int) k := by
  apply List.ext_getElem?
  intro j
  by_cases hj : j < d
  · rw [List.getElem?_append_left (by rw [bitsOf_len]; exact hj), bitsOf_at _ hj, bitsOf_at _ (by omega)]
    have e : (v * 2 ^ k + r) / 2 ^ (d + k - 1 - j) = v / 2 ^ (d - 1 - j) := by
      rw [show d + k - 1 - j = k + (d - 1 - j) by omega, Nat.pow_add, ← Nat.div_div_eq_div_mul, Nat.mul_comm v, Nat.mul_add_div (Nat.two_pow_pos k), Nat.div_eq_of_lt h, Nat.add_zero]
    have := congrArg (fun x : Nat => ((x % 2 : Nat) : Int)) e
    simpa using this
  · by_cases hj2 : j < d + k
    · rw [List.getElem?_append_right (by rw [bitsOf_len]; omega), bitsOf_len, bitsOf_at _ hj2, bitsOf_at _ (by omega)]
      have e : (v * 2 ^ k + r) / 2 ^ (d + k - 1 - j) % 2 = r / 2 ^ (k - 1 - (j - d)) % 2 := by
        rw [show d + k - 1 - j = k - 1 - (j - d) by omega]
        obtain ⟨m, t, hm, ht⟩ : ∃ m t, m = k - 1 - (j - d) ∧ k = m + (t + 1) := ⟨_, j - d, rfl, by omega⟩
        rw [← hm, ht, Nat.pow_add, Nat.pow_succ, show v * (2 ^ m * (2 ^ t * 2)) = 2 ^ m * (v * 2 ^ t * 2) by ac_rfl, Nat.mul_add_div (Nat.two_pow_pos m)]
        omega
      have := congrArg (fun x : Nat => (x : Int)) e
      simpa using this
    · rw [List.getElem?_eq_none (by rw [bitsOf_len]; omega), List.getElem?_eq_none (by rw [List.length_append, bitsOf_len, bitsOf_len]; omega)]
theorem differ_append {a b c d : List Int} (h : a.length = b.length) : differ (a ++ c) (b ++ d) = differ a b + differ c d := by
  unfold differ
  rw [List.zip_append h, List.countP_append]
theorem xor_mod2 (x y : Nat) : (x ^^^ y) % 2 = (x % 2 + y % 2) % 2 := by
  have := Nat.xor_mod_two_pow (a := x) (b := y) (n := 1)
  rw [show 2 ^ 1 = 2 from rfl] at this
  rw [this]
  rcases (show x % 2 = 0 ∨ x % 2 = 1 by omega) with h | h <;> rcases (show y % 2 = 0 ∨ y % 2 = 1 by omega) with h' | h' <;> rw [h, h'] <;> rfl
theorem and_mod2 (x y : Nat) : (x &&& y) % 2 = (x % 2) * (y % 2) := by
  have := Nat.and_mod_two_pow (a := x) (b := y) (n := 1)
  rw [show 2 ^ 1 = 2 from rfl] at this
  rw [this]
  rcases (show x % 2 = 0 ∨ x % 2 = 1 by omega) with h | h <;> rcases (show y % 2 = 0 ∨ y % 2 = 1 by omega) with h' | h' <;> rw [h, h'] <;> rfl
theorem xor_div2 (x y : Nat) : (x ^^^ y) / 2 = x / 2 ^^^ y / 2 := by
  have := Nat.xor_div_two_pow (a := x) (b := y) (n := 1)
  rwa [show 2 ^ 1 = 2 from rfl] at this
theorem and_div2 (x y : Nat) : (x &&& y) / 2 = x / 2 &&& y / 2 := by
  have := Nat.and_div_two_pow (a := x) (b := y) (n := 1)
  rwa [show 2 ^ 1 = 2 from rfl] at this
/-- The distance of two numbers' bits. -/
theorem differ_pop : ∀ (n x y : Nat), differ (bitsOf (x : Int) n) (bitsOf (y : Int) n) = popN n (x ^^^ y)
  | 0, x, y => rfl
  | n + 1, x, y => by
    rw [bitsOf_snocN, bitsOf_snocN, differ_append (by rw [bitsOf_len, bitsOf_len]), differ_pop n]
    show _ = (x ^^^ y) % 2 + popN n ((x ^^^ y) / 2)
    rw [xor_div2, xor_mod2, Nat.add_comm]
    congr 1
    rcases (show x % 2 = 0 ∨ x % 2 = 1 by omega) with h | h <;> rcases (show y % 2 = 0 ∨ y % 2 = 1 by omega) with h' | h' <;> rw [h, h'] <;> rfl
theorem xorL_bits : ∀ (n x y : Nat), xorL (bitsOf (x : Int) n) (bitsOf (y : Int) n) = bitsOf ((x ^^^ y : Nat) : Int) n
  | 0, x, y => rfl
  | n + 1, x, y => by
    rw [bitsOf_snocN, bitsOf_snocN, bitsOf_snocN]
    show List.zipWith xorI _ _ = _
    rw [List.zipWith_append (by rw [bitsOf_len, bitsOf_len])]
    have := xorL_bits n (x / 2) (y / 2)
    unfold xorL at this
    rw [this, xor_div2, xor_mod2]
    congr 1
    rcases (show x % 2 = 0 ∨ x % 2 = 1 by omega) with h | h <;> rcases (show y % 2 = 0 ∨ y % 2 = 1 by omega) with h' | h' <;> rw [h, h'] <;> rfl
/-- A list's elements are -1, 0 or 1. -/
def isTri (z : Int) : Bool := decide (-1 ≤ z ∧ z ≤ 1)
/-- The number of a list, and which bits of it are known. -/
def numK (zs : List Int) : Nat := zs.foldl (fun n z => 2 * n + (if z = 1 then 1 else 0)) 0
def knwK (zs : List Int) : Nat := zs.foldl (fun n z => 2 * n + (if z < 0 then 0 else 1)) 0
theorem numK_snoc (zs : List Int) (z : Int) : numK (zs ++ [z]) = 2 * numK zs + (if z = 1 then 1 else 0) := by simp [numK, List.foldl_append]
theorem knwK_snoc (zs : List Int) (z : Int) : knwK (zs ++ [z]) = 2 * knwK zs + (if z < 0 then 0 else 1) := by simp [knwK, List.foldl_append]
theorem tri_lt : ∀ (n : Nat) (zs : List Int), zs.length = n → numK zs < 2 ^ n ∧ knwK zs < 2 ^ n
  | 0, zs, h => by rw [List.eq_nil_of_length_eq_zero h]; decide
  | n + 1, zs, h => by
    have hne : zs ≠ [] := by intro e; subst e; simp at h
    obtain ⟨ys, y, rfl⟩ : ∃ ys y, zs = ys ++ [y] := ⟨zs.dropLast, zs.getLast hne, (List.dropLast_concat_getLast hne).symm⟩
    have := tri_lt n ys (by simpa using h)
    rw [numK_snoc, knwK_snoc, Nat.pow_succ]
    split <;> split <;> omega
/-- How far a list is from a word, and how much of it is not known. -/
def awayL (ws zs : List Int) : Nat := (ws.zip zs).countP fun p => decide (0 ≤ p.2) && p.1 != p.2
def unkL (zs : List Int) : Nat := zs.countP fun z => decide (z < 0)
theorem away_snoc {ws zs : List Int} {x z : Int} (h : ws.length = zs.length) : awayL (ws ++ [x]) (zs ++ [z]) = awayL ws zs + if 0 ≤ z ∧ x ≠ z then 1 else 0 := by
  unfold awayL
  rw [List.zip_append h, List.countP_append]
  congr 1
  by_cases h1 : 0 ≤ z <;> by_cases h2 : x = z <;> simp [h1, h2]
theorem unk_snoc (zs : List Int) (z : Int) : unkL (zs ++ [z]) = unkL zs + if z < 0 then 1 else 0 := by
  unfold unkL
  rw [List.countP_append]
  congr 1
  by_cases h1 : z < 0 <;> simp [h1]
theorem away_le {ws zs : List Int} (h : ws.length = zs.length) : awayL ws zs ≤ zs.length := by
  unfold awayL
  have h1 := List.countP_le_length (p := fun p : Int × Int => decide (0 ≤ p.2) && p.1 != p.2) (l := ws.zip zs)
  have h2 : (ws.zip zs).length ≤ zs.length := by rw [List.length_zip]; exact Nat.min_le_right _ _
  omega
theorem unk_le (zs : List Int) : unkL zs ≤ zs.length := List.countP_le_length
theorem tri_cases {z : Int} (h : isTri z = true) : z = -1 ∨ z = 0 ∨ z = 1 := by
  simp only [isTri, decide_eq_true_eq] at h
  omega
/-- The distance as the program reckons it. -/
theorem away_pop : ∀ (n : Nat) (zs : List Int) (x : Nat), zs.length = n → zs.all isTri = true → popN n ((x ^^^ numK zs) &&& knwK zs) = awayL (bitsOf (x : Int) n) zs
  | 0, zs, x, h, _ => by rw [List.eq_nil_of_length_eq_zero h]; rfl
  | n + 1, zs, x, h, ht => by
    have hne : zs ≠ [] := by intro e; subst e; simp at h
    obtain ⟨ys, y, rfl⟩ : ∃ ys y, zs = ys ++ [y] := ⟨zs.dropLast, zs.getLast hne, (List.dropLast_concat_getLast hne).symm⟩
    rw [List.all_append, Bool.and_eq_true] at ht
    have hl : ys.length = n := by simpa using h
    have ih := away_pop n ys (x / 2) hl ht.1
    have hy := tri_cases (show isTri y = true by simpa using ht.2)
    rw [bitsOf_snocN, away_snoc (by rw [bitsOf_len]; exact hl.symm), ← ih, numK_snoc, knwK_snoc]
    show ((x ^^^ _) &&& _) % 2 + popN n (((x ^^^ _) &&& _) / 2) = _
    rw [and_mod2, xor_mod2, and_div2, xor_div2, Nat.add_comm]
    rcases hy with rfl | rfl | rfl
    · rw [show (2 * numK ys + if (-1 : Int) = 1 then 1 else 0) / 2 = numK ys by rw [if_neg (by decide)]; omega, show (2 * knwK ys + if (-1 : Int) < 0 then 0 else 1) / 2 = knwK ys by rw [if_pos (by decide)]; omega, if_neg (by decide), if_pos (by decide), if_neg (by omega)]
      congr 1
      rw [show (2 * knwK ys + 0) % 2 = 0 by omega, Nat.mul_zero]
    · rw [show (2 * numK ys + if (0 : Int) = 1 then 1 else 0) / 2 = numK ys by rw [if_neg (by decide)]; omega, show (2 * knwK ys + if (0 : Int) < 0 then 0 else 1) / 2 = knwK ys by rw [if_neg (by decide)]; omega, if_neg (by decide), if_neg (by decide)]
      congr 1
      rw [show (2 * knwK ys + 1) % 2 = 1 by omega, show (2 * numK ys + 0) % 2 = 0 by omega]
      rcases (show x % 2 = 0 ∨ x % 2 = 1 by omega) with h | h <;> rw [h] <;> decide
    · rw [show (2 * numK ys + if (1 : Int) = 1 then 1 else 0) / 2 = numK ys by rw [if_pos rfl]; omega, show (2 * knwK ys + if (1 : Int) < 0 then 0 else 1) / 2 = knwK ys by rw [if_neg (by decide)]; omega, if_pos rfl, if_neg (by decide)]
      congr 1
      rw [show (2 * knwK ys + 1) % 2 = 1 by omega, show (2 * numK ys + 1) % 2 = 1 by omega]
      rcases (show x % 2 = 0 ∨ x % 2 = 1 by omega) with h | h <;> rw [h] <;> decide
theorem unk_pop : ∀ (n : Nat) (zs : List Int), zs.length = n → popN n (knwK zs) + unkL zs = n
  | 0, zs, h => by rw [List.eq_nil_of_length_eq_zero h]; rfl
  | n + 1, zs, h => by
    have hne : zs ≠ [] := by intro e; subst e; simp at h
    obtain ⟨ys, y, rfl⟩ : ∃ ys y, zs = ys ++ [y] := ⟨zs.dropLast, zs.getLast hne, (List.dropLast_concat_getLast hne).symm⟩
    have ih := unk_pop n ys (by simpa using h)
    rw [knwK_snoc, unk_snoc]
    show (2 * knwK ys + _) % 2 + popN n ((2 * knwK ys + _) / 2) + _ = _
    by_cases hy : y < 0
    · rw [if_pos hy, if_pos hy, show (2 * knwK ys + 0) / 2 = knwK ys by omega]; omega
    · rw [if_neg hy, if_neg hy, show (2 * knwK ys + 1) / 2 = knwK ys by omega]; omega
/-- More bits than there are change nothing. -/
theorem pop_more {n x : Nat} (h : x < 2 ^ n) (m : Nat) : popN (n + m) x = popN n x := by
  have := popN_app n m x 0 h
  rw [Nat.mul_zero, Nat.add_zero, popN_zero, Nat.add_zero] at this
  exact this
end Go.Proofs.Ytkaconpbmppekaa
