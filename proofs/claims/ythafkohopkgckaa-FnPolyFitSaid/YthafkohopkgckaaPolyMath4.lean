/-
  Common divisors, and multiples of polynomials.
  No condition.
-/
import Derived.Test.YthafkohopkgckaaPolyMath3
namespace Go.Proofs.Ythafkohopkgckaa
section
variable {R : Fld}
theorem mulN_null (d : Nat → El R) (N i : Nat) : mulN (fun _ => 0) d N i = 0 := by
  rw [mulN_stop (n := 0) (fun _ _ => rfl) N (by omega)]; rfl
theorem up_mul (s : Nat) (c : El R) (f : Nat → El R) (i : Nat) : up s c f i = c * up s 1 f i := by
  unfold up; split
  · rw [e1m]
  · rw [em0]
theorem mulN_assoc (b : Nat → El R) {a : Nat → El R} (d : Nat → El R) {N : Nat} (ha : ∀ i, N ≤ i → a i = 0) : ∀ (M i : Nat), mulN b (mulN a d N) M i = mulN (mulN b a M) d (M + N) i
  | 0, i => (mulN_null d (0 + N) i).symm
  | M + 1, i => by
    show mulN b (mulN a d N) M i + up M (b M) (mulN a d N) i = mulN (fun j => mulN b a M j + up M (b M) a j) d (M + 1 + N) i
    rw [mulN_addL, mulN_assoc b d ha M i, mulN_stop (n := M + N) (fun i hi => mulN_far b ha M i hi) (M + 1 + N) (by omega), mulN_stop (n := M + N) (fun i hi => up_out ha hi) (M + 1 + N) (by omega)]
    congr 1
    rw [mulN_congr (b := fun j => b M * up M 1 a j) (M + N) (fun j _ => up_mul M (b M) a j), mulN_mulL, mulN_up, ← up_mul]
theorem mulN_mulR (c : El R) (a f : Nat → El R) (n i : Nat) : mulN a (fun j => c * f j) n i = c * mulN a f n i := by
  induction n with
  | zero => exact (em0 c).symm
  | succ n ih =>
    show mulN a (fun j => c * f j) n i + up n (a n) (fun j => c * f j) i = c * (mulN a f n i + up n (a n) f i)
    rw [ih, edl]
    congr 1
    unfold up; split
    · rw [eml]
    · rw [em0]
/-- d divides p. -/
def Dv (d p : Nat → El R) : Prop := ∃ (a : Nat → El R) (N : Nat), (∀ i, N ≤ i → a i = 0) ∧ ∀ i, p i = mulN a d N i
theorem Dv.refl (d : Nat → El R) : Dv d d :=
  ⟨fun i => if i = 0 then 1 else 0, 1, fun i hi => if_neg (by omega), fun i => by
    show _ = 0 + up 0 (if 0 = 0 then 1 else 0) d i
    rw [if_pos rfl, e0a]; unfold up; rw [if_pos (Nat.zero_le _), e1m]; rfl⟩
theorem Dv.zero (d : Nat → El R) {p : Nat → El R} (h : ∀ i, p i = 0) : Dv d p := ⟨fun _ => 0, 0, fun _ _ => rfl, fun i => h i⟩
theorem Dv.add {d p q r : Nat → El R} (hp : Dv d p) (hq : Dv d q) (h : ∀ i, r i = p i + q i) : Dv d r := by
  obtain ⟨a, N, ha, h1⟩ := hp
  obtain ⟨b, M, hb, h2⟩ := hq
  refine ⟨fun i => a i + b i, max N M, fun i hi => by simp only [ha i (by omega), hb i (by omega), ea0], fun i => ?_⟩
  rw [mulN_addL, mulN_stop ha (max N M) (by omega), mulN_stop hb (max N M) (by omega), h i, h1 i, h2 i]
theorem mulN_congrR {a f g : Nat → El R} (n : Nat) (h : ∀ i, f i = g i) : mulN a f n = mulN a g n := by rw [funext h]
theorem Dv.mul {d p r : Nat → El R} (hp : Dv d p) {b : Nat → El R} {M : Nat} (h : ∀ i, r i = mulN b p M i) : Dv d r := by
  obtain ⟨a, N, ha, h1⟩ := hp
  exact ⟨mulN b a M, M + N, fun i hi => mulN_far b ha M i hi, fun i => by rw [h i, mulN_congrR M h1, mulN_assoc b d ha]⟩
theorem Dv.scale {d p : Nat → El R} (hp : Dv d p) {c : El R} (hc : c ≠ 0) : Dv (fun i => c * d i) p := by
  obtain ⟨a, N, ha, h1⟩ := hp
  refine ⟨fun i => c.inv * a i, N, fun i hi => by simp only [ha i hi, em0], fun i => ?_⟩
  rw [mulN_mulL, mulN_mulR, ← ema, emc c.inv, einv hc, e1m]
  exact h1 i
theorem Dv.rem {p q : List (El R)} (h : Dv (cf q) (cf p)) (hp : Tr p) (hq : Tr q) (h0 : 0 < q.length) : remP p q = [] := by
  obtain ⟨a, N, ha, h1⟩ := h
  exact nil_of (tr_rem hp) fun i => ((div_only hq h0 ha (r := fun _ => 0) (fun _ _ => rfl) (fun i => by rw [ea0]; exact h1 i)).2 i).symm

/-- The common divisor as it is reckoned, not yet with 1 as its last coefficient. -/
def gcdP : Nat → List (El R) → List (El R) → List (El R)
  | 0, p, _ => p
  | n + 1, p, q => if q.length = 0 then p else gcdP n q (remP p q)
theorem gcd_end (n : Nat) (p : List (El R)) {q : List (El R)} (h : q.length = 0) : gcdP n p q = p := by
  cases n with
  | zero => rfl
  | succ n => exact if_pos h
theorem gcd_fuel : ∀ (n m : Nat) (p q : List (El R)), Tr p → Tr q → q.length ≤ n → n ≤ m → gcdP m p q = gcdP n p q
  | 0, m, p, q, _, _, hq, _ => by rw [gcd_end m p (by omega), gcd_end 0 p (by omega)]
  | n + 1, 0, p, q, _, _, hq, h => by omega
  | n + 1, m + 1, p, q, hp, ht, hq, h => by
    by_cases h0 : q.length = 0
    · rw [gcd_end _ _ h0, gcd_end _ _ h0]
    · show (if q.length = 0 then p else gcdP m q (remP p q)) = (if q.length = 0 then p else gcdP n q (remP p q))
      rw [if_neg h0, if_neg h0]
      have h1 := rem_len (p := p) ht (by omega)
      exact gcd_fuel n m q (remP p q) ht (tr_rem hp) (by omega) (by omega)
theorem gcd_facts : ∀ (n : Nat) (p q : List (El R)), Tr p → Tr q → q.length ≤ n →
    Tr (gcdP n p q) ∧ Dv (cf (gcdP n p q)) (cf p) ∧ Dv (cf (gcdP n p q)) (cf q) ∧ (0 < p.length ∨ 0 < q.length → 0 < (gcdP n p q).length) ∧ (gcdP n p q).length ≤ max p.length q.length
  | n, p, q, hp, hq, hn => by
    by_cases h0 : q.length = 0
    · rw [gcd_end _ _ h0]
      exact ⟨hp, Dv.refl _, Dv.zero _ (fun i => cf_out (by omega)), fun h => by omega, by omega⟩
    · cases n with
      | zero => omega
      | succ n =>
        have h1 := rem_len (p := p) hq (by omega)
        have e : gcdP (n + 1) p q = gcdP n q (remP p q) := if_neg h0
        have ih := gcd_facts n q (remP p q) hq (tr_rem hp) (by omega)
        rw [e]
        exact ⟨ih.1, Dv.add (Dv.mul ih.2.1 (fun i => by rw [cf_mulP])) ih.2.2.1 (fun i => div_sum hq (by omega) i), ih.2.1, fun _ => ih.2.2.2.1 (.inl (by omega)), by have := ih.2.2.2.2; omega⟩
  termination_by n => n
/-- The same with as many steps as are needed. -/
def gcdL (p q : List (El R)) : List (El R) := gcdP q.length p q
theorem gcdL_end {p q : List (El R)} (h : q.length = 0) : gcdL p q = p := gcd_end _ _ h
theorem gcdL_step {p q : List (El R)} (hp : Tr p) (hq : Tr q) (h : 0 < q.length) : gcdL p q = gcdL q (remP p q) := by
  obtain ⟨n, hn⟩ : ∃ n, q.length = n + 1 := ⟨q.length - 1, by omega⟩
  have h1 := rem_len (p := p) hq h
  unfold gcdL
  rw [hn]
  show (if q.length = 0 then p else gcdP n q (remP p q)) = _
  rw [if_neg (by omega)]
  exact gcd_fuel _ _ _ _ hq (tr_rem hp) (Nat.le_refl _) (by omega)

/-- A multiple. -/
def scaP (c : El R) (p : List (El R)) : List (El R) := trim (tab p.length fun i => c * cf p i)
theorem cf_sca (c : El R) (p : List (El R)) : cf (scaP c p) = fun i => c * cf p i := by
  rw [scaP, cf_trim, cf_tab' fun i hi => by rw [cf_out hi, em0]]
theorem tr_sca (c : El R) (p : List (El R)) : Tr (scaP c p) := tr_trim _
theorem sca_len {c : El R} {p : List (El R)} (hc : c ≠ 0) (hp : Tr p) : (scaP c p).length = p.length := by
  have : Tr (tab p.length fun i => c * cf p i) := fun i hi => by
    rw [tab_len] at hi
    rw [cf_tab, if_pos (by omega)]
    exact emul_ne hc (hp i hi)
  rw [scaP, trim_id this, tab_len]
theorem mul_one1 (a : Nat → El R) (c : El R) : ∀ (n i : Nat), mulN a (cf [c]) n i = if i < n then c * a i else 0
  | 0, i => rfl
  | n + 1, i => by
    show mulN a (cf [c]) n i + up n (a n) (cf [c]) i = _
    rw [mul_one1 a c n i]
    rcases Nat.lt_trichotomy i n with h | h | h
    · rw [if_pos h, if_pos (by omega), up_lt h, ea0]
    · subst h
      rw [if_neg (by omega), if_pos (by omega), e0a]
      have := up_add i 0 (a i) (cf [c])
      rw [Nat.add_zero] at this
      rw [this, emc]; rfl
    · rw [if_neg (by omega), if_neg (by omega), e0a]
      exact up_out (m := 1) (fun j hj => cf_out (by simp; omega)) (by omega)
/-- The product with a number is a multiple. -/
theorem mul_num (p : List (El R)) (c : El R) : trim (mulP p [c]) = scaP c p := by
  refine trim_eq ?_
  rw [cf_mulP, cf_tab' fun i hi => by rw [cf_out hi, em0]]
  funext i
  rw [mul_one1]
  split
  · rfl
  · rw [cf_out (by omega), em0]
/-- The common divisor with 1 as its last coefficient. -/
def gcdM (p q : List (El R)) : List (El R) := scaP (lastE (gcdL p q)).inv (gcdL p q)
theorem gcdM_facts {p q : List (El R)} (hp : Tr p) (hq : Tr q) (h : 0 < p.length ∨ 0 < q.length) :
    Tr (gcdM p q) ∧ remP p (gcdM p q) = [] ∧ remP q (gcdM p q) = [] ∧ 0 < (gcdM p q).length ∧ lastE (gcdM p q) = 1 ∧ (gcdM p q).length ≤ max p.length q.length := by
  obtain ⟨h1, h2, h3, h4, h5⟩ := gcd_facts q.length p q hp hq (Nat.le_refl _)
  have h4 := h4 h
  have hne : (lastE (gcdL p q)).inv ≠ 0 := einv_ne (last_ne h1 h4)
  have hl : (gcdM p q).length = (gcdL p q).length := sca_len hne h1
  have hc : cf (gcdM p q) = fun i => (lastE (gcdL p q)).inv * cf (gcdL p q) i := cf_sca _ _
  have ht : Tr (gcdM p q) := tr_sca _ _
  have h4' : 0 < (gcdL p q).length := h4
  have h5' : (gcdL p q).length ≤ max p.length q.length := h5
  refine ⟨ht, Dv.rem ?_ hp ht (by omega), Dv.rem ?_ hq ht (by omega), by omega, ?_, by omega⟩
  · rw [hc]; exact Dv.scale h2 hne
  · rw [hc]; exact Dv.scale h3 hne
  · rw [lastE, hc, hl]
    show _ * _ = _
    rw [emc]
    exact einv (last_ne h1 h4)
end
end Go.Proofs.Ythafkohopkgckaa
