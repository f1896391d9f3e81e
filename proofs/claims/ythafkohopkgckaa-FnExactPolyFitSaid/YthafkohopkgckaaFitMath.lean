/-
  Polynomials by their values: as the program and as the model reckon them, and that both are the same.
  Condition: the given elements differ.
-/
import Derived.Test.YthafkohopkgckaaPolyMath4
namespace Go.Proofs.Ythafkohopkgckaa
section
variable {R : Fld}
theorem ev_sca (x c : El R) (p : List (El R)) : ev x (scaP c p) = c * ev x p := by
  rw [ev_of (n := p.length) (cf_sca c p) (fun i hi => by rw [cf_out hi, em0]), evN_mul, ← ev_is]
theorem ev_trim (x : El R) (p : List (El R)) : ev x (trim p) = ev x p := by
  rw [ev_of (n := p.length) (cf_trim p) (fun i hi => cf_out hi), ← ev_is]
theorem ev_num (x a : El R) : ev x [a] = a := by
  show (0 : El R) * x + a = a
  rw [e0m, e0a]
theorem tr_num {a : El R} (h : a ≠ 0) : Tr [a] := fun i hi => by
  obtain rfl : i = 0 := by simpa using hi
  exact h
theorem sca_le (c : El R) (p : List (El R)) : (scaP c p).length ≤ p.length := by
  have := trim_le (tab p.length fun i => c * cf p i)
  rw [tab_len] at this; exact this
theorem add_le (p q : List (El R)) : (addP p q).length ≤ max p.length q.length := by
  have := trim_le (tab (max p.length q.length) fun i => cf p i + cf q i)
  rw [tab_len] at this; exact this
theorem tr_add (p q : List (El R)) : Tr (addP p q) := tr_trim _

/-- The elements are all different. -/
def Apart (xs : List (El R)) : Prop := ∀ i j, i < j → j < xs.length → cf xs i ≠ cf xs j

/-- What the program has reckoned with the first elements. -/
structure Fitted (xs ys : List (El R)) (i : Nat) (fit rooted : List (El R)) : Prop where
  trF : Tr fit
  lenF : fit.length ≤ i
  valF : ∀ j, j < i → ev (cf xs j) fit = cf ys j
  trR : Tr rooted
  lenR : rooted.length = i + 1
  zeroR : ∀ j, j < i → ev (cf xs j) rooted = 0
  neR : ∀ x, (∀ j, j < i → x ≠ cf xs j) → ev x rooted ≠ 0
theorem fitted_0 (xs ys : List (El R)) : Fitted xs ys 0 [] [1] :=
  ⟨tr_nil, Nat.le_refl _, fun j hj => by omega, tr_num e10, rfl, fun j hj => by omega, fun x _ => by rw [ev_num]; exact e10⟩
def fitK (xs ys : List (El R)) (i : Nat) (fit rooted : List (El R)) : El R := (cf ys i + -(ev (cf xs i) fit)) * (ev (cf xs i) rooted).inv
theorem fitted_step {xs ys : List (El R)} {i : Nat} {fit rooted : List (El R)} (ha : Apart xs) (hi : i < xs.length) (h : Fitted xs ys i fit rooted) :
    Fitted xs ys (i + 1) (addP fit (scaP (fitK xs ys i fit rooted) rooted)) (mulP rooted (lin (cf xs i))) := by
  have hne := h.neR (cf xs i) (fun j hj => (ha j i hj hi).symm)
  refine ⟨tr_add _ _, ?_, fun j hj => ?_, tr_mul h.trR (tr_lin _), ?_, fun j hj => ?_, fun x hx => ?_⟩
  · have h1 := add_le fit (scaP (fitK xs ys i fit rooted) rooted)
    have h2 := sca_le (fitK xs ys i fit rooted) rooted
    have h3 := h.lenF
    have h4 := h.lenR
    omega
  · rw [ev_add, ev_sca]
    rcases Nat.lt_or_ge j i with h1 | h1
    · rw [h.zeroR j h1, em0, ea0]; exact h.valF j h1
    · obtain rfl : j = i := by omega
      rw [fitK, ema, emc _ (ev (cf xs j) rooted), einv hne, em1, eac, eaa, ena, ea0]
  · rw [mulP, tab_len, plen_1 (by rw [h.lenR]; omega) (by simp [lin]), h.lenR]; simp [lin]
  · rw [ev_mul, ev_lin]
    rcases Nat.lt_or_ge j i with h1 | h1
    · rw [h.zeroR j h1, e0m]
    · obtain rfl : j = i := by omega
      rw [ean, em0]
  · rw [ev_mul, ev_lin]
    exact emul_ne (h.neR x fun j hj => hx j (by omega)) (esub_ne (hx i (by omega)))

/-- The product of the factors of the other elements, and its value at the element i. -/
structure Term (xs : List (El R)) (i k : Nat) (term : List (El R)) (under : El R) : Prop where
  tr : Tr term
  len : term.length + (if i < k then 1 else 0) ≤ k + 1
  zero : ∀ j, j < k → j ≠ i → ev (cf xs j) term = 0
  val : ev (cf xs i) term = under
  ne : under ≠ 0
theorem term_0 (xs : List (El R)) (i : Nat) : Term xs i 0 [1] 1 :=
  ⟨tr_num e10, by simp, fun j hj => by omega, ev_num _ _, e10⟩
theorem term_skip {xs : List (El R)} {i : Nat} {term : List (El R)} {under : El R} (h : Term xs i i term under) : Term xs i (i + 1) term under :=
  ⟨h.tr, by have := h.len; rw [if_neg (by omega)] at this; rw [if_pos (by omega)]; omega, fun j hj hne => h.zero j (by omega) hne, h.val, h.ne⟩
theorem term_step {xs : List (El R)} {i k : Nat} {term : List (El R)} {under : El R} (ha : Apart xs) (hi : i < xs.length) (hk : k < xs.length) (hne : k ≠ i) (h : Term xs i k term under) :
    Term xs i (k + 1) (trim (mulP term (lin (cf xs k)))) (under * (cf xs i + -(cf xs k))) := by
  have hx : cf xs i ≠ cf xs k := by
    rcases Nat.lt_or_ge i k with h1 | h1
    · exact ha i k h1 hk
    · exact (ha k i (by omega) hi).symm
  refine ⟨tr_trim _, ?_, fun j hj hji => ?_, ?_, emul_ne h.ne (esub_ne hx)⟩
  · have h1 := trim_le (mulP term (lin (cf xs k)))
    have h2 : (mulP term (lin (cf xs k))).length ≤ term.length + 1 := by rw [mulP, tab_len]; unfold plen; split; omega; simp [lin]
    have h3 := h.len
    split at h3 <;> split <;> omega
  · rw [ev_trim, ev_mul, ev_lin]
    rcases Nat.lt_or_ge j k with h1 | h1
    · rw [h.zero j h1 hji, e0m]
    · obtain rfl : j = k := by omega
      rw [ean, em0]
  · rw [ev_trim, ev_mul, ev_lin, h.val]

/-- What the model has summed up. -/
structure Summed (xs ys : List (El R)) (i : Nat) (out : List (El R)) : Prop where
  tr : Tr out
  len : out.length ≤ xs.length
  val : ∀ j, j < i → ev (cf xs j) out = cf ys j
  zero : ∀ j, i ≤ j → j < xs.length → ev (cf xs j) out = 0
theorem summed_0 (xs ys : List (El R)) : Summed xs ys 0 [] := ⟨tr_nil, Nat.zero_le _, fun j hj => by omega, fun j _ _ => rfl⟩
theorem summed_step {xs ys : List (El R)} {i : Nat} {out term : List (El R)} {under : El R} (hi : i < xs.length) (h : Summed xs ys i out) (ht : Term xs i xs.length term under) :
    Summed xs ys (i + 1) (addP out (trim (mulP term (trim [cf ys i * under.inv])))) := by
  have hl : (trim (mulP term (trim [cf ys i * under.inv]))).length ≤ xs.length := by
    have h1 := trim_le (mulP term (trim [cf ys i * under.inv]))
    have h2 : (trim [cf ys i * under.inv]).length ≤ 1 := trim_le _
    have h3 : (mulP term (trim [cf ys i * under.inv])).length ≤ term.length := by rw [mulP, tab_len]; unfold plen; split <;> omega
    have h4 := ht.len
    rw [if_pos hi] at h4
    omega
  have he : ∀ x, ev x (trim (mulP term (trim [cf ys i * under.inv]))) = ev x term * (cf ys i * under.inv) := fun x => by
    rw [ev_trim, ev_mul, ev_trim, ev_num]
  refine ⟨tr_add _ _, ?_, fun j hj => ?_, fun j h1 h2 => ?_⟩
  · have h1 := add_le out (trim (mulP term (trim [cf ys i * under.inv])))
    have h2 := h.len
    omega
  · rw [ev_add, he]
    rcases Nat.lt_or_ge j i with h1 | h1
    · rw [ht.zero j (by omega) (by omega), e0m, ea0]; exact h.val j h1
    · obtain rfl : j = i := by omega
      rw [h.zero j (Nat.le_refl _) hi, ht.val, eml, einv ht.ne, em1, e0a]
  · rw [ev_add, he, h.zero j (by omega) h2, ht.zero j h2 (by omega), e0m, ea0]
theorem apart_nodup {xs : List (El R)} (ha : Apart xs) : xs.Nodup := by
  rw [List.nodup_iff_pairwise_ne, List.pairwise_iff_getElem]
  intro i j hi hj hij e
  refine ha i j hij hj ?_
  rw [cf_at (List.getElem?_eq_getElem hi), cf_at (List.getElem?_eq_getElem hj)]
  exact e
/-- Both are the same. -/
theorem fit_same {xs ys fit rooted out : List (El R)} (ha : Apart xs) (h : Fitted xs ys xs.length fit rooted) (h' : Summed xs ys xs.length out) : out = fit := by
  refine fit_only h'.tr h.trF h'.len h.lenF (apart_nodup ha) fun x hx => ?_
  obtain ⟨j, hj, rfl⟩ := List.getElem_of_mem hx
  have e : xs[j] = cf xs j := (cf_at (List.getElem?_eq_getElem hj)).symm
  rw [e, h'.val j hj, h.valF j hj]
end
end Go.Proofs.Ythafkohopkgckaa
