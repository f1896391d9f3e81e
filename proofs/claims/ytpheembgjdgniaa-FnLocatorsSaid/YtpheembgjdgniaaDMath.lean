/-
  Products of series over a field; locator polynomials; the values of errors from their syndromes, by the formula of Forney.
  No condition but those of each statement.
-/
import Derived.Test.YtpheembgjdgniaaRsMath
namespace Go.Proofs.Ytpheembgjdgniaa
section
variable {R : Fld}

/-- The sum of the first n. -/
def sumN (h : Nat → El R) : Nat → El R
  | 0 => 0
  | n + 1 => sumN h n + h n
theorem sumN_congr {h h' : Nat → El R} (n : Nat) (e : ∀ j, j < n → h j = h' j) : sumN h n = sumN h' n := by
  induction n with
  | zero => rfl
  | succ n ih => show sumN h n + h n = sumN h' n + h' n; rw [ih (fun j hj => e j (by omega)), e n (by omega)]
theorem sumN_front (h : Nat → El R) (n : Nat) : sumN h (n + 1) = h 0 + sumN (fun j => h (j + 1)) n := by
  induction n with
  | zero => show 0 + h 0 = h 0 + 0; rw [e0a, ea0]
  | succ n ih =>
    show sumN h (n + 1) + h (n + 1) = h 0 + (sumN (fun j => h (j + 1)) n + h (n + 1))
    rw [ih, eaa]
theorem sumN_rev (h : Nat → El R) (n : Nat) : sumN (fun j => h (n - 1 - j)) n = sumN h n := by
  induction n with
  | zero => rfl
  | succ n ih =>
    rw [sumN_front]
    show h (n + 1 - 1 - 0) + sumN (fun j => h (n + 1 - 1 - (j + 1))) n = sumN h n + h n
    rw [sumN_congr (h' := fun j => h (n - 1 - j)) n (fun j hj => by rw [show n + 1 - 1 - (j + 1) = n - 1 - j by omega]), ih, eac]; rfl
theorem sumN_add (f g : Nat → El R) (n : Nat) : sumN (fun j => f j + g j) n = sumN f n + sumN g n := by
  induction n with
  | zero => exact (ea0 0).symm
  | succ n ih => show sumN (fun j => f j + g j) n + (f n + g n) = (sumN f n + f n) + (sumN g n + g n); rw [ih, eswap]
theorem sumN_mul (c : El R) (f : Nat → El R) (n : Nat) : sumN (fun j => c * f j) n = c * sumN f n := by
  induction n with
  | zero => exact (em0 c).symm
  | succ n ih => show sumN (fun j => c * f j) n + c * f n = c * (sumN f n + f n); rw [ih, edl]

/-- The product of two series. -/
def ps (f g : Nat → El R) (i : Nat) : El R := mulN f g (i + 1) i
theorem mulN_sum (f g : Nat → El R) (i : Nat) : ∀ n, mulN f g n i = sumN (fun j => up j (f j) g i) n
  | 0 => rfl
  | n + 1 => by show mulN f g n i + _ = sumN _ n + _; rw [mulN_sum f g i n]
theorem ps_sum (f g : Nat → El R) (i : Nat) : ps f g i = sumN (fun j => f j * g (i - j)) (i + 1) := by
  rw [ps, mulN_sum]
  refine sumN_congr _ fun j hj => ?_
  unfold up; rw [if_pos (by omega)]
theorem mulN_low {f g : Nat → El R} {i : Nat} : ∀ {n : Nat}, i < n → mulN f g n i = ps f g i
  | 0, h => by omega
  | n + 1, h => by
    rcases Nat.lt_or_ge i n with h1 | h1
    · show mulN f g n i + up n (f n) g i = _
      rw [up_lt h1, ea0, mulN_low h1]
    · obtain rfl : i = n := by omega
      rfl
theorem mulN_ps {f : Nat → El R} {n : Nat} (g : Nat → El R) (h : ∀ j, n ≤ j → f j = 0) : mulN f g n = ps f g := by
  funext i
  rcases Nat.lt_or_ge i n with h1 | h1
  · exact mulN_low h1
  · unfold ps; rw [mulN_stop h (i + 1) (by omega)]
theorem ps_local {f f' g g' : Nat → El R} {i : Nat} (hf : ∀ j, j ≤ i → f j = f' j) (hg : ∀ j, j ≤ i → g j = g' j) : ps f g i = ps f' g' i := by
  rw [ps_sum, ps_sum]
  exact sumN_congr _ fun j hj => by rw [hf j (by omega), hg (i - j) (by omega)]
theorem ps_comm (f g : Nat → El R) : ps f g = ps g f := by
  funext i
  rw [ps_sum, ps_sum, ← sumN_rev]
  refine sumN_congr _ fun j hj => ?_
  rw [emc, show i + 1 - 1 - j = i - j by omega, show i - (i - j) = j by omega]
theorem ps_assoc (f g h : Nat → El R) : ps f (ps g h) = ps (ps f g) h := by
  funext i
  let g' : Nat → El R := fun j => if j < i + 1 then g j else 0
  have hg : ∀ j, j ≤ i → g' j = g j := fun j hj => if_pos (by omega)
  have hz : ∀ j, i + 1 ≤ j → g' j = 0 := fun j hj => if_neg (by omega)
  have e1 : ps f (ps g h) i = mulN f (mulN g' h (i + 1)) (i + 1) i := by
    refine ps_local (fun _ _ => rfl) (fun j hj => ?_)
    rw [mulN_low (by omega)]
    exact ps_local (fun t ht => (hg t (by omega)).symm) (fun _ _ => rfl)
  rw [e1, mulN_assoc f h hz, mulN_low (by omega)]
  refine ps_local (fun j hj => ?_) (fun _ _ => rfl)
  rw [mulN_low (by omega)]
  exact ps_local (fun _ _ => rfl) (fun t ht => hg t (by omega))
theorem ps_left (f g h : Nat → El R) : ps f (ps g h) = ps g (ps f h) := by rw [ps_assoc, ps_assoc, ps_comm f g]
theorem ps_addL (f f' g : Nat → El R) (i : Nat) : ps (fun j => f j + f' j) g i = ps f g i + ps f' g i := mulN_addL f f' g (i + 1) i
theorem ps_addR (f g g' : Nat → El R) (i : Nat) : ps f (fun j => g j + g' j) i = ps f g i + ps f g' i := by
  rw [ps_comm, ps_addL, ps_comm g, ps_comm g']
theorem ps_mulL (c : El R) (f g : Nat → El R) (i : Nat) : ps (fun j => c * f j) g i = c * ps f g i := mulN_mulL c f g (i + 1) i
theorem ps_mulR (c : El R) (f g : Nat → El R) (i : Nat) : ps f (fun j => c * g j) i = c * ps f g i := mulN_mulR c f g (i + 1) i
theorem ps_negL (f g : Nat → El R) (i : Nat) : ps (fun j => -(f j)) g i = -(ps f g i) := mulN_negL f g (i + 1) i
theorem ps_zeroL (g : Nat → El R) (i : Nat) : ps (fun _ => 0) g i = 0 := mulN_null g (i + 1) i
theorem ps_zeroR (f : Nat → El R) (i : Nat) : ps f (fun _ => 0) i = 0 := by rw [ps_comm, ps_zeroL]
theorem ps_0 (f g : Nat → El R) : ps f g 0 = f 0 * g 0 := by
  rw [ps_sum]; show 0 + f 0 * g (0 - 0) = _; rw [e0a]
theorem cf_one_is : (cf [1] : Nat → El R) = fun i => if i = 0 then 1 else 0 := by
  funext i
  cases i with
  | zero => rfl
  | succ i => rw [cf_out (by simp)]; rfl
theorem ps_one (g : Nat → El R) : ps (cf [1]) g = g := by
  rw [← mulN_ps (n := 1) g (fun j hj => cf_out (by simpa using hj))]
  funext i
  show 0 + up 0 1 g i = g i
  rw [e0a]; unfold up; rw [if_pos (Nat.zero_le _), e1m]; rfl
theorem ps_far {f g : Nat → El R} {n m : Nat} (hf : ∀ i, n ≤ i → f i = 0) (hg : ∀ i, m ≤ i → g i = 0) (i : Nat) (hi : n + m ≤ i + 1) : ps f g i = 0 := by
  rw [← mulN_ps g hf]
  exact mulN_out f hg n i (fun l hl => by omega)
theorem ps_top {f g : Nat → El R} {n m : Nat} (hf : ∀ i, n + 1 ≤ i → f i = 0) (hg : ∀ i, m + 1 ≤ i → g i = 0) : ps f g (n + m) = f n * g m := by
  rw [← mulN_ps g hf]
  exact mulN_top f hg n
theorem cf_mul (p q : List (El R)) : cf (mulP p q) = ps (cf p) (cf q) := by rw [cf_mulP, mulN_ps _ (cf_far p)]
/-- A factor that begins with 1 may be left out. -/
theorem ps_cancel {f g h : Nat → El R} {c : Nat} (h1 : h 0 = 1) (he : ∀ i, i < c → ps h f i = ps h g i) : ∀ i, i < c → f i = g i := by
  have key : ∀ (f : Nat → El R) (i : Nat), ps h f i = f i + sumN (fun j => h (j + 1) * f (i - (j + 1))) i := by
    intro f i
    rw [ps_sum, sumN_front, h1, e1m]; rfl
  intro i
  induction i using Nat.strongRecOn with
  | ind i ih =>
    intro hi
    have := he i hi
    rw [key, key, sumN_congr (h' := fun j => h (j + 1) * g (i - (j + 1))) i (fun j hj => by rw [ih (i - (j + 1)) (by omega) (by omega)])] at this
    have e := this
    rw [eac, eac (g i)] at e
    exact eadd_left e

/-! Locator polynomials. -/
/-- 1 - x X. -/
def lf (x : El R) : List (El R) := [1, -x]
theorem eneg_ne {x : El R} (h : x ≠ 0) : -x ≠ 0 := fun e => h (by rw [← enn x, e, en0])
theorem tr_lf {x : El R} (h : x ≠ 0) : Tr (lf x) := fun i hi => by
  obtain rfl : i = 1 := by simp [lf] at hi; omega
  exact eneg_ne h
theorem ev_lf (x y : El R) : ev y (lf x) = 1 + -(x * y) := by
  show (0 * y + -x) * y + 1 = _
  rw [e0m, e0a, enm, eac]
theorem lf_far (x : El R) : ∀ i, 2 ≤ i → cf (lf x) i = 0 := fun i hi => cf_out (by simpa [lf] using hi)
theorem ps_lf (x : El R) (g : Nat → El R) (i : Nat) : ps (cf (lf x)) g i = g i + (if 1 ≤ i then -x * g (i - 1) else 0) := by
  rw [← mulN_ps g (lf_far x)]
  show 0 + up 0 1 g i + up 1 (-x) g i = _
  rw [e0a]
  unfold up; rw [if_pos (Nat.zero_le _), e1m]; rfl
/-- The product of 1 - x X over a list, in its order. -/
def locP (xs : List (El R)) : List (El R) := xs.foldl (fun p x => mulP p (lf x)) [1]
theorem locP_nil : locP ([] : List (El R)) = [1] := rfl
theorem locP_snoc (xs : List (El R)) (x : El R) : locP (xs ++ [x]) = mulP (locP xs) (lf x) := by
  unfold locP; rw [List.foldl_append]; rfl
theorem snoc_ind {P : List (El R) → Prop} (h0 : P []) (h1 : ∀ xs x, P xs → P (xs ++ [x])) : ∀ xs, P xs := by
  have : ∀ (n : Nat) (xs : List (El R)), xs.length = n → P xs := by
    intro n
    induction n with
    | zero => intro xs h; rw [List.eq_nil_of_length_eq_zero h]; exact h0
    | succ n ih =>
      intro xs h
      rcases snoc_or xs with rfl | ⟨xs', x, rfl⟩
      · exact h0
      · exact h1 xs' x (ih xs' (by simpa using h))
  exact fun xs => this _ xs rfl
theorem tr_one : Tr ([1] : List (El R)) := fun i hi => by
  obtain rfl : i = 0 := by simpa using hi
  exact e10
theorem loc_facts (xs : List (El R)) : (∀ x ∈ xs, x ≠ 0) → Tr (locP xs) ∧ (locP xs).length = xs.length + 1 ∧ cf (locP xs) 0 = 1 := by
  refine snoc_ind (P := fun xs => (∀ x ∈ xs, x ≠ 0) → Tr (locP xs) ∧ (locP xs).length = xs.length + 1 ∧ cf (locP xs) 0 = 1) (fun _ => ⟨tr_one, rfl, rfl⟩) (fun xs x ih h => ?_) xs
  obtain ⟨h1, h2, h3⟩ := ih fun y hy => h y (List.mem_append_left _ hy)
  have hx : x ≠ 0 := h x (by simp)
  rw [locP_snoc]
  refine ⟨tr_mul h1 (tr_lf hx), ?_, ?_⟩
  · rw [mulP, tab_len, plen_1 (by omega) (by simp [lf]), h2]; simp [lf]
  · rw [cf_mul, ps_0, h3]; exact em1 1
theorem tr_loc {xs : List (El R)} (h : ∀ x ∈ xs, x ≠ 0) : Tr (locP xs) := (loc_facts xs h).1
theorem loc_len {xs : List (El R)} (h : ∀ x ∈ xs, x ≠ 0) : (locP xs).length = xs.length + 1 := (loc_facts xs h).2.1
theorem loc_zero {xs : List (El R)} (h : ∀ x ∈ xs, x ≠ 0) : cf (locP xs) 0 = 1 := (loc_facts xs h).2.2
theorem loc_app (xs ys : List (El R)) : cf (locP (xs ++ ys)) = ps (cf (locP xs)) (cf (locP ys)) := by
  refine snoc_ind (P := fun ys => cf (locP (xs ++ ys)) = ps (cf (locP xs)) (cf (locP ys))) ?_ (fun ys y ih => ?_) ys
  · show cf (locP (xs ++ [])) = ps _ (cf [1])
    rw [List.append_nil, ps_comm, ps_one]
  · show cf (locP (xs ++ (ys ++ [y]))) = ps (cf (locP xs)) (cf (locP (ys ++ [y])))
    rw [← List.append_assoc, locP_snoc, locP_snoc, cf_mul, cf_mul, ih, ps_assoc]
theorem loc_one (x : El R) : cf (locP [x]) = cf (lf x) := by
  show cf (mulP [1] (lf x)) = _
  rw [cf_mul, ps_one]
theorem loc_split (A B : List (El R)) (x : El R) : cf (locP (A ++ x :: B)) = ps (cf (lf x)) (cf (locP (A ++ B))) := by
  rw [show A ++ x :: B = A ++ ([x] ++ B) from rfl, loc_app, loc_app, loc_one, loc_app A B, ps_left]
theorem ev_cf {x : El R} {p q : List (El R)} (h : cf p = cf q) : ev x p = ev x q := by
  rw [ev_of (n := max p.length q.length) h (fun i hi => cf_out (by omega)), ← ev_far (by omega)]
theorem ev_loc (y : El R) (xs : List (El R)) : ev y (locP xs) = 0 ↔ ∃ x ∈ xs, x * y = 1 := by
  refine snoc_ind (P := fun xs => ev y (locP xs) = 0 ↔ ∃ x ∈ xs, x * y = 1) ?_ (fun xs x ih => ?_) xs
  · show ev y [1] = 0 ↔ _
    rw [ev_one]
    exact ⟨fun h => absurd h e10, fun ⟨_, h, _⟩ => absurd h List.not_mem_nil⟩
  · show ev y (locP (xs ++ [x])) = 0 ↔ _
    rw [locP_snoc, ev_mul, ev_lf]
    constructor
    · intro h
      by_cases h1 : ev y (locP xs) = 0
      · obtain ⟨z, hz, e⟩ := ih.1 h1
        exact ⟨z, List.mem_append_left _ hz, e⟩
      · by_cases h2 : 1 + -(x * y) = 0
        · exact ⟨x, by simp, (esub h2).symm⟩
        · exact absurd h (emul_ne h1 h2)
    · rintro ⟨z, hz, e⟩
      rcases List.mem_append.1 hz with hz | hz
      · rw [ih.2 ⟨z, hz, e⟩, e0m]
      · obtain rfl := List.mem_singleton.1 hz
        rw [e, ean, em0]
/-- Of an inverse only one element is the inverse. -/
theorem inv_only {x y r : El R} (h : x * r = 1) (h' : y * r = 1) : x = y := by
  have h1 : x * (y * r) = x := by rw [h', em1]
  have h2 : x * (y * r) = y := by rw [eml, h, em1]
  rw [← h1, h2]
theorem ne_of_inv {x r : El R} (h : x * r = 1) : x ≠ 0 ∧ r ≠ 0 := by
  constructor
  · intro e; rw [e, e0m] at h; exact e10 h.symm
  · intro e; rw [e, em0] at h; exact e10 h.symm

/-! Series of powers. -/
theorem lf_geo (x : El R) : ps (cf (lf x)) (epw x) = cf [1] := by
  funext i
  rw [ps_lf]
  cases i with
  | zero => rw [if_neg (by omega), ea0]; rfl
  | succ i =>
    rw [if_pos (by omega), cf_out (by simp)]
    show epw x (i + 1) + -x * epw x i = 0
    rw [epw_succ', enm, ean]
theorem loc_geo (A B : List (El R)) (x : El R) : ps (cf (locP (A ++ x :: B))) (epw x) = cf (locP (A ++ B)) := by
  rw [loc_split, ps_comm (cf (lf x)), ← ps_assoc, lf_geo, ps_comm, ps_one]
/-- The syndromes, without an end, of elements at powers. -/
def ser (γ : El R) (D : Nat → El R) : Nat → Nat → El R
  | 0 => fun _ => 0
  | n + 1 => fun j => ser γ D n j + D n * epw γ n * epw (epw γ n) j
theorem ser_at (γ : El R) (D : Nat → El R) (j : Nat) : ∀ n, ser γ D n j = evN (epw γ (j + 1)) D n
  | 0 => rfl
  | n + 1 => by
    show ser γ D n j + D n * epw γ n * epw (epw γ n) j = evN (epw γ (j + 1)) D n + D n * epw (epw γ (j + 1)) n
    rw [ser_at γ D j n, ema, ← epw_succ', epw_swap]
theorem mem_split {x : El R} {xs : List (El R)} (h : x ∈ xs) : ∃ A B, xs = A ++ x :: B := List.append_of_mem h
theorem ps_ser_succ (f : Nat → El R) (γ : El R) (D : Nat → El R) (n i : Nat) : ps f (ser γ D (n + 1)) i = ps f (ser γ D n) i + D n * epw γ n * ps f (epw (epw γ n)) i := by
  show ps f (fun j => ser γ D n j + D n * epw γ n * epw (epw γ n) j) i = _
  rw [ps_addR, ps_mulR]
section
variable {xs : List (El R)} (hx : ∀ x ∈ xs, x ≠ 0)
include hx
theorem split_len {A B : List (El R)} {x : El R} (h : xs = A ++ x :: B) : (locP (A ++ B)).length = xs.length := by
  subst h
  rw [loc_len (xs := A ++ B) (fun y hy => hx y (by
    rcases List.mem_append.1 hy with h | h
    · exact List.mem_append_left _ h
    · exact List.mem_append_right _ (List.mem_cons_of_mem _ h)))]
  simp; omega
theorem loc_ser_far {γ : El R} {D : Nat → El R} : ∀ {n : Nat}, (∀ i, i < n → D i = 0 ∨ epw γ i ∈ xs) → ∀ i, xs.length ≤ i → ps (cf (locP xs)) (ser γ D n) i = 0
  | 0, _, i, _ => ps_zeroR _ i
  | n + 1, h, i, hi => by
    rw [ps_ser_succ, loc_ser_far (fun i hi => h i (by omega)) i hi, e0a]
    rcases h n (by omega) with h1 | h1
    · rw [h1, e0m, e0m]
    · obtain ⟨A, B, e⟩ := mem_split h1
      have hl := split_len hx e
      have hg := loc_geo A B (epw γ n)
      rw [← e] at hg
      rw [hg, cf_out (by omega), em0]
end

/-! Derivatives. -/
/-- The derivative, by the multiples of 1. -/
def derG (num : Nat → El R) (p : List (El R)) : List (El R) := trim (tab (p.length - 1) fun i => num (i + 1) * cf p (i + 1))
theorem cf_der (num : Nat → El R) (p : List (El R)) : cf (derG num p) = fun i => num (i + 1) * cf p (i + 1) := by
  rw [derG, cf_trim, cf_tab' fun i hi => by rw [cf_out (by omega), em0]]
section
variable {num : Nat → El R} (n0 : num 0 = 0) (n1 : ∀ j, num (j + 1) = num j + 1)
include n0 n1
/-- At the root of a factor. -/
theorem der_root {p s : List (El R)} {x r : El R} (h : cf p = ps (cf (lf x)) (cf s)) (hr : x * r = 1) : ev r (derG num p) = -(x * ev r s) := by
  have e1 : cf (derG num p) = fun i => ps (cf (lf x)) (fun i => num (i + 1) * cf s (i + 1)) i + -x * cf s i := by
    rw [cf_der]
    funext i
    simp only [h]
    rw [ps_lf, ps_lf, if_pos (by omega), edl, show i + 1 - 1 = i from rfl]
    rw [eaa]
    congr 1
    rw [eml, n1 i, edr, e1m, edl]
    congr 1
    cases i with
    | zero => rw [if_neg (by omega), n0, e0m, em0]
    | succ i => rw [if_pos (by omega)]; rfl
  let m := s.length
  have hs : ∀ i, m ≤ i → num (i + 1) * cf s (i + 1) = 0 := fun i hi => by rw [cf_out (by omega), em0]
  rw [ev_of (n := 2 + m) e1 (fun i hi => by
    rw [ps_far (n := 2) (m := m) (lf_far x) hs i (by omega), cf_out (by omega), em0, ea0])]
  rw [evN_add, evN_mul, ← mulN_ps _ (lf_far x), evN_mulN r _ hs 2]
  have e2 : evN r (cf (lf x)) 2 = 0 := by rw [← ev_far (p := lf x) (by simp [lf]), ev_lf, hr, ean]
  rw [e2, e0m, e0a, ← ev_far (by omega), enm]
theorem der_loc {A B xs : List (El R)} {x r : El R} (e : xs = A ++ x :: B) (hr : x * r = 1) : ev r (derG num (locP xs)) = -(x * ev r (locP (A ++ B))) :=
  der_root n0 n1 (by rw [e]; exact loc_split A B x) hr
theorem der_ne {xs : List (El R)} {x r : El R} (hd : xs.Nodup) (hx : x ∈ xs) (hr : x * r = 1) : ev r (derG num (locP xs)) ≠ 0 := by
  obtain ⟨A, B, e⟩ := mem_split hx
  rw [der_loc n0 n1 e hr]
  refine eneg_ne (emul_ne (ne_of_inv hr).1 fun h => ?_)
  obtain ⟨y, hy, e'⟩ := (ev_loc r (A ++ B)).1 h
  obtain rfl := inv_only e' hr
  rw [e, List.nodup_append] at hd
  rcases List.mem_append.1 hy with h | h
  · exact hd.2.2 y h y (List.mem_cons_self ..) rfl
  · exact (List.nodup_cons.1 hd.2.1).1 h
/-- The value of the evaluator at the inverse of a locator. -/
theorem loc_ser_ev {xs : List (El R)} (hx : ∀ x ∈ xs, x ≠ 0) {γ r : El R} {D : Nat → El R} {k : Nat} (hk : epw γ k ∈ xs) (hr : epw γ k * r = 1) :
    ∀ {n : Nat}, (∀ i, i < n → D i = 0 ∨ epw γ i ∈ xs) → (∀ i, i < n → i ≠ k → epw γ i ≠ epw γ k) →
      evN r (ps (cf (locP xs)) (ser γ D n)) xs.length = if k < n then -(D k * ev r (derG num (locP xs))) else 0
  | 0, _, _ => by
    rw [if_neg (by omega)]
    exact evN_zero _ fun i _ => ps_zeroR _ i
  | n + 1, h, hi => by
    have ih := loc_ser_ev hx hk hr (fun i hi => h i (by omega)) (fun i hi' => hi i (by omega)) (n := n) (D := D)
    rw [evN_congr (g := fun i => ps (cf (locP xs)) (ser γ D n) i + D n * epw γ n * ps (cf (locP xs)) (epw (epw γ n)) i) xs.length (fun i _ => ps_ser_succ _ _ _ _ _), evN_add, ih, evN_mul]
    by_cases h0 : D n = 0
    · rw [h0, e0m, e0m, ea0]
      by_cases hkn : k = n
      · subst hkn
        rw [if_neg (by omega), if_pos (by omega), h0, e0m, en0]
      · by_cases hlt : k < n
        · rw [if_pos hlt, if_pos (by omega)]
        · rw [if_neg hlt, if_neg (by omega)]
    · have hm := (h n (by omega)).resolve_left h0
      obtain ⟨A, B, e⟩ := mem_split hm
      have hl := split_len hx e
      have hg := loc_geo A B (epw γ n)
      rw [← e] at hg
      rw [hg, ← ev_far (by omega)]
      by_cases hkn : k = n
      · subst hkn
        rw [if_neg (by omega), if_pos (by omega), e0a, der_loc n0 n1 e hr, emn, enn, ema]
      · have hz : ev r (locP (A ++ B)) = 0 := by
          refine (ev_loc r (A ++ B)).2 ⟨epw γ k, ?_, hr⟩
          rw [e] at hk
          rcases List.mem_append.1 hk with h1 | h1
          · exact List.mem_append_left _ h1
          · rcases List.mem_cons.1 h1 with h2 | h2
            · exact absurd h2.symm (hi n (by omega) (fun h => hkn h.symm))
            · exact List.mem_append_right _ h2
        rw [hz, em0, ea0]
        by_cases hlt : k < n
        · rw [if_pos hlt, if_pos (by omega)]
        · rw [if_neg hlt, if_neg (by omega)]
end

/-! The formula of Forney. -/
/-- The product of the polynomial of syndromes with a polynomial, without the coefficients from a number on. -/
def omeg (c : Nat) (S L : List (El R)) : List (El R) := trim ((mulP (trim S) L).take c)
theorem cf_take (p : List (El R)) (c i : Nat) : cf (p.take c) i = if i < c then cf p i else 0 := by
  unfold cf
  rw [List.getD_eq_getElem?_getD, List.getD_eq_getElem?_getD, List.getElem?_take]
  split <;> rfl
theorem cf_omeg (c : Nat) (S L : List (El R)) : cf (omeg c S L) = fun i => if i < c then ps (cf S) (cf L) i else 0 := by
  funext i
  rw [omeg, cf_trim, cf_take, cf_mul, cf_trim]
theorem tr_omeg (c : Nat) (S L : List (El R)) : Tr (omeg c S L) := tr_trim _
theorem omeg_le (c : Nat) (S L : List (El R)) : (omeg c S L).length ≤ c := by
  unfold omeg
  have h1 := trim_le ((mulP (trim S) L).take c)
  rw [List.length_take] at h1
  omega
/-- The value of an error with a locator. -/
def fvE (num : Nat → El R) (c : Nat) (S xs : List (El R)) (x : El R) : El R := -(ev x.inv (omeg c S (locP xs)) * (ev x.inv (derG num (locP xs))).inv)
section
variable {xs : List (El R)} (hx : ∀ x ∈ xs, x ≠ 0) {γ : El R} {D : Nat → El R} {n c : Nat} {S : List (El R)}
include hx
theorem omeg_ser (hD : ∀ i, i < n → D i = 0 ∨ epw γ i ∈ xs) (hc : xs.length ≤ c) (hS : ∀ j, j < c → cf S j = ser γ D n j) :
    cf (omeg c S (locP xs)) = ps (cf (locP xs)) (ser γ D n) := by
  rw [cf_omeg]
  funext i
  show (if i < c then _ else _) = _
  split
  · rw [ps_comm]
    exact ps_local (fun _ _ => rfl) (fun j hj => hS j (by omega))
  · exact (loc_ser_far hx hD i (by omega)).symm
theorem omeg_len (hD : ∀ i, i < n → D i = 0 ∨ epw γ i ∈ xs) (hc : xs.length ≤ c) (hS : ∀ j, j < c → cf S j = ser γ D n j) : (omeg c S (locP xs)).length ≤ xs.length :=
  tr_len (tr_omeg _ _ _) fun i hi => by rw [omeg_ser hx hD hc hS]; exact loc_ser_far hx hD i hi
section
variable {num : Nat → El R} (n0 : num 0 = 0) (n1 : ∀ j, num (j + 1) = num j + 1)
include n0 n1
theorem omeg_ev {N : Nat} (hF : Far γ N) (hn : n ≤ N) (hD : ∀ i, i < n → D i = 0 ∨ epw γ i ∈ xs) (hc : xs.length ≤ c) (hS : ∀ j, j < c → cf S j = ser γ D n j) {k : Nat} (hk : k < n) (hm : epw γ k ∈ xs) {r : El R} (hr : epw γ k * r = 1) :
    ev r (omeg c S (locP xs)) = -(D k * ev r (derG num (locP xs))) := by
  rw [ev_of (omeg_ser hx hD hc hS) (n := xs.length) (fun i hi => loc_ser_far hx hD i hi), loc_ser_ev n0 n1 hx hm hr hD (fun i hi hne => hF.2 i k (by omega) (by omega) hne), if_pos hk]
/-- The values of errors are recovered from their syndromes. -/
theorem forney {N : Nat} (hF : Far γ N) (hn : n ≤ N) (hd : xs.Nodup) (hD : ∀ i, i < n → D i = 0 ∨ epw γ i ∈ xs) (hc : xs.length ≤ c) (hS : ∀ j, j < c → cf S j = ser γ D n j) {k : Nat} (hk : k < n) (hm : epw γ k ∈ xs) :
    fvE num c S xs (epw γ k) = D k := by
  have hr := einv (epw_ne hF.1 k)
  have hne := der_ne n0 n1 hd hm hr
  rw [fvE, omeg_ev hx n0 n1 hF hn hD hc hS hk hm hr, enm, enn, ema, einv hne, em1]
/-- And if there are such values at all, they have these syndromes. -/
theorem forney_back {N : Nat} (hF : Far γ N) (hn : n ≤ N) (hd : xs.Nodup) (hin : ∀ x ∈ xs, ∃ k, k < n ∧ x = epw γ k) (hc : xs.length ≤ c) (hl : (omeg c S (locP xs)).length ≤ xs.length)
    (hDv : ∀ k, k < n → D k = if epw γ k ∈ xs then fvE num c S xs (epw γ k) else 0) : ∀ j, j < c → cf S j = ser γ D n j := by
  have hD : ∀ i, i < n → D i = 0 ∨ epw γ i ∈ xs := fun i hi => by
    by_cases h : epw γ i ∈ xs
    · exact .inr h
    · left; rw [hDv i hi, if_neg h]
  have hS' : ∀ j, j < c → cf (tab c (ser γ D n)) j = ser γ D n j := fun j hj => by rw [cf_tab, if_pos hj]
  have e : omeg c S (locP xs) = omeg c (tab c (ser γ D n)) (locP xs) := by
    refine fit_only (tr_omeg _ _ _) (tr_omeg _ _ _) (xs := xs.map El.inv) (by rw [List.length_map]; exact hl) (by rw [List.length_map]; exact omeg_len hx hD hc hS') ?_ ?_
    · refine List.pairwise_map.2 (List.Pairwise.imp_of_mem (fun {a b} ha hb hne e => hne ?_) hd)
      have h1 := einv (hx a ha)
      have h2 := einv (hx b hb)
      rw [← e] at h2
      exact inv_only h1 h2
    · intro y hy
      obtain ⟨x, hxm, rfl⟩ := List.mem_map.1 hy
      obtain ⟨k, hk, rfl⟩ := hin x hxm
      have hr := einv (epw_ne hF.1 k)
      have hne := der_ne n0 n1 hd hxm hr
      rw [omeg_ev hx n0 n1 hF hn hD hc hS' hk hxm hr, hDv k hk, if_pos hxm, fvE, enm, enn, ema, emc (El.inv _), einv hne, em1]
  have h0 := loc_zero hx
  have h1 : ∀ i, i < c → ps (cf (locP xs)) (cf S) i = ps (cf (locP xs)) (cf (tab c (ser γ D n))) i := fun i hi => by
    have h2 := congrFun (cf_omeg c S (locP xs)) i
    have h3 := congrFun (cf_omeg c (tab c (ser γ D n)) (locP xs)) i
    rw [e] at h2
    rw [h2] at h3
    simp only [if_pos hi] at h3
    rw [ps_comm, h3, ps_comm]
  intro j hj
  rw [ps_cancel h0 h1 j hj, hS' j hj]
end
end
end
end Go.Proofs.Ytpheembgjdgniaa
