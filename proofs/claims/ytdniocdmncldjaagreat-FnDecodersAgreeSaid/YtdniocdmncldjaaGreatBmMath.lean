/-
  The algorithm of Berlekamp and Massey: a polynomial with the least length that fits a sequence; and the locator polynomial of errors as a recurrence.
  No condition but those of each statement.
-/
import Derived.Test.YtdniocdmncldjaaGreatJP
namespace Go.Proofs.YtdniocdmncldjaaGreat
section
variable {R : Fld}

theorem sumN_zero {h : Nat → El R} (n : Nat) (hz : ∀ j, j < n → h j = 0) : sumN h n = 0 := by
  induction n with
  | zero => rfl
  | succ n ih => show sumN h n + h n = 0; rw [ih (fun j hj => hz j (by omega)), hz n (by omega), ea0]
theorem sumN_more {h : Nat → El R} {n : Nat} (hz : ∀ j, n ≤ j → h j = 0) (d : Nat) : sumN h (n + d) = sumN h n := by
  induction d with
  | zero => rfl
  | succ d ih => show sumN h (n + d) + h (n + d) = _; rw [ih, hz (n + d) (by omega), ea0]
/-- x. -/
def xP : List (El R) := [0, 1]
theorem xP_far : ∀ i, 2 ≤ i → cf (xP : List (El R)) i = 0 := fun i hi => cf_out (by simpa [xP] using hi)
theorem tr_xP : Tr (xP : List (El R)) := fun i hi => by
  obtain rfl : i = 1 := by simp [xP] at hi; omega
  exact e10
theorem ps_x (g : Nat → El R) (i : Nat) : ps (cf xP) g i = if 1 ≤ i then g (i - 1) else 0 := by
  rw [← mulN_ps g xP_far]
  show 0 + up 0 0 g i + up 1 1 g i = _
  rw [up_zero, e0a, e0a]
  unfold up
  split
  · rw [e1m]
  · rfl

/-- A polynomial fits the first n elements of a sequence with a length. -/
structure Fits (s : Nat → El R) (n : Nat) (C : Nat → El R) (L : Nat) : Prop where
  one : C 0 = 1
  deg : ∀ i, L < i → C i = 0
  sums : ∀ k, L ≤ k → k < n → ps C s k = 0
theorem Fits.less {s C : Nat → El R} {n L : Nat} (h : Fits s (n + 1) C L) : Fits s n C L := ⟨h.one, h.deg, fun k h1 h2 => h.sums k h1 (by omega)⟩
/-- If a polynomial fails at an element, every one that fits all of them has at least the number of the elements less its length. -/
theorem massey {s C D : Nat → El R} {n L M : Nat} (hC : Fits s n C L) (hd : ps C s n ≠ 0) (hD : Fits s (n + 1) D M) : n + 1 ≤ M + L := by
  refine Nat.le_of_not_lt fun hlt => hd ?_
  have e : ps D (ps C s) n = ps C (ps D s) n := congrFun (ps_left D C s) n
  rw [ps_sum, ps_sum, sumN_front, hD.one, e1m, sumN_zero n, ea0, sumN_zero (n + 1)] at e
  · exact e
  · intro j hj
    rcases Nat.lt_or_ge L j with h1 | h1
    · rw [hC.deg j h1, e0m]
    · rw [hD.sums (n - j) (by omega) (by omega), em0]
  · intro j hj
    rcases Nat.lt_or_ge M (j + 1) with h1 | h1
    · rw [hD.deg (j + 1) h1, e0m]
    · rw [hC.sums (n - (j + 1)) (by omega) (by omega), em0]

/-- What the algorithm keeps: the polynomial C with the length L, and an older one. -/
structure Bm (s : Nat → El R) (n : Nat) (C B : Nat → El R) (L : Nat) : Prop where
  fit : Fits s n C L
  le : L ≤ n
  bdeg : ∀ i, n < i + L → B i = 0
  bsum : ∀ k, n ≤ k + L → k + 1 < n → ps B s k = 0
  btop : 0 < L → ps B s (n - 1) = 1
  least : ∀ D M, Fits s n D M → L ≤ M
theorem bm_start (s : Nat → El R) : Bm s 0 (cf [1]) (cf [1]) 0 where
  fit := ⟨rfl, fun i hi => cf_out (by simp; omega), fun k _ h => by omega⟩
  le := Nat.le_refl _
  bdeg := fun i hi => cf_out (by simp; omega)
  bsum := fun k _ h => by omega
  btop := fun h => by omega
  least := fun _ _ _ => Nat.zero_le _
section
variable {s C B X : Nat → El R} {n L : Nat} (h : Bm s n C B L) (hX : X = ps (cf xP) B)
include h hX
theorem Bm.up_deg : ∀ i, n + 1 < i + L → X i = 0 := fun i hi => by
  rw [hX, ps_x]; split
  · exact h.bdeg _ (by omega)
  · rfl
theorem Bm.up_sum : ∀ k, n + 1 ≤ k + L → k < n → ps X s k = 0 := fun k hk hn => by
  rw [hX, ← ps_assoc, ps_x]; split
  · exact h.bsum _ (by omega) (by omega)
  · rfl
theorem Bm.up_top (hL : 0 < L) : ps X s n = 1 := by
  have := h.le
  rw [hX, ← ps_assoc, ps_x, if_pos (by omega)]
  exact h.btop hL
/-- The polynomial fits the next element. -/
theorem Bm.keep (hd : ps C s n = 0) : Bm s (n + 1) C X L where
  fit := ⟨h.fit.one, h.fit.deg, fun k h1 h2 => by
    rcases Nat.lt_or_ge k n with h3 | h3
    · exact h.fit.sums k h1 h3
    · obtain rfl : k = n := by omega
      exact hd⟩
  le := Nat.le_succ_of_le h.le
  bdeg := fun i hi => h.up_deg hX i hi
  bsum := fun k hk hn => h.up_sum hX k hk (by omega)
  btop := fun hL => h.up_top hX hL
  least := fun D M hD => h.least D M hD.less
theorem Bm.next_fit {d : El R} (hd : ps C s n = d) {C' : Nat → El R} (hC : C' = fun i => C i + -d * X i) {L' : Nat} (h1 : L ≤ L') (h2 : n + 1 ≤ L' + L) (h0 : L = 0 → n < L') : Fits s (n + 1) C' L' := by
  have hs : ∀ k, ps C' s k = ps C s k + -d * ps X s k := fun k => by
    rw [hC, ps_addL, ps_mulL]
  refine ⟨?_, fun i hi => ?_, fun k hk hn => ?_⟩
  · have : X 0 = 0 := by rw [hX, ps_x, if_neg (by omega)]
    rw [hC]; show C 0 + -d * X 0 = 1; rw [this, em0, ea0, h.fit.one]
  · rw [hC]; show C i + -d * X i = 0; rw [h.fit.deg i (by omega), h.up_deg hX i (by omega), em0, ea0]
  · rw [hs]
    rcases Nat.lt_or_ge k n with h3 | h3
    · rw [h.fit.sums k (by omega) h3, h.up_sum hX k (by omega) h3, em0, ea0]
    · obtain rfl : k = n := by omega
      rw [hd, h.up_top hX (by omega), em1, ean]
/-- It does not fit, and the length need not grow. -/
theorem Bm.stay {d : El R} (hd : ps C s n = d) (hL : ¬ 2 * L < n + 1) {C' : Nat → El R} (hC : C' = fun i => C i + -d * X i) : Bm s (n + 1) C' X L where
  fit := h.next_fit hX hd hC (Nat.le_refl _) (by omega) (by omega)
  le := Nat.le_succ_of_le h.le
  bdeg := fun i hi => h.up_deg hX i hi
  bsum := fun k hk hn => h.up_sum hX k hk (by omega)
  btop := fun hL => h.up_top hX hL
  least := fun D M hD => h.least D M hD.less
/-- It does not fit, and the length grows. -/
theorem Bm.grow {d : El R} (hd : ps C s n = d) (hd0 : d ≠ 0) (hL : 2 * L < n + 1) {C' B' : Nat → El R} (hC : C' = fun i => C i + -d * X i) (hB : B' = fun i => d.inv * C i) : Bm s (n + 1) C' B' (n + 1 - L) where
  fit := h.next_fit hX hd hC (by omega) (by omega) (by omega)
  le := by omega
  bdeg := fun i hi => by rw [hB]; show d.inv * C i = 0; rw [h.fit.deg i (by omega), em0]
  bsum := fun k hk hn => by rw [hB, ps_mulL, h.fit.sums k (by omega) (by omega), em0]
  btop := fun _ => by rw [hB, ps_mulL, show n + 1 - 1 = n from rfl, hd, emc, einv hd0]
  least := fun D M hD => by
    have := massey h.fit (by rw [hd]; exact hd0) hD
    omega
end

/-- The state of the algorithm. -/
structure BmSt (R : Fld) where
  C : List (El R)
  O : List (El R)
  L : Nat
def bmNext (s : Nat → El R) (n : Nat) (t : BmSt R) : BmSt R :=
  if ps (cf t.C) s n = 0 then ⟨t.C, mulP t.O xP, t.L⟩
  else if 2 * t.L < n + 1 then ⟨addP t.C (scaP (-(ps (cf t.C) s n)) (mulP t.O xP)), scaP (ps (cf t.C) s n).inv t.C, n + 1 - t.L⟩
  else ⟨addP t.C (scaP (-(ps (cf t.C) s n)) (mulP t.O xP)), mulP t.O xP, t.L⟩
/-- The state behind the first n elements. -/
def bm (s : Nat → El R) : Nat → BmSt R
  | 0 => ⟨[1], [1], 0⟩
  | n + 1 => bmNext s n (bm s n)
theorem bm_ok (s : Nat → El R) : ∀ n, Bm s n (cf (bm s n).C) (cf (bm s n).O) (bm s n).L ∧ Tr (bm s n).C ∧ Tr (bm s n).O
  | 0 => ⟨bm_start s, tr_one, tr_one⟩
  | n + 1 => by
    obtain ⟨h, h1, h2⟩ := bm_ok s n
    have hX : cf (mulP (bm s n).O xP) = ps (cf xP) (cf (bm s n).O) := by rw [cf_mul, ps_comm]
    have hT := tr_mul h2 (tr_xP (R := R))
    have hC : cf (addP (bm s n).C (scaP (-(ps (cf (bm s n).C) s n)) (mulP (bm s n).O xP))) = fun i => cf (bm s n).C i + -(ps (cf (bm s n).C) s n) * cf (mulP (bm s n).O xP) i := by
      rw [cf_addP, cf_sca]
    show Bm s (n + 1) (cf (bmNext s n (bm s n)).C) (cf (bmNext s n (bm s n)).O) (bmNext s n (bm s n)).L ∧ Tr (bmNext s n (bm s n)).C ∧ Tr (bmNext s n (bm s n)).O
    unfold bmNext
    by_cases hd : ps (cf (bm s n).C) s n = 0
    · rw [if_pos hd]
      exact ⟨h.keep hX hd, h1, hT⟩
    · rw [if_neg hd]
      by_cases hL : 2 * (bm s n).L < n + 1
      · rw [if_pos hL]
        exact ⟨h.grow hX rfl hd hL hC (cf_sca _ _), tr_trim _, tr_sca _ _⟩
      · rw [if_neg hL]
        exact ⟨h.stay hX rfl hL hC, tr_trim _, hT⟩
theorem bm_tr (s : Nat → El R) (n : Nat) : Tr (bm s n).C := (bm_ok s n).2.1
theorem bm_le (s : Nat → El R) (n : Nat) : (bm s n).L ≤ n := (bm_ok s n).1.le
theorem bm_fit (s : Nat → El R) (n : Nat) : Fits s n (cf (bm s n).C) (bm s n).L := (bm_ok s n).1.fit
theorem bm_len (s : Nat → El R) (n : Nat) : (bm s n).C.length ≤ (bm s n).L + 1 := tr_len (bm_tr s n) fun i hi => (bm_fit s n).deg i (by omega)
theorem bm_olen (s : Nat → El R) (n : Nat) : (bm s n).O.length ≤ n + 1 := tr_len (bm_ok s n).2.2 fun i hi => (bm_ok s n).1.bdeg i (by omega)
theorem bm_pos (s : Nat → El R) (n : Nat) : 0 < (bm s n).C.length := by
  refine Nat.pos_of_ne_zero fun h => e10 (R := R) ?_
  rw [← (bm_fit s n).one, cf_out (by omega)]
theorem bm_congr {s s' : Nat → El R} : ∀ {n : Nat}, (∀ j, j < n → s j = s' j) → bm s n = bm s' n
  | 0, _ => rfl
  | n + 1, h => by
    show bmNext s n (bm s n) = bmNext s' n (bm s' n)
    rw [bm_congr fun j hj => h j (by omega)]
    unfold bmNext
    rw [ps_local (f := cf (bm s' n).C) (fun _ _ => rfl) (fun j hj => h j (by omega))]
/-- While the polynomial fits, it stays. -/
theorem bm_keep {s : Nat → El R} {n : Nat} (d : Nat) (h : ∀ k, n ≤ k → k < n + d → ps (cf (bm s n).C) s k = 0) : (bm s (n + d)).C = (bm s n).C ∧ (bm s (n + d)).L = (bm s n).L := by
  induction d with
  | zero => exact ⟨rfl, rfl⟩
  | succ d ih =>
    obtain ⟨h1, h2⟩ := ih fun k hk hk' => h k hk (by omega)
    have e : ps (cf (bm s (n + d)).C) s (n + d) = 0 := by rw [h1]; exact h (n + d) (by omega) (by omega)
    show (bmNext s (n + d) (bm s (n + d))).C = _ ∧ (bmNext s (n + d) (bm s (n + d))).L = _
    unfold bmNext
    rw [if_pos e]
    exact ⟨h1, h2⟩

/-! The sequence with the elements that continue it. -/
/-- One more element. -/
def nextE (C s : List (El R)) : El R := -(ps (cf C) (cf s) s.length)
def contL (C s : List (El R)) : Nat → List (El R)
  | 0 => s
  | n + 1 => contL C s n ++ [nextE C (contL C s n)]
theorem cont_len (C s : List (El R)) : ∀ n, (contL C s n).length = s.length + n
  | 0 => rfl
  | n + 1 => by show (contL C s n ++ [_]).length = _; rw [List.length_append, cont_len C s n]; rfl
theorem cont_take (C s : List (El R)) : ∀ n, (contL C s n).take s.length = s
  | 0 => List.take_length
  | n + 1 => by
    show (contL C s n ++ [_]).take s.length = s
    rw [List.take_append_of_le_length (by rw [cont_len]; omega), cont_take C s n]
theorem cont_left (C s : List (El R)) {j : Nat} : ∀ n m, n ≤ m → j < s.length + n → cf (contL C s m) j = cf (contL C s n) j := by
  intro n m hnm hj
  obtain ⟨d, rfl⟩ := Nat.exists_eq_add_of_le hnm
  induction d with
  | zero => rfl
  | succ d ih =>
    show cf (contL C s (n + d) ++ [_]) j = _
    rw [cf_left (by rw [cont_len]; omega), ih (by omega)]
theorem cont_fits {C s : List (El R)} (h1 : cf C 0 = 1) {n m k : Nat} (hk : k = s.length + m) (hlt : m < n) : ps (cf C) (cf (contL C s n)) k = 0 := by
  subst hk
  have e1 : ps (cf C) (cf (contL C s n)) (s.length + m) = ps (cf C) (cf (contL C s (m + 1))) (s.length + m) :=
    ps_local (fun _ _ => rfl) fun j hj => cont_left C s (m + 1) n (by omega) (by omega)
  have hl := cont_len C s m
  have e2 : ∀ t : List (El R), ps (cf C) (cf t) t.length + -(ps (cf C) (cf t) t.length) = 0 := fun t => ean _
  have e3 : ps (cf C) (cf (contL C s (m + 1))) (s.length + m) = nextE C (contL C s m) + ps (cf C) (cf (contL C s m)) (s.length + m) := by
    rw [ps_sum, ps_sum, sumN_front, sumN_front, h1, e1m, e1m]
    have z : cf (contL C s m) (s.length + m - 0) = 0 := cf_out (by omega)
    rw [z, e0a]
    show cf (contL C s m ++ [nextE C (contL C s m)]) (s.length + m - 0) + _ = _
    rw [show s.length + m - 0 = (contL C s m).length by omega, cf_snoc]
    congr 1
    refine sumN_congr _ fun j hj => ?_
    show cf C (j + 1) * cf (contL C s m ++ [_]) _ = _
    rw [cf_left (by omega)]
  rw [e1, e3, nextE, hl, ena]
/-- The sequence that is continued has the same recurrence. -/
theorem cont_bm {s : List (El R)} (n : Nat) :
    (bm (cf (contL (bm (cf s) s.length).C s n)) (s.length + n)).C = (bm (cf s) s.length).C ∧ (bm (cf (contL (bm (cf s) s.length).C s n)) (s.length + n)).L = (bm (cf s) s.length).L := by
  have hb : bm (cf (contL (bm (cf s) s.length).C s n)) s.length = bm (cf s) s.length := bm_congr fun j hj => cont_left _ s 0 n (by omega) (by omega)
  have := bm_keep (s := cf (contL (bm (cf s) s.length).C s n)) (n := s.length) n (fun k hk hk' => by
    rw [hb]
    exact cont_fits (bm_fit _ _).one (n := n) (m := k - s.length) (by omega) (by omega))
  rwa [hb] at this

/-! The locator polynomial of errors. -/
theorem ps_shift {C t T : Nat → El R} {L r j : Nat} (hC : ∀ i, L < i → C i = 0) (hj : L ≤ j) (ht : ∀ i, i ≤ j → t i = T (i + r)) : ps C t j = ps C T (j + r) := by
  rw [ps_sum, ps_sum, show j + r + 1 = j + 1 + r by omega, sumN_more (n := j + 1) (fun i hi => by rw [hC i (by omega), e0m])]
  refine sumN_congr _ fun i hi => ?_
  rw [ht (j - i) (by omega), show j - i + r = j + r - i by omega]
theorem key_final {c l L : Nat} {T v : List (El R)} {xe xf : List (El R)} {γ : El R} {D : Nat → El R} {num : Nat → El R}
    (hv0 : cf v 0 = 1) (htr : Tr v) (hlv : v.length ≤ L + 1) (hLe : L ≤ xf.length) (hv : ∀ i, xe.length + L ≤ i → i < c → ps (cf v) (cf T) i = 0)
    (n0 : num 0 = 0) (n1 : ∀ j, num (j + 1) = num j + 1)
    (hF : Far γ l) (hx : ∀ x ∈ xe ++ xf, x ≠ 0) (hd : (xe ++ xf).Nodup) (hD : ∀ i, i < l → D i = 0 ∨ epw γ i ∈ xe ++ xf)
    (hf : ∀ x ∈ xf, ∃ k, k < l ∧ x = epw γ k ∧ D k ≠ 0) (hw : 2 * xf.length + xe.length ≤ c)
    (hT : ∀ i, i < c → cf T i = ps (cf (locP xe)) (ser γ D l) i) : v = locP xf ∧ L = xf.length := by
  have hxf : ∀ x ∈ xf, x ≠ 0 := fun x hm => hx x (List.mem_append_right _ hm)
  let O : Nat → El R := ps (cf (locP (xe ++ xf))) (ser γ D l)
  have hO : ∀ i, (xe ++ xf).length ≤ i → O i = 0 := loc_ser_far hx hD
  rw [List.length_append] at hO
  have hLf : ∀ i, xf.length + 1 ≤ i → cf (locP xf) i = 0 := fun i hi => cf_out (by rw [loc_len hxf]; exact hi)
  have hLT : ∀ i, i < c → ps (cf (locP xf)) (cf T) i = O i := fun i hi => by
    show _ = ps (cf (locP (xe ++ xf))) (ser γ D l) i
    rw [loc_app, ps_comm (cf (locP xe)), ← ps_assoc]
    exact ps_local (fun _ _ => rfl) (fun j hj => hT j (by omega))
  let P : Nat → El R := fun i => if i < xe.length + L then ps (cf v) (cf T) i else 0
  have hP : ∀ i, xe.length + L ≤ i → P i = 0 := fun i hi => if_neg (by omega)
  have hPv : ∀ i, i < c → ps (cf v) (cf T) i = P i := fun i hi => by
    show _ = if i < xe.length + L then _ else _
    split
    · rfl
    · exact hv i (by omega) hi
  have hvO : ps (cf v) O = ps (cf (locP xf)) P := by
    funext i
    rcases Nat.lt_or_ge i c with hi | hi
    · have e1 : ps (cf v) O i = ps (cf v) (ps (cf (locP xf)) (cf T)) i := ps_local (fun _ _ => rfl) (fun j hj => (hLT j (by omega)).symm)
      rw [e1, ps_left]
      exact ps_local (fun _ _ => rfl) (fun j hj => hPv j (by omega))
    · rw [ps_far (n := v.length) (m := xe.length + xf.length) (cf_far v) hO i (by omega), ps_far (n := xf.length + 1) (m := xe.length + L) hLf hP i (by omega)]
  have hroot : ∀ x ∈ xf, ev x.inv v = 0 := by
    intro x hm
    obtain ⟨k, hk, rfl, hne⟩ := hf x hm
    have hr := einv (epw_ne hF.1 k)
    have hmm : epw γ k ∈ xe ++ xf := List.mem_append_right _ hm
    have e1 : ev (epw γ k).inv v * evN (epw γ k).inv O (xe.length + xf.length) = 0 := by
      rw [ev_is, ← evN_ps (cf_far v) hO (K := v.length + (xe.length + xf.length) + (xf.length + 1 + (xe.length + L))) (by omega), hvO, evN_ps hLf hP (by omega), ← ev_far (by rw [loc_len hxf]; exact Nat.le_refl _), (ev_loc _ xf).2 ⟨_, hm, hr⟩, e0m]
    have e2 := loc_ser_ev n0 n1 hx hmm hr hD (fun i hi hne => hF.2 i k hi (by omega) hne)
    rw [if_pos hk, List.length_append] at e2
    refine Classical.byContradiction fun hv => emul_ne hv ?_ e1
    show evN _ (ps (cf (locP (xe ++ xf))) (ser γ D l)) _ ≠ 0
    rw [e2]
    exact eneg_ne (emul_ne hne (der_ne n0 n1 hd hmm hr))
  have hdf : xf.Nodup := (List.nodup_append.1 hd).2.1
  have hnd := inv_nodup hxf hdf
  have hvp : 0 < v.length := by
    refine Nat.pos_of_ne_zero fun h => e10 (R := R) ?_
    rw [← hv0, cf_out (by omega)]
  have hge : xf.length < v.length := by
    have := roots_few htr (by omega) hnd (fun x hm => by
      obtain ⟨y, hy, rfl⟩ := List.mem_map.1 hm
      exact hroot y hy)
    rwa [List.length_map] at this
  refine ⟨?_, by omega⟩
  refine fit_only htr (tr_loc hxf) (xs := 0 :: xf.map El.inv) (by simp; omega) (by rw [loc_len hxf]; simp) (List.nodup_cons.2 ⟨fun hm => ?_, hnd⟩) fun x hm => ?_
  · obtain ⟨y, hy, e⟩ := List.mem_map.1 hm
    exact einv_ne (hxf y hy) e
  · rcases List.mem_cons.1 hm with rfl | hm
    · have z : ∀ p : List (El R), ev 0 p = cf p 0 := fun p => by
        cases p with
        | nil => rfl
        | cons a p => show ev 0 p * 0 + a = a; rw [em0, e0a]
      rw [z, z, loc_zero hxf, hv0]
    · obtain ⟨y, hy, rfl⟩ := List.mem_map.1 hm
      rw [hroot y hy, (ev_loc _ xf).2 ⟨y, hy, einv (hxf y hy)⟩]
section
variable {γ : El R} {l c : Nat} (hF : Far γ l)
include hF
/-- What the algorithm ends with, for the syndromes of a word with a code word within the bound, without what the erasures add. -/
theorem reg_final {num : Nat → El R} (n0 : num 0 = 0) (n1 : ∀ j, num (j + 1) = num j + 1) {E : List Nat} (hE : Idx l E) {ws cw : List (El R)} (hw : ws.length = l) (ho : Okw γ l c E ws cw) {t : Nat → El R}
    (ht : ∀ j, j < c - E.length → t j = cf (keyP γ l c ws E) (j + E.length)) :
    (bm t (c - E.length)).C = locP (locs γ l (errs l E ws cw)) ∧ (bm t (c - E.length)).L = (errs l E ws cw).length := by
  obtain ⟨hl, hcw, hb⟩ := ho
  have hI : Idx l (errs l E ws cw) := idx_filter _ _
  have he : (subW ws cw).length = l := by rw [subW_len, hw]
  have hEF : ∀ i ∈ E ++ errs l E ws cw, i < l := fun i hi => (List.mem_append.1 hi).elim (hE.2 i) (hI.2 i)
  have hnd : (E ++ errs l E ws cw).Nodup := List.nodup_append.2 ⟨hE.nodup, hI.nodup, fun x hx y hy e => (errs_mem.1 hy).2.1 (e ▸ hx)⟩
  have hD := supp_locs hF hEF he (fun i hi hne => by
    rw [cf_sub (by omega)] at hne
    by_cases hm : i ∈ E
    · exact List.mem_append_left _ hm
    · exact List.mem_append_right _ (errs_mem.2 ⟨hi, hm, fun e => hne (by rw [e, ean])⟩))
  rw [locs_app] at hD
  have hx : ∀ x ∈ locs γ l E ++ locs γ l (errs l E ws cw), x ≠ 0 := by rw [← locs_app]; exact locs_ne hF _
  have hT : ∀ i, i < c → cf (keyP γ l c ws E) i = ps (cf (locP (locs γ l E))) (ser γ (cf (subW ws cw).reverse) l) i := fun i hi => by
    rw [keyP, cf_omeg]
    show (if i < c then _ else _) = _
    rw [if_pos hi, ps_comm]
    refine ps_local (fun _ _ => rfl) fun j hj => ?_
    rw [← syn_ser γ c he j (by omega), syn_sub γ c (by omega), cf_tab, if_pos (by omega), zeroL_cf hcw j, en0, ea0]
  have hfit := bm_fit t (c - E.length)
  -- the locator polynomial of the errors fits, so that the length is at most their number
  have hne := locs_ne hF (errs l E ws cw)
  have hfd : ∀ i, (errs l E ws cw).length < i → cf (locP (locs γ l (errs l E ws cw))) i = 0 := fun i hi => cf_out (by rw [loc_len hne, locs_len]; omega)
  have hL : (bm t (c - E.length)).L ≤ (errs l E ws cw).length := by
    refine (bm_ok t (c - E.length)).1.least (cf (locP (locs γ l (errs l E ws cw)))) _ ⟨loc_zero hne, hfd, fun k hk hk' => ?_⟩
    rw [ps_shift (T := cf (keyP γ l c ws E)) (r := E.length) hfd hk (fun i hi => ht i (by omega))]
    have e1 : ps (cf (locP (locs γ l (errs l E ws cw)))) (cf (keyP γ l c ws E)) (k + E.length) = ps (cf (locP (locs γ l (errs l E ws cw)))) (ps (cf (locP (locs γ l E))) (ser γ (cf (subW ws cw).reverse) l)) (k + E.length) :=
      ps_local (fun _ _ => rfl) fun j hj => hT j (by omega)
    rw [e1, ps_assoc, ps_comm (cf (locP (locs γ l (errs l E ws cw)))), ← loc_app]
    exact loc_ser_far hx hD _ (by rw [List.length_append, locs_len, locs_len]; omega)
  have := key_final (c := c) (l := l) (L := (bm t (c - E.length)).L) (T := keyP γ l c ws E) (v := (bm t (c - E.length)).C) (xe := locs γ l E) (xf := locs γ l (errs l E ws cw)) (γ := γ) (D := cf (subW ws cw).reverse)
    hfit.one (bm_tr _ _) (bm_len _ _) (by rw [locs_len]; exact hL) (fun i hi hi' => by
      rw [locs_len] at hi
      have := hfit.sums (i - E.length) (by omega) (by omega)
      rw [ps_shift (T := cf (keyP γ l c ws E)) (r := E.length) hfit.deg (by omega) (fun i hi => ht i (by omega)), show i - E.length + E.length = i by omega] at this
      exact this) n0 n1 hF hx (by rw [← locs_app]; exact locs_nodup hF hEF hnd) hD (fun x hx => by
      obtain ⟨i, hi, rfl⟩ := List.mem_map.1 hx
      obtain ⟨h1, h2, h3⟩ := errs_mem.1 hi
      refine ⟨l - 1 - i, by omega, rfl, ?_⟩
      rw [cf_rev (by omega), he, show l - 1 - (l - 1 - i) = i by omega, cf_sub (by omega)]
      exact esub_ne h3) (by rw [locs_len, locs_len]; exact hb) hT
  rw [locs_len] at this
  exact this
/-- For a word with a code word within the bound the program finds the indices. -/
theorem reg_found {num : Nat → El R} (n0 : num 0 = 0) (n1 : ∀ j, num (j + 1) = num j + 1) {E : List Nat} (hE : Idx l E) {ws cw : List (El R)} (hw : ws.length = l) (ho : Okw γ l c E ws cw) {t : Nat → El R}
    (ht : ∀ j, j < c - E.length → t j = cf (keyP γ l c ws E) (j + E.length)) :
    2 * (bm t (c - E.length)).L ≤ c - E.length ∧ mulP (locP (locs γ l E)) (bm t (c - E.length)).C = locP (locs γ l (union l E (errs l E ws cw))) ∧ (union l E (errs l E ws cw)).length ≤ c := by
  obtain ⟨h1, h2⟩ := reg_final hF n0 n1 hE hw ho ht
  have hI : Idx l (errs l E ws cw) := idx_filter _ _
  have hd : ∀ i ∈ E, i ∉ errs l E ws cw := fun i hi hn => (errs_mem.1 hn).2.1 hi
  have hb := ho.2.2
  rw [h1, h2]
  refine ⟨by omega, mul_locs hF hE hI hd, ?_⟩
  rw [len_both hE.nodup hI.nodup (union_idx l E (errs l E ws cw)).nodup hd fun i => by
    rw [union_mem]
    exact ⟨fun h => h.2, fun h => ⟨h.elim (hE.2 i) (hI.2 i), h⟩⟩]
  omega
/-- What the program accepts is a code word within the bound. -/
theorem reg_sound {num : Nat → El R} (n0 : num 0 = 0) (n1 : ∀ j, num (j + 1) = num j + 1) {E : List Nat} (hE : Idx l E) {ws : List (El R)} (hw : ws.length = l) {v : List (El R)} (hv : 0 < v.length) (hvl : 2 * v.length + E.length ≤ c + 2) (hB : locB γ l (mulP (locP (locs γ l E)) v) = true) :
    (hits γ l (mulP (locP (locs γ l E)) v)).length ≤ c ∧ (valB γ l c (synW γ c ws) (hits γ l (mulP (locP (locs γ l E)) v)) = true → Okw γ l c E ws (corW num γ l c ws (hits γ l (mulP (locP (locs γ l E)) v)))) := by
  have hne := locs_ne hF E
  have hlen : (mulP (locP (locs γ l E)) v).length = E.length + v.length := by
    rw [mul_len (by rw [loc_len hne]; omega) (by omega), loc_len hne, locs_len]; omega
  have hB' := hB
  simp only [locB, decide_eq_true_eq] at hB'
  have hJ := hits_idx γ l (mulP (locP (locs γ l E)) v)
  have hs : ∀ i ∈ E, i ∈ hits γ l (mulP (locP (locs γ l E)) v) := fun i hi => hits_mem.2 ⟨hE.2 i hi, by
    rw [ev_mul, (ev_locs hF hE.2 (hE.2 i hi)).2 hi, e0m]⟩
  have hJc : (hits γ l (mulP (locP (locs γ l E)) v)).length ≤ c := by omega
  refine ⟨hJc, fun hv => ⟨by rw [corW_len, hw], cor_cw hF n0 n1 hJ hJc hw hv, ?_⟩⟩
  have := errs_few (num := num) (γ := γ) (c := c) hE hw hs
  omega
end
end
end Go.Proofs.YtdniocdmncldjaaGreat
