/-
  The order of the elements of a stream of blocks: which element of which block lies at an index, and where each lies; the parts of the data; the bound of bursts.
  No condition but those of each statement.
-/
namespace Go.Proofs.YtncgeoliboidhaaGreat
section
variable {D C K : Nat}
/-- The number of data elements of a block, of D in C blocks. -/
def lsz (D C k : Nat) : Nat := D / C + (if C - D % C ≤ k then 1 else 0)
/-- Where the data of a block begin. -/
def offB (D C k : Nat) : Nat := k * (D / C) + (k - (C - D % C))
/-- The index in the stream of an element of a block's word. -/
def sidx (D C k e : Nat) : Nat :=
  if e < D / C then e * C + k
  else if e < lsz D C k then D / C * C + (k - (C - D % C))
  else D + (e - lsz D C k) * C + k
/-- The block and the element at an index of the stream. -/
def pairOf (D C i : Nat) : Nat × Nat :=
  if i < D / C * C then (i % C, i / C)
  else if i < D then (C - D % C + (i - D / C * C), D / C)
  else ((i - D) % C, lsz D C ((i - D) % C) + (i - D) / C)

theorem dm (D C : Nat) : D / C * C + D % C = D := by rw [Nat.mul_comm]; exact Nat.div_add_mod D C
theorem lsz_short {k : Nat} (h : k < C - D % C) : lsz D C k = D / C := by unfold lsz; rw [if_neg (by omega)]; rfl
theorem lsz_long {k : Nat} (h : C - D % C ≤ k) : lsz D C k = D / C + 1 := by unfold lsz; rw [if_pos h]
theorem lsz_ge (D C k : Nat) : D / C ≤ lsz D C k := by unfold lsz; omega
theorem lsz_le (D C k : Nat) : lsz D C k ≤ D / C + 1 := by unfold lsz; split <;> omega
theorem offB_zero (D C : Nat) : offB D C 0 = 0 := by unfold offB; omega
theorem offB_succ (D C k : Nat) : offB D C (k + 1) = offB D C k + lsz D C k := by
  unfold offB lsz
  rw [Nat.add_mul, Nat.one_mul]
  split <;> omega
theorem offB_all (hC : 0 < C) : offB D C C = D := by
  have h1 := dm D C
  have h2 := Nat.mod_lt D hC
  unfold offB
  rw [Nat.mul_comm]
  omega
theorem offB_le {k : Nat} (hC : 0 < C) (hk : k ≤ C) : offB D C k ≤ D := by
  obtain ⟨d, rfl⟩ := Nat.exists_eq_add_of_le hk
  have h1 := offB_all (D := D) hC
  have h2 : ∀ n, offB D (k + d) k ≤ offB D (k + d) (k + n) := fun n => by
    induction n with
    | zero => exact Nat.le_refl _
    | succ n ih => rw [← Nat.add_assoc, offB_succ]; omega
  have := h2 d
  omega

/-- The index by a single sum: blocks with a longer part lie C - D % C earlier behind the full rows. -/
theorem sidx_row {k e : Nat} (h : e < D / C) : sidx D C k e = e * C + k := if_pos h
theorem sidx_short {k e : Nat} (hk : k < C - D % C) (h : D / C ≤ e) : sidx D C k e = e * C + D % C + k := by
  have h1 := dm D C
  unfold sidx
  rw [lsz_short hk, if_neg (by omega), if_neg (by omega), Nat.sub_mul]
  have h2 : D / C * C ≤ e * C := Nat.mul_le_mul_right _ h
  omega
theorem sidx_long {k e : Nat} (hC : 0 < C) (hk : C - D % C ≤ k) (h : D / C ≤ e) : sidx D C k e + C = e * C + D % C + k := by
  have h1 := dm D C
  have h3 := Nat.mod_lt D hC
  unfold sidx
  rw [lsz_long hk, if_neg (by omega)]
  by_cases he : e = D / C
  · subst he
    rw [if_pos (by omega)]; omega
  · rw [if_neg (by omega), Nat.sub_mul, Nat.add_mul, Nat.one_mul]
    have h2 : (D / C + 1) * C ≤ e * C := Nat.mul_le_mul_right _ (by omega)
    rw [Nat.add_mul, Nat.one_mul] at h2
    omega
/-- The last data element of a longer block. -/
theorem sidx_end {k : Nat} (hk : C - D % C ≤ k) : sidx D C k (D / C) = D / C * C + (k - (C - D % C)) := by
  unfold sidx
  rw [lsz_long hk, if_neg (Nat.lt_irrefl _), if_pos (Nat.lt_succ_self _)]
theorem mul_up {e q : Nat} (C : Nat) (h : e < q) : e * C + C ≤ q * C := by
  have := Nat.mul_le_mul_right C (show e + 1 ≤ q by omega)
  rw [Nat.add_mul, Nat.one_mul] at this
  exact this
theorem row_mod {k : Nat} (e : Nat) (h : k < C) : (e * C + k) % C = k := by rw [Nat.add_comm, Nat.add_mul_mod_self_right, Nat.mod_eq_of_lt h]
theorem row_div {k : Nat} (e : Nat) (h : k < C) : (e * C + k) / C = e := by rw [Nat.add_comm, Nat.add_mul_div_right _ _ (by omega), Nat.div_eq_of_lt h, Nat.zero_add]

theorem pair_sidx {k e : Nat} (hk : k < C) : pairOf D C (sidx D C k e) = (k, e) := by
  have h1 := dm D C
  have h3 := Nat.mod_lt D (show 0 < C by omega)
  rcases Nat.lt_or_ge e (D / C) with h | h
  · have := mul_up C h
    rw [sidx_row h, pairOf, if_pos (by omega), row_mod e hk, row_div e hk]
  · rcases Nat.lt_or_ge e (lsz D C k) with h4 | h4
    · have hl : C - D % C ≤ k := Nat.le_of_not_lt fun hn => by rw [lsz_short hn] at h4; omega
      rw [lsz_long hl] at h4
      obtain rfl : e = D / C := by omega
      rw [sidx_end hl, pairOf, if_neg (by omega), if_pos (by omega)]
      congr 1
      omega
    · unfold sidx
      rw [if_neg (by omega), if_neg (by omega)]
      generalize hj : e - lsz D C k = j
      unfold pairOf
      rw [if_neg (by omega), if_neg (by omega), show D + j * C + k - D = j * C + k by omega, row_mod j hk, row_div j hk]
      congr 1
      omega
theorem sidx_inj {k e k' e' : Nat} (hk : k < C) (hk' : k' < C) (h : sidx D C k e = sidx D C k' e') : k = k' ∧ e = e' := by
  have := congrArg (pairOf D C) h
  rw [pair_sidx hk, pair_sidx hk'] at this
  exact ⟨congrArg Prod.fst this, congrArg Prod.snd this⟩
theorem pair_lt (hC : 0 < C) (i : Nat) : (pairOf D C i).1 < C := by
  have h1 := dm D C
  have h3 := Nat.mod_lt D hC
  unfold pairOf
  split
  · exact Nat.mod_lt _ hC
  · split
    · show C - D % C + (i - D / C * C) < C
      omega
    · exact Nat.mod_lt _ hC
theorem sidx_pair (hC : 0 < C) (i : Nat) : sidx D C (pairOf D C i).1 (pairOf D C i).2 = i := by
  have h1 := dm D C
  have h3 := Nat.mod_lt D hC
  unfold pairOf
  split
  · rename_i h
    show sidx D C (i % C) (i / C) = i
    rw [sidx_row ((Nat.div_lt_iff_lt_mul hC).2 h)]
    exact dm i C
  · split
    · rename_i h h'
      show sidx D C (C - D % C + (i - D / C * C)) (D / C) = i
      unfold sidx
      rw [lsz_long (by omega), if_neg (by omega), if_pos (by omega)]
      omega
    · rename_i h h'
      show sidx D C ((i - D) % C) (lsz D C ((i - D) % C) + (i - D) / C) = i
      have h5 := lsz_ge D C ((i - D) % C)
      have h6 := dm (i - D) C
      unfold sidx
      generalize (i - D) / C = j at h6 ⊢
      generalize lsz D C ((i - D) % C) = s at h5 ⊢
      rw [if_neg (by omega), if_neg (by omega), show s + j - s = j by omega]
      omega
theorem pair_of {i k e : Nat} (hC : 0 < C) (hk : k < C) : pairOf D C i = (k, e) ↔ i = sidx D C k e :=
  ⟨fun h => by have := sidx_pair (D := D) hC i; rw [h] at this; exact this.symm, fun h => by rw [h, pair_sidx hk]⟩
/-- An element of a word lies within the stream, and only those. -/
theorem sidx_lt {k e : Nat} (hk : k < C) : sidx D C k e < D + C * K ↔ e < lsz D C k + K := by
  have h1 := dm D C
  have h3 := Nat.mod_lt D (show 0 < C by omega)
  have hge := lsz_ge D C k
  rw [Nat.mul_comm C K]
  rcases Nat.lt_or_ge e (D / C) with h | h
  · have := mul_up C h
    rw [sidx_row h]
    exact ⟨fun _ => by omega, fun _ => by omega⟩
  · rcases Nat.lt_or_ge e (lsz D C k) with h4 | h4
    · have hl : C - D % C ≤ k := Nat.le_of_not_lt fun hn => by rw [lsz_short hn] at h4; omega
      unfold sidx
      rw [if_neg (by omega), if_pos h4]
      exact ⟨fun _ => by omega, fun _ => by omega⟩
    · unfold sidx
      rw [if_neg (by omega), if_neg (by omega)]
      generalize hj : e - lsz D C k = j
      constructor
      · intro h
        rcases Nat.lt_or_ge j K with h5 | h5
        · omega
        · have := Nat.mul_le_mul_right C h5
          omega
      · intro h
        have := mul_up C (show j < K by omega)
        omega
theorem pair_elem {i : Nat} (hC : 0 < C) (hi : i < D + C * K) : (pairOf D C i).2 < lsz D C (pairOf D C i).1 + K :=
  (sidx_lt (pair_lt hC i)).1 (by rw [sidx_pair hC]; exact hi)
theorem pair_data {i : Nat} (hC : 0 < C) (hi : i < D) : (pairOf D C i).2 < lsz D C (pairOf D C i).1 := by
  have := pair_elem (K := 0) hC (show i < D + C * 0 by omega)
  exact this

/-- The elements of a block follow each other, and at least so far from each other. -/
theorem sidx_gap {k e m : Nat} (hk : k < C) (hm : 0 < m) : sidx D C k e + (if D % C = 0 then m * C else (m - 1) * C + D % C) ≤ sidx D C k (e + m) := by
  have hC : 0 < C := by omega
  have h1 := dm D C
  have h3 := Nat.mod_lt D hC
  have e1 : (e + m) * C = e * C + m * C := Nat.add_mul ..
  have e2 : (m - 1) * C + C = m * C := by
    obtain ⟨t, rfl⟩ : ∃ t, m = t + 1 := ⟨m - 1, by omega⟩
    rw [Nat.add_sub_cancel, Nat.add_mul, Nat.one_mul]
  rcases Nat.lt_or_ge k (C - D % C) with hs | hl
  · rcases Nat.lt_or_ge (e + m) (D / C) with h5 | h5
    · rw [sidx_row h5, sidx_row (by omega), e1]
      split <;> omega
    · rw [sidx_short hs h5, e1]
      rcases Nat.lt_or_ge e (D / C) with h6 | h6
      · rw [sidx_row h6]; split <;> omega
      · rw [sidx_short hs h6]; split <;> omega
  · rcases Nat.lt_or_ge (e + m) (D / C) with h5 | h5
    · rw [sidx_row h5, sidx_row (by omega), e1]
      split <;> omega
    · have h7 := sidx_long hC hl h5
      rw [e1] at h7
      rcases Nat.lt_or_ge e (D / C) with h6 | h6
      · rw [sidx_row h6]; split <;> omega
      · have h8 := sidx_long hC hl h6
        split <;> omega
theorem sidx_mono {k e e' : Nat} (hk : k < C) (h : e < e') : sidx D C k e < sidx D C k e' := by
  have h1 := sidx_gap (D := D) (e := e) (m := e' - e) hk (by omega)
  rw [show e + (e' - e) = e' by omega] at h1
  have h2 := mul_up C (show 0 < e' - e by omega)
  split at h1 <;> omega
theorem sidx_less {k e e' : Nat} (hk : k < C) : sidx D C k e < sidx D C k e' ↔ e < e' := by
  refine ⟨fun h => ?_, sidx_mono hk⟩
  rcases Nat.lt_or_ge e e' with h1 | h1
  · exact h1
  · rcases Nat.lt_or_eq_of_le h1 with h2 | h2
    · have := sidx_mono (D := D) hk h2
      omega
    · subst h2; omega

/-- How many elements of a block lie in front of an index of the stream. -/
def ecnt (D C k : Nat) : Nat → Nat
  | 0 => 0
  | i + 1 => ecnt D C k i + (if (pairOf D C i).1 = k then 1 else 0)
theorem ecnt_iff {k : Nat} (hk : k < C) : ∀ i e, e < ecnt D C k i ↔ sidx D C k e < i
  | 0, e => by show e < 0 ↔ _; omega
  | i + 1, e => by
    have ih := ecnt_iff hk i
    have hC : 0 < C := by omega
    have hp := sidx_pair (D := D) hC i
    show e < ecnt D C k i + _ ↔ _
    by_cases hb : (pairOf D C i).1 = k
    · rw [if_pos hb]
      rw [hb] at hp
      have h1 : ∀ e, e < ecnt D C k i ↔ e < (pairOf D C i).2 := fun e => by rw [ih e, ← sidx_less (D := D) hk (e := e), hp]
      have h2 : ecnt D C k i = (pairOf D C i).2 := by
        have a := h1 (ecnt D C k i)
        have b := h1 (pairOf D C i).2
        omega
      have h3 := sidx_less (D := D) hk (e := e) (e' := (pairOf D C i).2 + 1)
      have h4 := sidx_less (D := D) hk (e := (pairOf D C i).2) (e' := e)
      rw [hp] at h4
      rw [h2]
      omega
    · rw [if_neg hb]
      have : sidx D C k e ≠ i := fun he => hb (by rw [← he, pair_sidx hk])
      have := ih e
      omega
/-- The element at an index is that with the number of its block's elements in front. -/
theorem ecnt_at {k i : Nat} (hC : 0 < C) (hb : (pairOf D C i).1 = k) : ecnt D C k i = (pairOf D C i).2 := by
  have hk : k < C := hb ▸ pair_lt hC i
  have hp := sidx_pair (D := D) hC i
  rw [hb] at hp
  have h1 : ∀ e, e < ecnt D C k i ↔ e < (pairOf D C i).2 := fun e => by rw [ecnt_iff hk i e, ← sidx_less (D := D) hk (e := e), hp]
  have a := h1 (ecnt D C k i)
  have b := h1 (pairOf D C i).2
  omega
theorem ecnt_yes {k i : Nat} (hb : (pairOf D C i).1 = k) : ecnt D C k (i + 1) = ecnt D C k i + 1 := by show _ + (if _ then 1 else 0) = _; rw [if_pos hb]
theorem ecnt_no {k i : Nat} (hb : (pairOf D C i).1 ≠ k) : ecnt D C k (i + 1) = ecnt D C k i := by show _ + (if _ then 1 else 0) = _; rw [if_neg hb]; rfl
theorem ecnt_all {k : Nat} (hk : k < C) : ecnt D C k (D + C * K) = lsz D C k + K := by
  have h : ∀ e, e < ecnt D C k (D + C * K) ↔ e < lsz D C k + K := fun e => (ecnt_iff hk _ e).trans (sidx_lt hk)
  have a := h (ecnt D C k (D + C * K))
  have b := h (lsz D C k + K)
  omega
theorem ecnt_data {k : Nat} (hk : k < C) : ecnt D C k D = lsz D C k := ecnt_all (K := 0) hk
theorem ecnt_mono {k i j : Nat} (h : i ≤ j) : ecnt D C k i ≤ ecnt D C k j := by
  obtain ⟨d, rfl⟩ := Nat.exists_eq_add_of_le h
  clear h
  induction d with
  | zero => exact Nat.le_refl _
  | succ d ih => show _ ≤ ecnt D C k (i + d) + _; omega

/-- The greatest length of bursts of which no block has more than half of its check elements. -/
def burst (D C K : Nat) : Nat := if K / 2 = 0 then 0 else if D % C = 0 then K / 2 * C else (K / 2 - 1) * C + D % C
theorem burst_few {k s b : Nat} (hk : k < C) (hb : b ≤ burst D C K) : ecnt D C k (s + b) ≤ ecnt D C k s + K / 2 := by
  refine Nat.le_of_not_lt fun hn => ?_
  have h1 := (ecnt_iff (D := D) hk (s + b) (ecnt D C k s + K / 2)).1 hn
  have h2 : ¬ sidx D C k (ecnt D C k s) < s := fun h => Nat.lt_irrefl _ ((ecnt_iff (D := D) hk s (ecnt D C k s)).2 h)
  unfold burst at hb
  split at hb
  · rename_i h0
    rw [h0] at h1
    have : ecnt D C k s + 0 = ecnt D C k s := rfl
    rw [this] at h1
    omega
  · have h3 := sidx_gap (D := D) (e := ecnt D C k s) (m := K / 2) hk (by omega)
    omega
/-- One more element is too many at some place. -/
theorem burst_most (hC : 0 < C) (hD : C ≤ D) (hK : 0 < K) : ∃ k s, k < C ∧ s + (burst D C K + 1) ≤ D + C * K ∧ K / 2 < ecnt D C k (s + (burst D C K + 1)) - ecnt D C k s := by
  have h1 := dm D C
  have h3 := Nat.mod_lt D hC
  have hq : 1 ≤ D / C := (Nat.le_div_iff_mul_le hC).2 (by omega)
  have key : ∀ k e, k < C → e + K / 2 < lsz D C k + K → sidx D C k (e + K / 2) = sidx D C k e + burst D C K → ∃ k s, k < C ∧ s + (burst D C K + 1) ≤ D + C * K ∧ K / 2 < ecnt D C k (s + (burst D C K + 1)) - ecnt D C k s := by
    intro k e hk he hs
    have hl := (sidx_lt (D := D) (K := K) hk).2 he
    refine ⟨k, sidx D C k e, hk, by omega, ?_⟩
    have a := (ecnt_iff (D := D) hk (sidx D C k e + (burst D C K + 1)) (e + K / 2)).2 (by omega)
    have b : ¬ e < ecnt D C k (sidx D C k e) := fun h => Nat.lt_irrefl _ ((ecnt_iff (D := D) hk _ e).1 h)
    omega
  by_cases h0 : K / 2 = 0
  · refine key 0 0 hC (by have := lsz_ge D C 0; omega) ?_
    unfold burst
    rw [if_pos h0, h0]; rfl
  · by_cases hr : D % C = 0
    · have hs : (0 : Nat) < C - D % C := by omega
      refine key 0 0 hC (by have := lsz_ge D C 0; omega) ?_
      unfold burst
      rw [if_neg h0, if_pos hr, sidx_row (show 0 < D / C by omega)]
      rcases Nat.lt_or_ge (0 + K / 2) (D / C) with h5 | h5
      · rw [sidx_row h5]; simp
      · rw [sidx_short hs h5]; simp [hr]
    · have hl : C - D % C ≤ C - 1 := by omega
      refine key (C - 1) (D / C - 1) (by omega) (by rw [lsz_long hl]; omega) ?_
      have h7 := sidx_long (D := D) (e := D / C - 1 + K / 2) hC hl (by omega)
      have e1 : (D / C - 1 + K / 2) * C = (D / C - 1) * C + K / 2 * C := Nat.add_mul ..
      have e2 : (K / 2 - 1) * C + C = K / 2 * C := by
        obtain ⟨t, ht⟩ : ∃ t, K / 2 = t + 1 := ⟨K / 2 - 1, by omega⟩
        rw [ht, Nat.add_sub_cancel, Nat.add_mul, Nat.one_mul]
      unfold burst
      rw [if_neg h0, if_neg hr, sidx_row (show D / C - 1 < D / C by omega)]
      omega
theorem burst_le (hC : 0 < C) (hD : C ≤ D) (hK : 0 < K) : burst D C K < D + C * K := by
  obtain ⟨k, s, _, h, _⟩ := burst_most hC hD hK
  omega

theorem filter_between (lo hi : Nat) (n : Nat) : ((List.range n).filter fun e => decide (lo ≤ e) && decide (e < hi)).length ≤ hi - lo := by
  have : ∀ n, ((List.range n).filter fun e => decide (lo ≤ e) && decide (e < hi)).length ≤ min n hi - lo := by
    intro n
    induction n with
    | zero => simp
    | succ n ih =>
      rw [List.range_succ, List.filter_append, List.length_append]
      by_cases h : lo ≤ n ∧ n < hi
      · rw [List.filter_cons_of_pos (by simp [h])]
        simp only [List.filter_nil, List.length_cons, List.length_nil]
        omega
      · rw [List.filter_cons_of_neg (by simpa using h)]
        simp only [List.filter_nil, List.length_nil]
        omega
  have := this n
  omega
/-- A burst has at most half of the check elements in each word. -/
theorem burst_word {k s b : Nat} (hk : k < C) (hb : b ≤ burst D C K) (n : Nat) : ((List.range n).filter fun e => decide (s ≤ sidx D C k e) && decide (sidx D C k e < s + b)).length ≤ K / 2 := by
  have h1 := burst_few (D := D) (K := K) (s := s) hk hb
  have h2 := filter_between (ecnt D C k s) (ecnt D C k (s + b)) n
  have h3 : ((List.range n).filter fun e => decide (s ≤ sidx D C k e) && decide (sidx D C k e < s + b)) = ((List.range n).filter fun e => decide (ecnt D C k s ≤ e) && decide (e < ecnt D C k (s + b))) := by
    refine List.filter_congr fun e _ => ?_
    have a := ecnt_iff (D := D) hk s e
    have b := ecnt_iff (D := D) hk (s + b) e
    congr 1
    · rw [decide_eq_decide]; omega
    · rw [decide_eq_decide]; exact b.symm
  rw [h3]
  omega

/-- A sum over the elements of a block, in the order of the stream. -/
def sumB (D C k : Nat) (f : Nat → Nat) : Nat → Nat
  | 0 => 0
  | i + 1 => sumB D C k f i + (if (pairOf D C i).1 = k then f i else 0)
def sumF (f : Nat → Nat) : Nat → Nat
  | 0 => 0
  | n + 1 => sumF f n + f n
theorem sumB_is {k : Nat} (hC : 0 < C) (hk : k < C) (f : Nat → Nat) : ∀ i, sumB D C k f i = sumF (fun e => f (sidx D C k e)) (ecnt D C k i)
  | 0 => rfl
  | i + 1 => by
    show sumB D C k f i + _ = _
    rw [sumB_is hC hk f i]
    by_cases hb : (pairOf D C i).1 = k
    · have hp := sidx_pair (D := D) hC i
      rw [hb] at hp
      rw [if_pos hb, ecnt_yes hb]
      show _ = _ + f (sidx D C k (ecnt D C k i))
      rw [ecnt_at hC hb, hp]
    · rw [if_neg hb, ecnt_no hb]; rfl
end
end Go.Proofs.YtncgeoliboidhaaGreat
