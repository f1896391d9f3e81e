/-
  Plain mathematics of the best segmentation: what the whole table says; the segments one by one; nothing is shorter.
  No condition.
-/
import Derived.Test.YtdccofbfdlebgaaDp1
namespace Go.Proofs.Ytdccofbfdlebgaa

theorem fsiz_congr {t t' : Nat → Cel} {m i : Nat} (h : ∀ k, i < k → t k = t' k) (a : Cel) : ∀ k, fsiz t m i k a = fsiz t' m i k a := by
  intro k
  induction k with
  | zero => rfl
  | succ k ih => rw [fsiz, fsiz, ih]; unfold cnd; rw [h _ (by omega)]
theorem fmd_congr {t t' : Nat → Cel} {bs : List Int} {i : Nat} (h : ∀ k, i < k → t k = t' k) : ∀ q, fmd t bs i q = fmd t' bs i q := by
  intro q
  induction q with
  | zero => rfl
  | succ q ih => rw [fmd, fmd, ih, fsiz_congr h]
/-- The whole table. -/
def tabT (bs : List Int) : Nat → Cel := tabN bs bs.length
theorem tabN_late (bs : List Int) {i : Nat} : ∀ d j, bs.length ≤ i + j → tabN bs (j + d) i = tabN bs j i := by
  intro d
  induction d with
  | zero => intro j _; rfl
  | succ d ih => intro j h; rw [← Nat.add_assoc, tabN, if_neg (by omega)]; exact ih j h
theorem tabT_eq {bs : List Int} {i : Nat} (h : i < bs.length) : tabT bs i = fmd (tabT bs) bs i 4 := by
  obtain ⟨j, hj⟩ : ∃ j, i + j + 1 = bs.length := ⟨bs.length - i - 1, by omega⟩
  have h1 : tabT bs i = tabN bs (j + 1) i := by
    unfold tabT
    have := tabN_late bs (i := i) (bs.length - (j + 1)) (j + 1) (by omega)
    rw [show j + 1 + (bs.length - (j + 1)) = bs.length by omega] at this
    exact this
  rw [h1, tabN, if_pos hj]
  refine fmd_congr (fun k hk => ?_) 4
  unfold tabT
  by_cases hkn : bs.length ≤ k
  · rw [tabN_zero (.inr hkn), tabN_zero (.inr hkn)]
  · have := tabN_late bs (i := k) (bs.length - j) j (by omega)
    rw [show j + (bs.length - j) = bs.length by omega] at this
    exact this.symm
theorem tabT_end {bs : List Int} {i : Nat} (h : bs.length ≤ i) : tabT bs i = zc := tabN_zero (.inr h)

/-- A cell says what a first segment and the rest give. -/
def CstT (bs : List Int) (t : Nat → Cel) (i : Nat) (a : Cel) : Prop :=
  a.s = 0 ∨ (1 ≤ a.s ∧ a.s ≤ rch (a.m : Int) (bs.drop i) ∧ 1 ≤ a.m ∧ a.m ≤ 4 ∧ a.c = (t (i + a.s)).c + 1 ∧ a.l = slen (a.m : Int) a.s + (t (i + a.s)).l)
theorem cst_put {bs : List Int} {t : Nat → Cel} {i : Nat} {a x : Cel} (ha : CstT bs t i a) (hx : CstT bs t i x) : CstT bs t i (cput a x) := by
  unfold cput
  split
  · exact hx
  · split
    · exact hx
    · exact ha
theorem cst_fsiz {bs : List Int} {t : Nat → Cel} {m i : Nat} (hm : 1 ≤ m) (hm4 : m ≤ 4) {a : Cel} (ha : CstT bs t i a) : ∀ k, k ≤ rch (m : Int) (bs.drop i) → CstT bs t i (fsiz t m i k a) := by
  intro k
  induction k with
  | zero => intro _; exact ha
  | succ k ih => intro h; exact cst_put (ih (by omega)) (.inr ⟨by show 1 ≤ k + 1; omega, h, hm, hm4, rfl, rfl⟩)
theorem cst_fmd {bs : List Int} {t : Nat → Cel} {i : Nat} : ∀ q, q ≤ 4 → CstT bs t i (fmd t bs i q) := by
  intro q
  induction q with
  | zero => intro _; exact .inl rfl
  | succ q ih => intro h; exact cst_fsiz (by omega) h (ih (by omega)) _ (Nat.le_refl _)
theorem cst_tab {bs : List Int} {i : Nat} (h : i < bs.length) : CstT bs (tabT bs) i (tabT bs i) := by rw [tabT_eq h]; exact cst_fmd 4 (Nat.le_refl _)
/-- Something is found where a size is within reach. -/
theorem put_found {a x : Cel} (hx : x.s ≠ 0) : (cput a x).s ≠ 0 := by
  unfold cput
  split
  · exact hx
  · split
    · exact hx
    · assumption
theorem fsiz_found {t : Nat → Cel} {m i : Nat} {a : Cel} {k : Nat} (h : 1 ≤ k ∨ a.s ≠ 0) : (fsiz t m i k a).s ≠ 0 := by
  cases k with
  | zero => rcases h with h | h
            · omega
            · exact h
  | succ k => exact put_found (by show k + 1 ≠ 0; omega)
theorem rch_byte {bs : List Int} {i : Nat} (h : i < bs.length) (hb : ∀ x ∈ bs, 0 ≤ x ∧ x ≤ 255) : 1 ≤ rch 4 (bs.drop i) := by
  have h1 := rch_iff 4 (bs.drop i) 1 (by omega) (by rw [List.length_drop]; omega)
  refine h1.2 fun j x hj hx => ?_
  have := hb x (List.mem_of_mem_drop (List.mem_of_getElem? hx))
  rw [cval_byte this.1 this.2]; exact this.1
theorem tab_found {bs : List Int} {i : Nat} (h : i < bs.length) (hb : ∀ x ∈ bs, 0 ≤ x ∧ x ≤ 255) : (tabT bs i).s ≠ 0 := by
  rw [tabT_eq h, fmd]
  exact fsiz_found (.inl (rch_byte h hb))
/-- What a cell of the table says. -/
theorem tab_says {bs : List Int} {i : Nat} (h : i < bs.length) (hb : ∀ x ∈ bs, 0 ≤ x ∧ x ≤ 255) :
    1 ≤ (tabT bs i).s ∧ (tabT bs i).s ≤ 255 ∧ i + (tabT bs i).s ≤ bs.length ∧ (tabT bs i).s ≤ rch ((tabT bs i).m : Int) (bs.drop i) ∧ 1 ≤ (tabT bs i).m ∧ (tabT bs i).m ≤ 4 ∧ (tabT bs i).c = (tabT bs (i + (tabT bs i).s)).c + 1 ∧ (tabT bs i).l = slen ((tabT bs i).m : Int) (tabT bs i).s + (tabT bs (i + (tabT bs i).s)).l := by
  rcases cst_tab h with h0 | ⟨h1, h2, h3, h4, h5, h6⟩
  · exact absurd h0 (tab_found h hb)
  · have := rch_le ((tabT bs i).m : Int) (bs.drop i)
    rw [List.length_drop] at this
    exact ⟨h1, by omega, by omega, h2, h3, h4, h5, h6⟩

/-- Where the k-th segment begins. -/
def pos (t : Nat → Cel) : Nat → Nat
  | 0 => 0
  | k + 1 => pos t k + (t (pos t k)).s
theorem pos_le {bs : List Int} (hb : ∀ x ∈ bs, 0 ≤ x ∧ x ≤ 255) : ∀ k, pos (tabT bs) k ≤ bs.length ∧ (pos (tabT bs) k < bs.length → (tabT bs (pos (tabT bs) k)).c + k = (tabT bs 0).c) ∧ (k ≤ (tabT bs 0).c → (tabT bs (pos (tabT bs) k)).c + k = (tabT bs 0).c) := by
  intro k
  induction k with
  | zero => exact ⟨Nat.zero_le _, fun _ => rfl, fun _ => rfl⟩
  | succ k ih =>
    obtain ⟨h1, h2, h3⟩ := ih
    rw [pos]
    by_cases hlt : pos (tabT bs) k < bs.length
    · obtain ⟨a1, a2, a3, a4, a5, a6, a7, a8⟩ := tab_says hlt hb
      have h4 := h2 hlt
      exact ⟨a3, fun _ => by omega, fun _ => by omega⟩
    · have hz : tabT bs (pos (tabT bs) k) = zc := tabT_end (by omega)
      rw [hz]
      refine ⟨h1, fun h => ?_, fun h => ?_⟩
      · exact absurd h (by show ¬ pos (tabT bs) k + 0 < bs.length; omega)
      · have h5 := h3 (by omega)
        rw [hz] at h5
        have h6 : zc.c = 0 := rfl
        omega
/-- The k-th segment lies within the message exactly while there are segments left. -/
theorem pos_lt {bs : List Int} (hb : ∀ x ∈ bs, 0 ≤ x ∧ x ≤ 255) {k : Nat} (hk : k ≤ (tabT bs 0).c) : pos (tabT bs) k < bs.length ↔ k < (tabT bs 0).c := by
  obtain ⟨h1, h2, h3⟩ := pos_le hb k
  have h4 := h3 hk
  constructor
  · intro h
    obtain ⟨a1, a2, a3, a4, a5, a6, a7, a8⟩ := tab_says h hb
    omega
  · intro h
    rcases Nat.lt_or_ge (pos (tabT bs) k) bs.length with h5 | h5
    · exact h5
    · have hz : tabT bs (pos (tabT bs) k) = zc := tabT_end h5
      rw [hz] at h4
      have h6 : zc.c = 0 := rfl
      omega
theorem tab_c {bs : List Int} : (tabT bs 0).c ≤ bs.length := by have := (ok_tab bs bs.length 0).1; rw [Nat.sub_zero] at this; exact this

/-- No candidate is shorter than the cell. -/
theorem put_le (a x : Cel) : (cput a x).l ≤ x.l ∧ (a.s ≠ 0 → (cput a x).l ≤ a.l) := by
  unfold cput
  by_cases h0 : a.s = 0
  · rw [if_pos h0]; exact ⟨Nat.le_refl _, fun h => absurd h0 h⟩
  · rw [if_neg h0]
    by_cases hb : btr x a = true
    · rw [if_pos hb]
      refine ⟨Nat.le_refl _, fun _ => ?_⟩
      unfold btr at hb
      split at hb
      · omega
      · simp at hb; omega
    · rw [if_neg hb]
      refine ⟨?_, fun _ => Nat.le_refl _⟩
      unfold btr at hb
      split at hb
      · omega
      · simp at hb; omega
theorem fsiz_le {t : Nat → Cel} {m i : Nat} {a : Cel} : ∀ k, (∀ j, 1 ≤ j → j ≤ k → (fsiz t m i k a).l ≤ (cnd t m i j).l) ∧ (a.s ≠ 0 → (fsiz t m i k a).l ≤ a.l) := by
  intro k
  induction k with
  | zero => exact ⟨fun j h1 h2 => by omega, fun _ => Nat.le_refl _⟩
  | succ k ih =>
    obtain ⟨h1, h2⟩ := ih
    obtain ⟨p1, p2⟩ := put_le (fsiz t m i k a) (cnd t m i (k + 1))
    refine ⟨fun j hj1 hj2 => ?_, fun ha => ?_⟩
    · by_cases e : j = k + 1
      · subst e; exact p1
      · have hf : (fsiz t m i k a).s ≠ 0 := fsiz_found (.inl (by omega))
        exact Nat.le_trans (p2 hf) (h1 j hj1 (by omega))
    · exact Nat.le_trans (p2 (fsiz_found (.inr ha))) (h2 ha)
theorem fmd_le {t : Nat → Cel} {bs : List Int} {i : Nat} : ∀ q m k : Nat, 1 ≤ m → m ≤ q → 1 ≤ k → k ≤ rch (m : Int) (bs.drop i) → (fmd t bs i q).s ≠ 0 ∧ (fmd t bs i q).l ≤ (cnd t m i k).l := by
  intro q
  induction q with
  | zero => intro m k h1 h2; omega
  | succ q ih =>
    intro m k h1 h2 h3 h4
    rw [fmd]
    by_cases e : m = q + 1
    · subst e
      exact ⟨fsiz_found (.inl (by omega)), (fsiz_le _).1 k h3 h4⟩
    · obtain ⟨g1, g2⟩ := ih m k h1 (by omega) h3 h4
      exact ⟨fsiz_found (.inr g1), Nat.le_trans ((fsiz_le _).2 g1) g2⟩
theorem tab_min {bs : List Int} {i m k : Nat} (h1 : 1 ≤ m) (h2 : m ≤ 4) (h3 : 1 ≤ k) (h4 : k ≤ rch (m : Int) (bs.drop i)) : (tabT bs i).l ≤ slen (m : Int) k + (tabT bs (i + k)).l := by
  have hi : i < bs.length := by
    have := (rch_le (m : Int) (bs.drop i)).1
    rw [List.length_drop] at this; omega
  rw [tabT_eq hi]
  exact (fmd_le (t := tabT bs) (bs := bs) (i := i) 4 m k h1 h2 h3 h4).2
end Go.Proofs.Ytdccofbfdlebgaa
