/-
  Plain mathematics of segments: the values of bytes in the modes, the widths of groups, the bits of a text and the text of bits.
  No condition.
-/
import Derived.Test.YthbmfaogjaahoaaBitsMath
namespace Go.Proofs.Ythbmfaogjaahoaa

/-- The characters of the modes but the last. -/
def digL : List Int := [48, 49, 50, 51, 52, 53, 54, 55, 56, 57]
def letL : List Int := [48, 49, 50, 51, 52, 53, 54, 55, 56, 57, 65, 66, 67, 68, 69, 70, 71, 72, 73, 74, 75, 76, 77, 78, 79, 80, 81, 82, 83, 84, 85, 86, 87, 88, 89, 90, 32, 33, 35, 38, 40, 41, 43, 45, 47]
def lowL : List Int := [97, 98, 99, 100, 101, 102, 103, 104, 105, 106, 107, 108, 109, 110, 111, 112, 113, 114, 115, 116, 117, 118, 119, 120, 121, 122, 32, 10, 44, 46, 39, 63]
def chL (m : Int) : List Int := if m = 1 then digL else if m = 2 then letL else if m = 3 then lowL else []

/-- The first index of a number in a list, from an index on. -/
def posOf : List Int → Int → Nat → Int
  | [], _, _ => -1
  | x :: l, b, i => if x = b then (i : Int) else posOf l b (i + 1)
theorem pos_step {l : List Int} {b x : Int} {i : Nat} (h : l[i]? = some x) : posOf (l.drop i) b i = if x = b then (i : Int) else posOf (l.drop (i + 1)) b (i + 1) := by
  obtain ⟨hi, hx⟩ := List.getElem?_eq_some_iff.1 h
  rw [List.drop_eq_getElem_cons hi, hx]; rfl
theorem pos_end {l : List Int} {b : Int} {i : Nat} (h : l.length ≤ i) : posOf (l.drop i) b i = -1 := by
  rw [List.drop_eq_nil_of_le h]; rfl
theorem pos_none {b : Int} : ∀ (l : List Int) (i : Nat), (∀ x ∈ l, x ≠ b) → posOf l b i = -1 := by
  intro l
  induction l with
  | nil => intro i _; rfl
  | cons y l ih =>
    intro i h
    rw [posOf, if_neg (h y (by simp))]
    exact ih _ (fun x hx => h x (by simp [hx]))
theorem pos_cases {b : Int} : ∀ (l : List Int) (i : Nat), posOf l b i = -1 ∨ ∃ k : Nat, posOf l b i = ((i + k : Nat) : Int) ∧ l[k]? = some b := by
  intro l
  induction l with
  | nil => intro i; exact .inl rfl
  | cons y l ih =>
    intro i
    rw [posOf]
    by_cases h : y = b
    · rw [if_pos h]; exact .inr ⟨0, rfl, by simp [h]⟩
    · rw [if_neg h]
      rcases ih (i + 1) with h1 | ⟨k, h1, h2⟩
      · exact .inl h1
      · exact .inr ⟨k + 1, by rw [h1]; omega, by simpa using h2⟩

/-- The value of a byte in a mode. -/
def cval (m b : Int) : Int := if inR b 0 255 && inR m 1 4 then (if m = 4 then b else posOf (chL m) b 0) else -1
theorem ch_lt : ∀ m : Int, ∀ x ∈ chL m, 0 ≤ x ∧ x ≤ 127 := by
  intro m x hx
  unfold chL at hx
  have h1 : ∀ x ∈ digL, 0 ≤ x ∧ x ≤ 127 := by decide
  have h2 : ∀ x ∈ letL, 0 ≤ x ∧ x ≤ 127 := by decide
  have h3 : ∀ x ∈ lowL, 0 ≤ x ∧ x ≤ 127 := by decide
  split at hx
  · exact h1 x hx
  · split at hx
    · exact h2 x hx
    · split at hx
      · exact h3 x hx
      · cases hx
theorem cval_pos {m b : Int} (hm : m = 1 ∨ m = 2 ∨ m = 3) : cval m b = posOf (chL m) b 0 := by
  unfold cval
  have h4 : m ≠ 4 := by omega
  by_cases hb : inR b 0 255 = true
  · have h1 : inR m 1 4 = true := inR_yes (by omega) (by omega)
    rw [hb, h1]; simp only [Bool.and_self, if_true, if_neg h4]
  · have : inR b 0 255 = false := by simpa using hb
    rw [this, if_neg (by simp)]
    refine (pos_none _ _ ?_).symm
    rintro x hx rfl
    have := ch_lt m x hx
    exact hb (inR_yes (by omega) (by omega))
theorem cval_byte {b : Int} (h0 : 0 ≤ b) (h1 : b ≤ 255) : cval 4 b = b := by
  unfold cval; rw [inR_yes h0 h1, inR_yes (by decide) (by decide)]; rfl
theorem cval_out {b : Int} (h : b < 0 ∨ 255 < b) (m : Int) : cval m b = -1 := by
  unfold cval; rw [inR_no h]; rfl
theorem cval_mode {m : Int} (h : m < 1 ∨ 4 < m) (b : Int) : cval m b = -1 := by
  unfold cval; rw [inR_no (x := m) h, Bool.and_false]; rfl
/-- How many characters a mode has. -/
def gbase (m : Int) : Nat := if m = 1 then 10 else if m = 2 then 45 else if m = 3 then 32 else 256
def gsz (m : Int) : Nat := if m = 1 then 3 else if m = 2 then 2 else 1
theorem gsz_pos (m : Int) : 1 ≤ gsz m := by unfold gsz; split <;> (try split) <;> omega
theorem gsz_le (m : Int) : gsz m ≤ 3 := by unfold gsz; split <;> (try split) <;> omega
theorem ch_len {m : Int} (hm : m = 1 ∨ m = 2 ∨ m = 3) : (chL m).length = gbase m := by rcases hm with rfl | rfl | rfl <;> decide
theorem cval_cases (m b : Int) : cval m b = -1 ∨ (0 ≤ cval m b ∧ cval m b < (gbase m : Nat) ∧ 0 ≤ b ∧ b ≤ 255 ∧ 1 ≤ m ∧ m ≤ 4) := by
  by_cases h : b < 0 ∨ 255 < b
  · exact .inl (cval_out h m)
  · by_cases hm : m < 1 ∨ 4 < m
    · exact .inl (cval_mode hm b)
    · by_cases h4 : m = 4
      · subst h4
        rw [cval_byte (by omega) (by omega)]
        exact .inr ⟨by omega, by show b < ((256 : Nat) : Int); omega, by omega, by omega, by omega, by omega⟩
      · have hm3 : m = 1 ∨ m = 2 ∨ m = 3 := by omega
        rw [cval_pos hm3]
        rcases pos_cases (b := b) (chL m) 0 with h1 | ⟨k, h1, h2⟩
        · exact .inl h1
        · have := (List.getElem?_eq_some_iff.1 h2).1
          rw [ch_len hm3] at this
          exact .inr ⟨by rw [h1]; omega, by rw [h1]; omega, by omega, by omega, by omega, by omega⟩
/-- The character with a value. -/
def chr (m : Int) (v : Int) : Int := if m = 4 then v else (chL m).getD v.toNat 0
theorem chr_cval {m b : Int} (h : 0 ≤ cval m b) : chr m (cval m b) = b := by
  rcases cval_cases m b with h1 | ⟨_, _, h0, h2, h3, h4⟩
  · omega
  · by_cases hm : m = 4
    · subst hm; rw [cval_byte h0 h2]; rfl
    · have hm3 : m = 1 ∨ m = 2 ∨ m = 3 := by omega
      rw [cval_pos hm3] at h ⊢
      rcases pos_cases (b := b) (chL m) 0 with h1 | ⟨k, h1, h2⟩
      · omega
      · rw [h1, chr, if_neg hm, List.getD_eq_getElem?_getD, show ((0 + k : Nat) : Int).toNat = k by omega, h2]; rfl
theorem cval_chr {m : Int} (hm : 1 ≤ m ∧ m ≤ 4) {v : Nat} (h : v < gbase m) : cval m (chr m (v : Int)) = (v : Int) := by
  have hh : m = 1 ∨ m = 2 ∨ m = 3 ∨ m = 4 := by omega
  have k1 : ∀ v : Fin 10, cval 1 (chr 1 ((v.val : Nat) : Int)) = ((v.val : Nat) : Int) := by decide
  have k2 : ∀ v : Fin 45, cval 2 (chr 2 ((v.val : Nat) : Int)) = ((v.val : Nat) : Int) := by decide
  have k3 : ∀ v : Fin 32, cval 3 (chr 3 ((v.val : Nat) : Int)) = ((v.val : Nat) : Int) := by decide
  rcases hh with rfl | rfl | rfl | rfl
  · exact k1 ⟨v, h⟩
  · exact k2 ⟨v, h⟩
  · exact k3 ⟨v, h⟩
  · have h' : v < 256 := h
    show cval 4 (v : Int) = v
    rw [cval_byte (by omega) (by omega)]
theorem chr_byte {m : Int} (hm : 1 ≤ m ∧ m ≤ 4) {v : Nat} (h : v < gbase m) : 0 ≤ chr m (v : Int) ∧ chr m (v : Int) ≤ 255 := by
  have hc := cval_chr hm h
  rcases cval_cases m (chr m (v : Int)) with h1 | ⟨_, _, h0, h2, _, _⟩
  · omega
  · exact ⟨h0, h2⟩

/-- Whether all bytes have a value. -/
def allV (m : Int) (bs : List Int) : Bool := bs.all (fun b => decide (0 ≤ cval m b))
/-- Whether a segment is valid. -/
def segB (m : Int) (bs : List Int) : Bool := inR m 1 4 && inR (bs.length : Int) 1 255 && allV m bs
theorem all_no {m : Int} {bs : List Int} {k : Nat} {b : Int} (hx : bs[k]? = some b) (h : cval m b < 0) : allV m bs = false := by
  unfold allV; rw [List.all_eq_false]; exact ⟨b, List.mem_of_getElem? hx, by simp; omega⟩
theorem all_yes {m : Int} {bs : List Int} {n : Nat} (hl : bs.length = n) (h : (bs.take n).all (fun b => decide (0 ≤ cval m b)) = true) : allV m bs = true := by
  rw [List.take_of_length_le (by omega)] at h; exact h
theorem all_at {m : Int} {bs : List Int} (h : allV m bs = true) {k : Nat} {b : Int} (hx : bs[k]? = some b) : 0 ≤ cval m b := by
  unfold allV at h; rw [List.all_eq_true] at h
  simpa using h b (List.mem_of_getElem? hx)

/-- The width of a group of so many bytes. -/
def wid (m : Int) (n : Nat) : Nat :=
  if n = 0 then 0 else if m = 1 then (if n = 1 then 4 else if n = 2 then 7 else 10) else if m = 2 then (if n = 1 then 6 else 11) else if m = 3 then 5 else 8
theorem wid_le (m : Int) (n : Nat) : wid m n ≤ 11 := by unfold wid; (repeat' split) <;> omega
/-- The number of bits of a text. -/
def twid (m : Int) (n : Nat) : Nat := n / gsz m * wid m (gsz m) + wid m (n % gsz m)
def slen (m : Int) (n : Nat) : Nat := 11 + twid m n
theorem twid_le {m : Int} {n : Nat} (hn : n ≤ 255) : twid m n ≤ 2816 := by
  unfold twid
  have h1 := wid_le m (gsz m)
  have h2 := wid_le m (n % gsz m)
  have h3 : n / gsz m ≤ n := Nat.div_le_self _ _
  have h4 : n / gsz m * wid m (gsz m) ≤ 255 * 11 := Nat.mul_le_mul (by omega) h1
  omega
/-- The number of different groups of so many characters. -/
def glim (m : Int) (c : Nat) : Nat := gbase m ^ c
end Go.Proofs.Ythbmfaogjaahoaa
