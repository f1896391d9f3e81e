/-
  Plain mathematics of segments: the values of bytes in the modes, the widths of groups, the bits of a text and the text of bits.
  Plain mathematics of segmentations: the bound that the narrowest mode of the whole message gives.
  Plain mathematics of the best segmentation: the table of best cells, filled from the back.
  Plain mathematics of the best segmentation: what the whole table says; the segments one by one; nothing is shorter.
  The bits of elements, of the model and of the program.
  The table of best cells in memory: a block of cells, four numbers each.
  Which of two cells is better, on both sides.
  Condition: as each statement says.
-/
import Derived.Test.YtncgeoliboidhaaGreatVC
import Derived.Test.YtncgeoliboidhaaGreatPy1
import Derived.Test.YtncgeoliboidhaaGreatAppend
import Derived.Test.YtncgeoliboidhaaGreatDist
import Derived.Test.YtncgeoliboidhaaGreatProg
import Derived.Test.YtncgeoliboidhaaGreatVA
import Derived.Deep.WholeRow
import Derived.Deep.RegionHeld3
namespace Go.Proofs.YtncgeoliboidhaaGreat

/-- The characters of the modes but the last. -/
def digL : List Int := [48, 49, 50, 51, 52, 53, 54, 55, 56, 57]
def letL : List Int := [48, 49, 50, 51, 52, 53, 54, 55, 56, 57, 65, 66, 67, 68, 69, 70, 71, 72, 73, 74, 75, 76, 77, 78, 79, 80, 81, 82, 83, 84, 85, 86, 87, 88, 89, 90, 32, 33, 35, 38, 40, 41, 43, 45, 47]
def lowL : List Int := [97, 98, 99, 100, 101, 102, 103, 104, 105, 106, 107, 108, 109, 110, 111, 112, 113, 114, 115, 116, 117, 118, 119, 120, 121, 122, 32, 10, 44, 46, 39, 63]
def chL (m : Int) : List Int := if m = 1 then digL else if m = 2 then letL else if m = 3 then lowL else []

/-- The first index of a number in a list, from an index on. -/
def posOf : List Int → Int → Nat → Int
  | [], _, _ => -1
  | x :: l, b, i => if x = b then (i : Int) else posOf l b (i + 1)
theorem pos_step {l : List Int} {b x : Int} {i : Nat} (h : l[i]? = some x) : posOf (l.drop i) b i = if x = b then (i : Int) else posOf (l.drop (i + 1)) b (i + 1) := by
  obtain ⟨hi, hx⟩ := List.getElem?_eq_some_iff.1 h
  rw [List.drop_eq_getElem_cons hi, hx]; rfl
theorem pos_end {l : List Int} {b : Int} {i : Nat} (h : l.length ≤ i) : posOf (l.drop i) b i = -1 := by
  rw [List.drop_eq_nil_of_le h]; rfl
theorem pos_none {b : Int} : ∀ (l : List Int) (i : Nat), (∀ x ∈ l, x ≠ b) → posOf l b i = -1 := by
  intro l
  induction l with
  | nil => intro i _; rfl
  | cons y l ih =>
    intro i h
    rw [posOf, if_neg (h y (by simp))]
    exact ih _ (fun x hx => h x (by simp [hx]))
theorem pos_cases {b : Int} : ∀ (l : List Int) (i : Nat), posOf l b i = -1 ∨ ∃ k : Nat, posOf l b i = ((i + k : Nat) : Int) ∧ l[k]? = some b := by
  intro l
  induction l with
  | nil => intro i; exact .inl rfl
  | cons y l ih =>
    intro i
    rw [posOf]
    by_cases h : y = b
    · rw [if_pos h]; exact .inr ⟨0, rfl, by simp [h]⟩
    · rw [if_neg h]
      rcases ih (i + 1) with h1 | ⟨k, h1, h2⟩
      · exact .inl h1
      · exact .inr ⟨k + 1, by rw [h1]; omega, by simpa using h2⟩

/-- The value of a byte in a mode. -/
def cval (m b : Int) : Int := if inR b 0 255 && inR m 1 4 then (if m = 4 then b else posOf (chL m) b 0) else -1
theorem ch_lt : ∀ m : Int, ∀ x ∈ chL m, 0 ≤ x ∧ x ≤ 127 := by
  intro m x hx
  unfold chL at hx
  have h1 : ∀ x ∈ digL, 0 ≤ x ∧ x ≤ 127 := by decide
  have h2 : ∀ x ∈ letL, 0 ≤ x ∧ x ≤ 127 := by decide
  have h3 : ∀ x ∈ lowL, 0 ≤ x ∧ x ≤ 127 := by decide
  split at hx
  · exact h1 x hx
  · split at hx
    · exact h2 x hx
    · split at hx
      · exact h3 x hx
      · cases hx
theorem cval_pos {m b : Int} (hm : m = 1 ∨ m = 2 ∨ m = 3) : cval m b = posOf (chL m) b 0 := by
  unfold cval
  have h4 : m ≠ 4 := by omega
  by_cases hb : inR b 0 255 = true
  · have h1 : inR m 1 4 = true := inR_yes (by omega) (by omega)
    rw [hb, h1]; simp only [Bool.and_self, if_true, if_neg h4]
  · have : inR b 0 255 = false := by simpa using hb
    rw [this, if_neg (by simp)]
    refine (pos_none _ _ ?_).symm
    rintro x hx rfl
    have := ch_lt m x hx
    exact hb (inR_yes (by omega) (by omega))
theorem cval_byte {b : Int} (h0 : 0 ≤ b) (h1 : b ≤ 255) : cval 4 b = b := by
  unfold cval; rw [inR_yes h0 h1, inR_yes (by decide) (by decide)]; rfl
theorem cval_out {b : Int} (h : b < 0 ∨ 255 < b) (m : Int) : cval m b = -1 := by
  unfold cval; rw [inR_no h]; rfl
theorem cval_mode {m : Int} (h : m < 1 ∨ 4 < m) (b : Int) : cval m b = -1 := by
  unfold cval; rw [inR_no (x := m) h, Bool.and_false]; rfl
/-- How many characters a mode has. -/
def gbase (m : Int) : Nat := if m = 1 then 10 else if m = 2 then 45 else if m = 3 then 32 else 256
def gsz (m : Int) : Nat := if m = 1 then 3 else if m = 2 then 2 else 1
theorem gsz_pos (m : Int) : 1 ≤ gsz m := by unfold gsz; split <;> (try split) <;> omega
theorem gsz_le (m : Int) : gsz m ≤ 3 := by unfold gsz; split <;> (try split) <;> omega
theorem ch_len {m : Int} (hm : m = 1 ∨ m = 2 ∨ m = 3) : (chL m).length = gbase m := by rcases hm with rfl | rfl | rfl <;> decide
theorem cval_cases (m b : Int) : cval m b = -1 ∨ (0 ≤ cval m b ∧ cval m b < (gbase m : Nat) ∧ 0 ≤ b ∧ b ≤ 255 ∧ 1 ≤ m ∧ m ≤ 4) := by
  by_cases h : b < 0 ∨ 255 < b
  · exact .inl (cval_out h m)
  · by_cases hm : m < 1 ∨ 4 < m
    · exact .inl (cval_mode hm b)
    · by_cases h4 : m = 4
      · subst h4
        rw [cval_byte (by omega) (by omega)]
        exact .inr ⟨by omega, by show b < ((256 : Nat) : Int); omega, by omega, by omega, by omega, by omega⟩
      · have hm3 : m = 1 ∨ m = 2 ∨ m = 3 := by omega
        rw [cval_pos hm3]
        rcases pos_cases (b := b) (chL m) 0 with h1 | ⟨k, h1, h2⟩
        · exact .inl h1
        · have := (List.getElem?_eq_some_iff.1 h2).1
          rw [ch_len hm3] at this
          exact .inr ⟨by rw [h1]; omega, by rw [h1]; omega, by omega, by omega, by omega, by omega⟩
/-- The character with a value. -/
def chr (m : Int) (v : Int) : Int := if m = 4 then v else (chL m).getD v.toNat 0
theorem chr_cval {m b : Int} (h : 0 ≤ cval m b) : chr m (cval m b) = b := by
  rcases cval_cases m b with h1 | ⟨_, _, h0, h2, h3, h4⟩
  · omega
  · by_cases hm : m = 4
    · subst hm; rw [cval_byte h0 h2]; rfl
    · have hm3 : m = 1 ∨ m = 2 ∨ m = 3 := by omega
      rw [cval_pos hm3] at h ⊢
      rcases pos_cases (b := b) (chL m) 0 with h1 | ⟨k, h1, h2⟩
      · omega
      · rw [h1, chr, if_neg hm, List.getD_eq_getElem?_getD, show ((0 + k : Nat) : Int).toNat = k by omega, h2]; rfl
theorem cval_chr {m : Int} (hm : 1 ≤ m ∧ m ≤ 4) {v : Nat} (h : v < gbase m) : cval m (chr m (v : Int)) = (v : Int) := by
  have hh : m = 1 ∨ m = 2 ∨ m = 3 ∨ m = 4 := by omega
  have k1 : ∀ v : Fin 10, cval 1 (chr 1 ((v.val : Nat) : Int)) = ((v.val : Nat) : Int) := by decide
  have k2 : ∀ v : Fin 45, cval 2 (chr 2 ((v.val : Nat) : Int)) = ((v.val : Nat) : Int) := by decide
  have k3 : ∀ v : Fin 32, cval 3 (chr 3 ((v.val : Nat) : Int)) = ((v.val : Nat) : Int) := by decide
  rcases hh with rfl | rfl | rfl | rfl
  · exact k1 ⟨v, h⟩
  · exact k2 ⟨v, h⟩
  · exact k3 ⟨v, h⟩
  · have h' : v < 256 := h
    show cval 4 (v : Int) = v
    rw [cval_byte (by omega) (by omega)]
theorem chr_byte {m : Int} (hm : 1 ≤ m ∧ m ≤ 4) {v : Nat} (h : v < gbase m) : 0 ≤ chr m (v : Int) ∧ chr m (v : Int) ≤ 255 := by
  have hc := cval_chr hm h
  rcases cval_cases m (chr m (v : Int)) with h1 | ⟨_, _, h0, h2, _, _⟩
  · omega
  · exact ⟨h0, h2⟩

/-- Whether all bytes have a value. -/
def allV (m : Int) (bs : List Int) : Bool := bs.all (fun b => decide (0 ≤ cval m b))
/-- Whether a segment is valid. -/
def segB (m : Int) (bs : List Int) : Bool := inR m 1 4 && inR (bs.length : Int) 1 255 && allV m bs
theorem all_no {m : Int} {bs : List Int} {k : Nat} {b : Int} (hx : bs[k]? = some b) (h : cval m b < 0) : allV m bs = false := by
  unfold allV; rw [List.all_eq_false]; exact ⟨b, List.mem_of_getElem? hx, by simp; omega⟩
theorem all_yes {m : Int} {bs : List Int} {n : Nat} (hl : bs.length = n) (h : (bs.take n).all (fun b => decide (0 ≤ cval m b)) = true) : allV m bs = true := by
  rw [List.take_of_length_le (by omega)] at h; exact h
theorem all_at {m : Int} {bs : List Int} (h : allV m bs = true) {k : Nat} {b : Int} (hx : bs[k]? = some b) : 0 ≤ cval m b := by
  unfold allV at h; rw [List.all_eq_true] at h
  simpa using h b (List.mem_of_getElem? hx)

/-- The width of a group of so many bytes. -/
def wid (m : Int) (n : Nat) : Nat :=
  if n = 0 then 0 else if m = 1 then (if n = 1 then 4 else if n = 2 then 7 else 10) else if m = 2 then (if n = 1 then 6 else 11) else if m = 3 then 5 else 8
theorem wid_le (m : Int) (n : Nat) : wid m n ≤ 11 := by unfold wid; (repeat' split) <;> omega
/-- The number of bits of a text. -/
def twid (m : Int) (n : Nat) : Nat := n / gsz m * wid m (gsz m) + wid m (n % gsz m)
def slen (m : Int) (n : Nat) : Nat := 11 + twid m n
theorem twid_le {m : Int} {n : Nat} (hn : n ≤ 255) : twid m n ≤ 2816 := by
  unfold twid
  have h1 := wid_le m (gsz m)
  have h2 := wid_le m (n % gsz m)
  have h3 : n / gsz m ≤ n := Nat.div_le_self _ _
  have h4 : n / gsz m * wid m (gsz m) ≤ 255 * 11 := Nat.mul_le_mul (by omega) h1
  omega
/-- The number of different groups of so many characters. -/
def glim (m : Int) (c : Nat) : Nat := gbase m ^ c
end Go.Proofs.YtncgeoliboidhaaGreat

namespace Go.Proofs.YtncgeoliboidhaaGreat

/-- The length of n bytes in segments of 255 bytes at most, all but the last one of 255. -/
def lbd (m : Int) (n : Nat) : Nat := if n = 0 then 0 else if n ≤ 255 then slen m n else slen m 255 + slen m (n - 255)
theorem lbd_zero (m : Int) : lbd m 0 = 0 := rfl
theorem lbd_step {m : Int} {n : Nat} (h0 : 0 < n) (h : n ≤ 510) : lbd m n = slen m (min n 255) + lbd m (n - min n 255) := by
  by_cases h1 : n ≤ 255
  · rw [show min n 255 = n by omega, Nat.sub_self, lbd_zero, lbd, if_neg (by omega), if_pos h1]; rfl
  · rw [show min n 255 = 255 by omega, lbd, if_neg (by omega), if_neg h1]
    conv => rhs; rw [lbd, if_neg (show ¬ n - 255 = 0 by omega), if_pos (by omega)]
theorem slen_le {m : Int} {n : Nat} (h : n ≤ 255) : slen m n ≤ 2827 := by have := twid_le (m := m) h; unfold slen; omega
theorem lbd_le {m : Int} {n : Nat} (h : n ≤ 510) : lbd m n ≤ 5654 := by
  unfold lbd
  split
  · omega
  · split
    · have := slen_le (m := m) (n := n) (by omega); omega
    · have := slen_le (m := m) (n := 255) (by omega); have := slen_le (m := m) (n := n - 255) (by omega); omega
end Go.Proofs.YtncgeoliboidhaaGreat

namespace Go.Proofs.YtncgeoliboidhaaGreat

/-- What is known of the best segmentation from an index on: its length, its number of segments, the size and the mode of its first segment. -/
structure Cel where
  l : Nat
  c : Nat
  s : Nat
  m : Nat
def zc : Cel := ⟨0, 0, 0, 0⟩
theorem Cel.ext' {a b : Cel} (h1 : a.l = b.l) (h2 : a.c = b.c) (h3 : a.s = b.s) (h4 : a.m = b.m) : a = b := by cases a; cases b; simp_all
/-- Whether a cell is better than another one. -/
def btr (a b : Cel) : Bool := if a.l = b.l then (if a.c = b.c then (if a.s = b.s then decide (a.m < b.m) else decide (b.s < a.s)) else decide (a.c < b.c)) else decide (a.l < b.l)
/-- The better one of what was found and another cell; nothing was found where the size is 0. -/
def cput (a x : Cel) : Cel := if a.s = 0 then x else if btr x a then x else a
def cnd (t : Nat → Cel) (m i k : Nat) : Cel := ⟨slen m k + (t (i + k)).l, (t (i + k)).c + 1, k, m⟩
/-- All sizes up to k of one mode. -/
def fsiz (t : Nat → Cel) (m i : Nat) : Nat → Cel → Cel
  | 0, a => a
  | k + 1, a => cput (fsiz t m i k a) (cnd t m i (k + 1))
/-- How many bytes from the beginning on have a value in a mode, 255 at most. -/
def rch (m : Int) : List Int → Nat
  | [] => 0
  | b :: l => if cval m b < 0 then 0 else min (rch m l + 1) 255
/-- All modes up to q. -/
def fmd (t : Nat → Cel) (bs : List Int) (i : Nat) : Nat → Cel
  | 0 => zc
  | q + 1 => fsiz t (q + 1) i (rch ((q + 1 : Nat) : Int) (bs.drop i)) (fmd t bs i q)
/-- The table behind j rounds. -/
def tabN (bs : List Int) : Nat → Nat → Cel
  | 0, _ => zc
  | j + 1, i => if i + j + 1 = bs.length then fmd (tabN bs j) bs i 4 else tabN bs j i
/-- A table with another cell at an index. -/
def upd (t : Nat → Cel) (i : Nat) (x : Cel) (k : Nat) : Cel := if k = i then x else t k
theorem upd_at (t : Nat → Cel) (i : Nat) (x : Cel) : upd t i x i = x := by simp [upd]
theorem upd_ne (t : Nat → Cel) {i k : Nat} (x : Cel) (h : k ≠ i) : upd t i x k = t k := by simp [upd, h]
theorem upd_upd (t : Nat → Cel) (i : Nat) (x y : Cel) : upd (upd t i x) i y = upd t i y := by funext k; unfold upd; split <;> rfl
theorem upd_self (t : Nat → Cel) (i : Nat) : upd t i (t i) = t := by funext k; unfold upd; split <;> simp_all

theorem rch_le (m : Int) : ∀ l : List Int, rch m l ≤ l.length ∧ rch m l ≤ 255 := by
  intro l
  induction l with
  | nil => exact ⟨Nat.le_refl _, by simp [rch]⟩
  | cons b l ih =>
    rw [rch]
    split
    · exact ⟨by omega, by omega⟩
    · exact ⟨by simp only [List.length_cons]; omega, by omega⟩
/-- A size is within reach if all its bytes have a value. -/
theorem rch_iff (m : Int) : ∀ (l : List Int) (k : Nat), k ≤ 255 → k ≤ l.length → (k ≤ rch m l ↔ ∀ j x, j < k → l[j]? = some x → 0 ≤ cval m x) := by
  intro l
  induction l with
  | nil => intro k _ h; simp at h; subst h; simp
  | cons b l ih =>
    intro k hk hl
    cases k with
    | zero => simp
    | succ k =>
      have h1 := ih k (by omega) (by simp only [List.length_cons] at hl; omega)
      rw [rch]
      by_cases hb : cval m b < 0
      · rw [if_pos hb]
        constructor
        · intro h; omega
        · intro h; have := h 0 b (by omega) rfl; omega
      · rw [if_neg hb]
        constructor
        · intro h j x hj hx
          cases j with
          | zero => simp at hx; subst hx; omega
          | succ j => exact h1.1 (by omega) j x (by omega) (by simpa using hx)
        · intro h
          have h2 := h1.2 (fun j x hj hx => h (j + 1) x (by omega) (by simpa using hx))
          omega
/-- The next size is within reach. -/
theorem rch_next {m : Int} {l : List Int} {k : Nat} {x : Int} (h : k ≤ rch m l) (hk : k < 255) (hx : l[k]? = some x) : k < rch m l ↔ 0 ≤ cval m x := by
  have hl := (List.getElem?_eq_some_iff.1 hx).1
  have h1 := (rch_iff m l k (by omega) (by omega)).1 h
  have h2 := rch_iff m l (k + 1) (by omega) (by omega)
  constructor
  · intro h3; exact h2.1 h3 k x (by omega) hx
  · intro h3
    have := h2.2 (fun j y hj hy => by
      by_cases e : j < k
      · exact h1 j y e hy
      · obtain rfl : j = k := by omega
        rw [hx] at hy; cases hy; exact h3)
    omega
theorem rch_cons (m : Int) (b : Int) (l : List Int) : rch m (b :: l) = if cval m b < 0 then 0 else min (rch m l + 1) 255 := rfl

/-- A cell at an index of a message of N bytes is not too great. -/
def Ok (N i : Nat) (a : Cel) : Prop := a.c ≤ N - i ∧ a.l ≤ 2827 * (N - i) ∧ a.s ≤ 255 ∧ a.m ≤ 4 ∧ (a.s = 0 → a = zc) ∧ a.s ≤ N - i
theorem ok_zc (N i : Nat) : Ok N i zc := ⟨Nat.zero_le _, Nat.zero_le _, Nat.zero_le _, Nat.zero_le _, fun _ => rfl, Nat.zero_le _⟩
theorem ok_cnd {t : Nat → Cel} {N m i k : Nat} (ht : Ok N (i + k) (t (i + k))) (hk : 1 ≤ k) (hk2 : k ≤ 255) (hik : i + k ≤ N) (hm : m ≤ 4) : Ok N i (cnd t m i k) := by
  obtain ⟨h1, h2, _⟩ := ht
  have h3 := slen_le (m := (m : Int)) hk2
  unfold Ok cnd
  refine ⟨?_, ?_, ?_, ?_, ?_, ?_⟩
  · show (t (i + k)).c + 1 ≤ N - i; omega
  · show slen m k + (t (i + k)).l ≤ 2827 * (N - i)
    have : 2827 * (N - (i + k)) + 2827 ≤ 2827 * (N - i) := by omega
    omega
  · exact hk2
  · exact hm
  · intro h; exact absurd h (by show k ≠ 0; omega)
  · show k ≤ N - i; omega
theorem ok_put {N i : Nat} {a x : Cel} (ha : Ok N i a) (hx : Ok N i x) : Ok N i (cput a x) := by
  unfold cput
  split
  · exact hx
  · split
    · exact hx
    · exact ha
theorem ok_fsiz {t : Nat → Cel} {N m i : Nat} (ht : ∀ j, Ok N j (t j)) (hm : m ≤ 4) {a : Cel} (ha : Ok N i a) : ∀ k, k ≤ 255 → i + k ≤ N → Ok N i (fsiz t m i k a) := by
  intro k
  induction k with
  | zero => intro _ _; exact ha
  | succ k ih => intro h1 h2; exact ok_put (ih (by omega) (by omega)) (ok_cnd (ht _) (by omega) h1 h2 hm)
theorem ok_fmd {t : Nat → Cel} {bs : List Int} {i : Nat} (ht : ∀ j, Ok bs.length j (t j)) (hi : i ≤ bs.length) : ∀ q, q ≤ 4 → Ok bs.length i (fmd t bs i q) := by
  intro q
  induction q with
  | zero => intro _; exact ok_zc _ _
  | succ q ih =>
    intro h
    have h1 := rch_le ((q + 1 : Nat) : Int) (bs.drop i)
    rw [List.length_drop] at h1
    exact ok_fsiz ht h (ih (by omega)) _ h1.2 (by omega)
theorem ok_tab (bs : List Int) : ∀ j i, Ok bs.length i (tabN bs j i) := by
  intro j
  induction j with
  | zero => intro i; exact ok_zc _ _
  | succ j ih =>
    intro i
    rw [tabN]
    split
    · exact ok_fmd ih (by omega) 4 (Nat.le_refl _)
    · exact ih i
/-- What a candidate reads is not the cell in hand. -/
theorem cnd_upd (t : Nat → Cel) (m i k : Nat) (x : Cel) (hk : 1 ≤ k) : cnd (upd t i x) m i k = cnd t m i k := by
  unfold cnd; rw [upd_ne t x (by omega)]
theorem tabN_step {bs : List Int} {j i : Nat} (h : i + j + 1 = bs.length) : upd (tabN bs j) i (fmd (tabN bs j) bs i 4) = tabN bs (j + 1) := by
  funext k
  unfold upd
  rw [tabN]
  by_cases e : k = i
  · subst e; rw [if_pos rfl, if_pos h]
  · rw [if_neg e, if_neg (by omega)]
theorem tabN_zero {bs : List Int} {j i : Nat} (h : i + j + 1 ≤ bs.length ∨ bs.length ≤ i) : tabN bs j i = zc := by
  induction j with
  | zero => rfl
  | succ j ih => rw [tabN, if_neg (by omega)]; exact ih (by omega)
end Go.Proofs.YtncgeoliboidhaaGreat

namespace Go.Proofs.YtncgeoliboidhaaGreat

theorem fsiz_congr {t t' : Nat → Cel} {m i : Nat} (h : ∀ k, i < k → t k = t' k) (a : Cel) : ∀ k, fsiz t m i k a = fsiz t' m i k a := by
  intro k
  induction k with
  | zero => rfl
  | succ k ih => rw [fsiz, fsiz, ih]; unfold cnd; rw [h _ (by omega)]
theorem fmd_congr {t t' : Nat → Cel} {bs : List Int} {i : Nat} (h : ∀ k, i < k → t k = t' k) : ∀ q, fmd t bs i q = fmd t' bs i q := by
  intro q
  induction q with
  | zero => rfl
  | succ q ih => rw [fmd, fmd, ih, fsiz_congr h]
/-- The whole table. -/
def tabT (bs : List Int) : Nat → Cel := tabN bs bs.length
theorem tabN_late (bs : List Int) {i : Nat} : ∀ d j, bs.length ≤ i + j → tabN bs (j + d) i = tabN bs j i := by
  intro d
  induction d with
  | zero => intro j _; rfl
  | succ d ih => intro j h; rw [← Nat.add_assoc, tabN, if_neg (by omega)]; exact ih j h
theorem tabT_eq {bs : List Int} {i : Nat} (h : i < bs.length) : tabT bs i = fmd (tabT bs) bs i 4 := by
  obtain ⟨j, hj⟩ : ∃ j, i + j + 1 = bs.length := ⟨bs.length - i - 1, by omega⟩
  have h1 : tabT bs i = tabN bs (j + 1) i := by
    unfold tabT
    have := tabN_late bs (i := i) (bs.length - (j + 1)) (j + 1) (by omega)
    rw [show j + 1 + (bs.length - (j + 1)) = bs.length by omega] at this
    exact this
  rw [h1, tabN, if_pos hj]
  refine fmd_congr (fun k hk => ?_) 4
  unfold tabT
  by_cases hkn : bs.length ≤ k
  · rw [tabN_zero (.inr hkn), tabN_zero (.inr hkn)]
  · have := tabN_late bs (i := k) (bs.length - j) j (by omega)
    rw [show j + (bs.length - j) = bs.length by omega] at this
    exact this.symm
theorem tabT_end {bs : List Int} {i : Nat} (h : bs.length ≤ i) : tabT bs i = zc := tabN_zero (.inr h)

/-- A cell says what a first segment and the rest give. -/
def CstT (bs : List Int) (t : Nat → Cel) (i : Nat) (a : Cel) : Prop :=
  a.s = 0 ∨ (1 ≤ a.s ∧ a.s ≤ rch (a.m : Int) (bs.drop i) ∧ 1 ≤ a.m ∧ a.m ≤ 4 ∧ a.c = (t (i + a.s)).c + 1 ∧ a.l = slen (a.m : Int) a.s + (t (i + a.s)).l)
theorem cst_put {bs : List Int} {t : Nat → Cel} {i : Nat} {a x : Cel} (ha : CstT bs t i a) (hx : CstT bs t i x) : CstT bs t i (cput a x) := by
  unfold cput
  split
  · exact hx
  · split
    · exact hx
    · exact ha
theorem cst_fsiz {bs : List Int} {t : Nat → Cel} {m i : Nat} (hm : 1 ≤ m) (hm4 : m ≤ 4) {a : Cel} (ha : CstT bs t i a) : ∀ k, k ≤ rch (m : Int) (bs.drop i) → CstT bs t i (fsiz t m i k a) := by
  intro k
  induction k with
  | zero => intro _; exact ha
  | succ k ih => intro h; exact cst_put (ih (by omega)) (.inr ⟨by show 1 ≤ k + 1; omega, h, hm, hm4, rfl, rfl⟩)
theorem cst_fmd {bs : List Int} {t : Nat → Cel} {i : Nat} : ∀ q, q ≤ 4 → CstT bs t i (fmd t bs i q) := by
  intro q
  induction q with
  | zero => intro _; exact .inl rfl
  | succ q ih => intro h; exact cst_fsiz (by omega) h (ih (by omega)) _ (Nat.le_refl _)
theorem cst_tab {bs : List Int} {i : Nat} (h : i < bs.length) : CstT bs (tabT bs) i (tabT bs i) := by rw [tabT_eq h]; exact cst_fmd 4 (Nat.le_refl _)
/-- Something is found where a size is within reach. -/
theorem put_found {a x : Cel} (hx : x.s ≠ 0) : (cput a x).s ≠ 0 := by
  unfold cput
  split
  · exact hx
  · split
    · exact hx
    · assumption
theorem fsiz_found {t : Nat → Cel} {m i : Nat} {a : Cel} {k : Nat} (h : 1 ≤ k ∨ a.s ≠ 0) : (fsiz t m i k a).s ≠ 0 := by
  cases k with
  | zero => rcases h with h | h
            · omega
            · exact h
  | succ k => exact put_found (by show k + 1 ≠ 0; omega)
theorem rch_byte {bs : List Int} {i : Nat} (h : i < bs.length) (hb : ∀ x ∈ bs, 0 ≤ x ∧ x ≤ 255) : 1 ≤ rch 4 (bs.drop i) := by
  have h1 := rch_iff 4 (bs.drop i) 1 (by omega) (by rw [List.length_drop]; omega)
  refine h1.2 fun j x hj hx => ?_
  have := hb x (List.mem_of_mem_drop (List.mem_of_getElem? hx))
  rw [cval_byte this.1 this.2]; exact this.1
theorem tab_found {bs : List Int} {i : Nat} (h : i < bs.length) (hb : ∀ x ∈ bs, 0 ≤ x ∧ x ≤ 255) : (tabT bs i).s ≠ 0 := by
  rw [tabT_eq h, fmd]
  exact fsiz_found (.inl (rch_byte h hb))
/-- What a cell of the table says. -/
theorem tab_says {bs : List Int} {i : Nat} (h : i < bs.length) (hb : ∀ x ∈ bs, 0 ≤ x ∧ x ≤ 255) :
    1 ≤ (tabT bs i).s ∧ (tabT bs i).s ≤ 255 ∧ i + (tabT bs i).s ≤ bs.length ∧ (tabT bs i).s ≤ rch ((tabT bs i).m : Int) (bs.drop i) ∧ 1 ≤ (tabT bs i).m ∧ (tabT bs i).m ≤ 4 ∧ (tabT bs i).c = (tabT bs (i + (tabT bs i).s)).c + 1 ∧ (tabT bs i).l = slen ((tabT bs i).m : Int) (tabT bs i).s + (tabT bs (i + (tabT bs i).s)).l := by
  rcases cst_tab h with h0 | ⟨h1, h2, h3, h4, h5, h6⟩
  · exact absurd h0 (tab_found h hb)
  · have := rch_le ((tabT bs i).m : Int) (bs.drop i)
    rw [List.length_drop] at this
    exact ⟨h1, by omega, by omega, h2, h3, h4, h5, h6⟩

/-- Where the k-th segment begins. -/
def pos (t : Nat → Cel) : Nat → Nat
  | 0 => 0
  | k + 1 => pos t k + (t (pos t k)).s
theorem pos_le {bs : List Int} (hb : ∀ x ∈ bs, 0 ≤ x ∧ x ≤ 255) : ∀ k, pos (tabT bs) k ≤ bs.length ∧ (pos (tabT bs) k < bs.length → (tabT bs (pos (tabT bs) k)).c + k = (tabT bs 0).c) ∧ (k ≤ (tabT bs 0).c → (tabT bs (pos (tabT bs) k)).c + k = (tabT bs 0).c) := by
  intro k
  induction k with
  | zero => exact ⟨Nat.zero_le _, fun _ => rfl, fun _ => rfl⟩
  | succ k ih =>
    obtain ⟨h1, h2, h3⟩ := ih
    rw [pos]
    by_cases hlt : pos (tabT bs) k < bs.length
    · obtain ⟨a1, a2, a3, a4, a5, a6, a7, a8⟩ := tab_says hlt hb
      have h4 := h2 hlt
      exact ⟨a3, fun _ => by omega, fun _ => by omega⟩
    · have hz : tabT bs (pos (tabT bs) k) = zc := tabT_end (by omega)
      rw [hz]
      refine ⟨h1, fun h => ?_, fun h => ?_⟩
      · exact absurd h (by show ¬ pos (tabT bs) k + 0 < bs.length; omega)
      · have h5 := h3 (by omega)
        rw [hz] at h5
        have h6 : zc.c = 0 := rfl
        omega
/-- The k-th segment lies within the message exactly while there are segments left. -/
theorem pos_lt {bs : List Int} (hb : ∀ x ∈ bs, 0 ≤ x ∧ x ≤ 255) {k : Nat} (hk : k ≤ (tabT bs 0).c) : pos (tabT bs) k < bs.length ↔ k < (tabT bs 0).c := by
  obtain ⟨h1, h2, h3⟩ := pos_le hb k
  have h4 := h3 hk
  constructor
  · intro h
    obtain ⟨a1, a2, a3, a4, a5, a6, a7, a8⟩ := tab_says h hb
    omega
  · intro h
    rcases Nat.lt_or_ge (pos (tabT bs) k) bs.length with h5 | h5
    · exact h5
    · have hz : tabT bs (pos (tabT bs) k) = zc := tabT_end h5
      rw [hz] at h4
      have h6 : zc.c = 0 := rfl
      omega
theorem tab_c {bs : List Int} : (tabT bs 0).c ≤ bs.length := by have := (ok_tab bs bs.length 0).1; rw [Nat.sub_zero] at this; exact this

/-- No candidate is shorter than the cell. -/
theorem put_le (a x : Cel) : (cput a x).l ≤ x.l ∧ (a.s ≠ 0 → (cput a x).l ≤ a.l) := by
  unfold cput
  by_cases h0 : a.s = 0
  · rw [if_pos h0]; exact ⟨Nat.le_refl _, fun h => absurd h0 h⟩
  · rw [if_neg h0]
    by_cases hb : btr x a = true
    · rw [if_pos hb]
      refine ⟨Nat.le_refl _, fun _ => ?_⟩
      unfold btr at hb
      split at hb
      · omega
      · simp at hb; omega
    · rw [if_neg hb]
      refine ⟨?_, fun _ => Nat.le_refl _⟩
      unfold btr at hb
      split at hb
      · omega
      · simp at hb; omega
theorem fsiz_le {t : Nat → Cel} {m i : Nat} {a : Cel} : ∀ k, (∀ j, 1 ≤ j → j ≤ k → (fsiz t m i k a).l ≤ (cnd t m i j).l) ∧ (a.s ≠ 0 → (fsiz t m i k a).l ≤ a.l) := by
  intro k
  induction k with
  | zero => exact ⟨fun j h1 h2 => by omega, fun _ => Nat.le_refl _⟩
  | succ k ih =>
    obtain ⟨h1, h2⟩ := ih
    obtain ⟨p1, p2⟩ := put_le (fsiz t m i k a) (cnd t m i (k + 1))
    refine ⟨fun j hj1 hj2 => ?_, fun ha => ?_⟩
    · by_cases e : j = k + 1
      · subst e; exact p1
      · have hf : (fsiz t m i k a).s ≠ 0 := fsiz_found (.inl (by omega))
        exact Nat.le_trans (p2 hf) (h1 j hj1 (by omega))
    · exact Nat.le_trans (p2 (fsiz_found (.inr ha))) (h2 ha)
theorem fmd_le {t : Nat → Cel} {bs : List Int} {i : Nat} : ∀ q m k : Nat, 1 ≤ m → m ≤ q → 1 ≤ k → k ≤ rch (m : Int) (bs.drop i) → (fmd t bs i q).s ≠ 0 ∧ (fmd t bs i q).l ≤ (cnd t m i k).l := by
  intro q
  induction q with
  | zero => intro m k h1 h2; omega
  | succ q ih =>
    intro m k h1 h2 h3 h4
    rw [fmd]
    by_cases e : m = q + 1
    · subst e
      exact ⟨fsiz_found (.inl (by omega)), (fsiz_le _).1 k h3 h4⟩
    · obtain ⟨g1, g2⟩ := ih m k h1 (by omega) h3 h4
      exact ⟨fsiz_found (.inr g1), Nat.le_trans ((fsiz_le _).2 g1) g2⟩
theorem tab_min {bs : List Int} {i m k : Nat} (h1 : 1 ≤ m) (h2 : m ≤ 4) (h3 : 1 ≤ k) (h4 : k ≤ rch (m : Int) (bs.drop i)) : (tabT bs i).l ≤ slen (m : Int) k + (tabT bs (i + k)).l := by
  have hi : i < bs.length := by
    have := (rch_le (m : Int) (bs.drop i)).1
    rw [List.length_drop] at this; omega
  rw [tabT_eq hi]
  exact (fmd_le (t := tabT bs) (bs := bs) (i := i) 4 m k h1 h2 h3 h4).2
end Go.Proofs.YtncgeoliboidhaaGreat

namespace Go.Proofs.YtncgeoliboidhaaGreat
open Go.RowKit
set_option linter.unusedSimpArgs false
set_option linter.unusedVariables false

/-- The bits of the first elements. -/
def ebP (W : Nat) (zs : List Int) (j : Nat) : List Int := (zs.take j).flatMap fun x => bitsOf x W
theorem ebP_succ {W : Nat} {zs : List Int} {j : Nat} {x : Int} (hx : zs[j]? = some x) : ebP W zs (j + 1) = ebP W zs j ++ bitsOf x W := by
  unfold ebP
  rw [List.take_add_one, hx]
  simp [List.flatMap_append]
theorem ebP_len (W : Nat) (zs : List Int) : ∀ j, j ≤ zs.length → (ebP W zs j).length = j * W := by
  intro j
  induction j with
  | zero => intro _; simp [ebP]
  | succ j ih =>
    intro h
    obtain ⟨x, hx⟩ : ∃ x, zs[j]? = some x := ⟨_, List.getElem?_eq_getElem (by omega)⟩
    rw [ebP_succ hx, List.length_append, ih (by omega), bitsOf_len, Nat.add_mul, Nat.one_mul]
/-- Whether numbers fit in a width. -/
def fitL (W : Nat) (zs : List Int) : Bool := zs.all fun x => decide (x < ((2 ^ W : Nat) : Int))
/-- The code of ElementBits for a valid field with so many elements. -/
def ebK (q : Nat) (zs : List Int) : Int :=
  if (1 ≤ zs.length ∧ zs.length ≤ 1500) ∧ zs.all (elB q) = true then (if zs.length * wdt q ≤ 8192 then (if fitL (wdt q) zs then 0 else 6) else 3) else 2
def ebR (q : Nat) (zs : List Int) : List Int := if ebK q zs = 0 then ebP (wdt q) zs zs.length else []
theorem ebR_len (q : Nat) (zs : List Int) : (ebR q zs).length ≤ 8192 := by
  unfold ebR
  split
  · rename_i h
    rw [ebP_len _ _ _ (Nat.le_refl _)]
    unfold ebK at h
    split at h
    · split at h
      · assumption
      · omega
    · omega
  · simp

set_option maxRecDepth 100000 in
set_option maxHeartbeats 1000000 in
theorem implCap (x : Int) (w : World) : Calls Tryz.prog 32 #[.int .i64 x] w fun e w' => e = .returned (.bool (inR x 1 1500)) ∧ w' = w := by
  by_cases h : 1 ≤ x
  · by_cases h2 : x ≤ 1500
    · rw [inR_yes h h2]
      go_enter Tryz.func32, Tryz.ntmps32
      go_wp2_with fail
      go_ret
      exact ⟨rfl, rfl⟩
    · rw [inR_no (.inr (by omega))]
      go_enter Tryz.func32, Tryz.ntmps32
      go_wp2_with fail
      go_ret
      exact ⟨by simp [h2], rfl⟩
  · rw [inR_no (.inl (by omega))]
    go_enter Tryz.func32, Tryz.ntmps32
    go_wp2_with fail
    go_ret
    exact ⟨by simp [h], rfl⟩
set_option maxRecDepth 100000 in
set_option maxHeartbeats 1000000 in
theorem specCap (x : Int) (w : World) : Calls Tryz.prog 86 #[.int .i64 x] w fun e w' => e = .returned (.bool (inR x 1 1500)) ∧ w' = w := by
  go_enter Tryz.func86, Tryz.ntmps86
  go_wp2_with fail
  refine (specIn_is x 1 1500 _ _ rfl).mono ?_
  rintro e w1 ⟨rfl, rfl⟩
  go_wp2_with fail
  go_ret
  exact ⟨rfl, rfl⟩
end Go.Proofs.YtncgeoliboidhaaGreat

namespace Go.Proofs.YtncgeoliboidhaaGreat
open Go.RowKit
set_option linter.unusedSimpArgs false
set_option linter.unusedVariables false

/-- The array cs has the numbers of t 0 .. t (N - 1). -/
def TabQ (cs : Array Value) (N : Nat) (t : Nat → Cel) : Prop :=
  cs.size = N * 4 ∧ ∀ i, i < N → cs[i * 4]? = some (.int .i64 (t i).l) ∧ cs[i * 4 + 1]? = some (.int .i64 (t i).c) ∧ cs[i * 4 + 2]? = some (.int .i64 (t i).s) ∧ cs[i * 4 + 3]? = some (.int .i64 (t i).m)
/-- Block b has the table t. -/
def RowQ (w : World) (b : Nat) (T : TypeId) (N : Nat) (t : Nat → Cel) : Prop := ∃ cs, w.heap[b]? = some (.cells cs T (0, 0)) ∧ TabQ cs N t
section
variable {w w' : World} {b N : Nat} {T : TypeId} {t : Nat → Cel} {cs : Array Value}
theorem TabQ.at_ (h : TabQ cs N t) {k : Nat} (hk : k < N * 4) : ∃ x : Int, cs[k]? = some (.int .i64 x) := by
  obtain ⟨a, b, c, d⟩ := h.2 (k / 4) (by omega)
  rcases (show k % 4 = 0 ∨ k % 4 = 1 ∨ k % 4 = 2 ∨ k % 4 = 3 by omega) with e | e | e | e
  · exact ⟨_, by rw [show k = k / 4 * 4 by omega]; exact a⟩
  · exact ⟨_, by rw [show k = k / 4 * 4 + 1 by omega]; exact b⟩
  · exact ⟨_, by rw [show k = k / 4 * 4 + 2 by omega]; exact c⟩
  · exact ⟨_, by rw [show k = k / 4 * 4 + 3 by omega]; exact d⟩
theorem TabQ.one (h : TabQ cs N t) : cs.all (·.oneCell') = true := by
  rw [Array.all_eq_true]
  intro i hi
  obtain ⟨x, hx⟩ := h.at_ (k := i) (by rw [← h.1]; exact hi)
  rw [Array.getElem?_eq_getElem hi] at hx
  injection hx with hx
  rw [hx]; rfl
theorem TabQ.put (h : TabQ cs N t) {i : Nat} (hi : i < N) (x : Cel) :
    TabQ ((((cs.setIfInBounds (i * 4) (.int .i64 x.l)).setIfInBounds (i * 4 + 1) (.int .i64 x.c)).setIfInBounds (i * 4 + 2) (.int .i64 x.s)).setIfInBounds (i * 4 + 3) (.int .i64 x.m)) N (upd t i x) := by
  have hs := h.1
  refine ⟨by simp [hs], fun k hk => ?_⟩
  have h2 := h.2 k hk
  simp only [Array.getElem?_setIfInBounds, Array.size_setIfInBounds]
  by_cases e : k = i
  · subst e
    rw [upd_at]
    refine ⟨?_, ?_, ?_, ?_⟩
    · rw [if_neg (by omega), if_neg (by omega), if_neg (by omega), if_pos rfl, if_pos (by omega)]
    · rw [if_neg (by omega), if_neg (by omega), if_pos rfl, if_pos (by omega)]
    · rw [if_neg (by omega), if_pos rfl, if_pos (by omega)]
    · rw [if_pos rfl, if_pos (by omega)]
  · rw [upd_ne t x e]
    refine ⟨?_, ?_, ?_, ?_⟩
    · rw [if_neg (by omega), if_neg (by omega), if_neg (by omega), if_neg (by omega)]; exact h2.1
    · rw [if_neg (by omega), if_neg (by omega), if_neg (by omega), if_neg (by omega)]; exact h2.2.1
    · rw [if_neg (by omega), if_neg (by omega), if_neg (by omega), if_neg (by omega)]; exact h2.2.2.1
    · rw [if_neg (by omega), if_neg (by omega), if_neg (by omega), if_neg (by omega)]; exact h2.2.2.2
theorem RowQ.lt (h : RowQ w b T N t) : b < w.heap.size := by obtain ⟨cs, h, _⟩ := h; exact (Array.getElem?_eq_some_iff.1 h).1
theorem RowQ.cells (h : RowQ w b T N t) {i : Nat} (hi : i < N) :
    w.cell? ⟨b, i * 4, none⟩ = some (.int .i64 (t i).l) ∧ w.cell? ⟨b, i * 4 + 1, none⟩ = some (.int .i64 (t i).c) ∧ w.cell? ⟨b, i * 4 + 2, none⟩ = some (.int .i64 (t i).s) ∧ w.cell? ⟨b, i * 4 + 3, none⟩ = some (.int .i64 (t i).m) := by
  obtain ⟨cs, hb, ht⟩ := h
  obtain ⟨h0, h1, h2, h3⟩ := ht.2 i hi
  exact ⟨(cell_of_row w b _ _ _ _ hb).trans h0, (cell_of_row w b _ _ _ _ hb).trans h1, (cell_of_row w b _ _ _ _ hb).trans h2, (cell_of_row w b _ _ _ _ hb).trans h3⟩
theorem RowQ.frozen (h : RowQ w b T N t) (i : Nat) : w.frozen? ⟨b, i, none⟩ = false := by obtain ⟨cs, h, _⟩ := h; exact frozen_of_row w b i _ _ h
theorem RowQ.same (h : RowQ w b T N t) (hb : w'.heap[b]? = w.heap[b]?) : RowQ w' b T N t := by obtain ⟨cs, h, ht⟩ := h; exact ⟨cs, hb.trans h, ht⟩
theorem RowQ.next (h : RowQ w b T N t) (hb : Below w.heap.size w w') : RowQ w' b T N t := h.same (hb.block b h.lt)
theorem RowQ.alloc (h : RowQ w b T N t) (o : Obj) : RowQ (w.alloc o) b T N t := h.next ((Below.refl _ _).alloc (Nat.le_refl _) o)
theorem RowQ.drew (h : RowQ w b T N t) : RowQ w.drew b T N t := h
theorem RowQ.grown {row : Option Nat} (h : RowQ w b T N t) (hg : w.grownBy w' row) (hr : row ≠ some b) : RowQ w' b T N t := h.same (hg.block b h.lt (fun e => hr e.symm))
theorem RowQ.other (h : RowQ w b T N t) {g : Nat} (o : Nat) (v : Value) (hne : b ≠ g) : RowQ (w.setCell ⟨g, o, none⟩ v) b T N t := h.same (heap_setCell_other w ⟨g, o, none⟩ b v hne)
/-- Four stores. -/
def set4 (w : World) (b i : Nat) (x : Cel) : World := (((w.setCell ⟨b, i * 4, none⟩ (.int .i64 x.l)).setCell ⟨b, i * 4 + 1, none⟩ (.int .i64 x.c)).setCell ⟨b, i * 4 + 2, none⟩ (.int .i64 x.s)).setCell ⟨b, i * 4 + 3, none⟩ (.int .i64 x.m)
theorem RowQ.put (h : RowQ w b T N t) {i : Nat} (hi : i < N) (x : Cel) : RowQ (set4 w b i x) b T N (upd t i x) := by
  obtain ⟨cs, hb, ht⟩ := h
  refine ⟨_, ?_, ht.put hi x⟩
  unfold set4
  exact heap_setCell_same _ b _ _ _ _ (heap_setCell_same _ b _ _ _ _ (heap_setCell_same _ b _ _ _ _ (heap_setCell_same _ b _ _ _ _ hb)))
theorem set4_grown (w : World) (b i : Nat) (x : Cel) : w.grownBy (set4 w b i x) (some b) := by
  unfold set4
  have g : ∀ (w : World) (o : Nat) (v : Value), w.grownBy (w.setCell ⟨b, o, none⟩ v) (some b) := fun w o v =>
    ⟨rfl, rfl, rfl, by simp [World.setCell], fun k _ hk => Below.heap_setCell _ _ _ _ (fun e => hk (by simp [e]))⟩
  exact grown_trans (grown_trans (grown_trans (g _ _ _) (g _ _ _)) (g _ _ _)) (g _ _ _)
end
/-- All zeros. -/
theorem tabQ_zero (N : Nat) : TabQ (Array.replicate (N * 4) (.int .i64 0)) N (fun _ => zc) := by
  refine ⟨by simp, fun i hi => ?_⟩
  refine ⟨?_, ?_, ?_, ?_⟩ <;>
  · rw [Array.getElem?_replicate, if_pos (by omega)]; rfl
theorem RowQ.new (w : World) (T : TypeId) {N : Nat} {cs : Array Value} (h : TabQ cs N (fun _ => zc)) : RowQ (w.alloc (.cells cs T)) w.heap.size T N (fun _ => zc) := ⟨cs, heap_alloc_new w _, h⟩

theorem elemQ : (Tryz.prog.info? 138).map (fun i => (i.zero, i.size, i.bytes)) = some (some (.agg #[.int .i64 0, .int .i64 0, .int .i64 0, .int .i64 0]), 4, 32) := by kernel_rfl
/-- make([]l10Cell, n). -/
theorem make_cells (n : Nat) (hn : n ≤ 1000) : ∃ cs, TabQ cs n (fun _ => zc) ∧ ∀ w, (Instr.makeSlice 139 (.int .i64 n) (.int .i64 n)).run Tryz.prog w = .ok (.slice (some ⟨w.heap.size, 0, none⟩) n n) (w.alloc (.cells cs 138)) := by
  obtain ⟨ti, hi, hz0, hz1, hz2⟩ := info_parts elemQ
  refine ⟨Array.replicate (n * 4) (.int .i64 0), tabQ_zero n, fun w => ?_⟩
  have h := run_make (P := Tryz.prog) w 139 138 ti _ Tryz.underlying139 hi hz0 .i64 .i64 (n : Int) (n : Int) (by omega) (by omega) (by rw [hz2]; omega) (by omega)
  have hm : madeCells (Value.cells (.agg #[.int .i64 0, .int .i64 0, .int .i64 0, .int .i64 0])) (n * 4) = Array.replicate (n * 4) (.int .i64 0) := by
    apply Array.ext
    · simp [madeCells]
    · intro j h1 h2
      have h5 : j % 4 < 4 := Nat.mod_lt _ (by decide)
      rcases (show j % 4 = 0 ∨ j % 4 = 1 ∨ j % 4 = 2 ∨ j % 4 = 3 by omega) with e | e | e | e <;> simp [madeCells, Value.cells, e]
  rw [hz1] at h
  rw [show (((n : Nat) : Int).toNat * 4) = n * 4 by simp, hm] at h
  simpa using h
/-- The program's table. -/
theorem zero_table : ∃ Z : Array Value, TabQ Z 401 (fun _ => zc) ∧ ∀ w, (zeroValue 103).run Tryz.prog w = .ok (.agg Z) w := by
  have h : (Tryz.prog.info? 103).map (fun i => (i.zero, i.size)) = some (some (.agg (Array.replicate 1604 (.int .i64 0))), 1604) := by kernel_rfl
  obtain ⟨h1, h2⟩ := zero_of_info h
  exact ⟨_, tabQ_zero 401, h1⟩
theorem size_table : (Tryz.prog.info? 103).map (·.size) = some 1604 := by kernel_rfl
end Go.Proofs.YtncgeoliboidhaaGreat

namespace Go.Proofs.YtncgeoliboidhaaGreat
open Go.RowKit
set_option linter.unusedSimpArgs false
set_option linter.unusedVariables false

def CV (a : Cel) : Value := .agg #[.int .i64 a.l, .int .i64 a.c, .int .i64 a.s, .int .i64 a.m]
theorem btr_l {a b : Cel} (h : a.l ≠ b.l) : btr a b = decide (a.l < b.l) := by unfold btr; rw [if_neg h]
theorem btr_c {a b : Cel} (h : a.l = b.l) (h2 : a.c ≠ b.c) : btr a b = decide (a.c < b.c) := by unfold btr; rw [if_pos h, if_neg h2]
theorem btr_s {a b : Cel} (h : a.l = b.l) (h2 : a.c = b.c) (h3 : a.s ≠ b.s) : btr a b = decide (b.s < a.s) := by unfold btr; rw [if_pos h, if_pos h2, if_neg h3]
theorem btr_m {a b : Cel} (h : a.l = b.l) (h2 : a.c = b.c) (h3 : a.s = b.s) : btr a b = decide (a.m < b.m) := by unfold btr; rw [if_pos h, if_pos h2, if_pos h3]
theorem nat_lt_int (a b : Nat) : decide ((a : Int) < (b : Int)) = decide (a < b) := by simp

set_option maxRecDepth 100000 in
set_option maxHeartbeats 1000000 in
theorem specBetter (a b : Cel) (w : World) :
    Calls Tryz.prog 138 #[CV a, CV b] w (Gives (.bool (btr a b)) w) := by
  obtain ⟨la, ca, sa, ma⟩ := a
  obtain ⟨lb, cb, sb, mb⟩ := b
  have HB := hide (show Below w.heap.size w ((w.alloc (.cells #[.int .i64 la, .int .i64 ca, .int .i64 sa, .int .i64 ma] 138)).alloc (.cells #[.int .i64 lb, .int .i64 cb, .int .i64 sb, .int .i64 mb] 138)) from ((Below.refl _ _).alloc (Nat.le_refl _) _).alloc (by rw [alloc_size]; omega) _)
  by_cases h1 : la = lb
  · by_cases h2 : ca = cb
    · by_cases h3 : sa = sb
      · have HR := hide (btr_m (a := ⟨la, ca, sa, ma⟩) (b := ⟨lb, cb, sb, mb⟩) h1 h2 h3)
        subst h1 h2 h3
        unfold CV
        go_enter Tryz.func138, Tryz.ntmps138
        go_wp2_with fail
        go_ret
        exact ⟨ret_bool (HR.out), HB.out⟩
      · have HR := hide (btr_s (a := ⟨la, ca, sa, ma⟩) (b := ⟨lb, cb, sb, mb⟩) h1 h2 h3)
        subst h1 h2
        unfold CV
        go_enter Tryz.func138, Tryz.ntmps138
        go_wp2_with fail
        go_ret
        exact ⟨ret_bool (HR.out), HB.out⟩
    · have HR := hide (btr_c (a := ⟨la, ca, sa, ma⟩) (b := ⟨lb, cb, sb, mb⟩) h1 h2)
      subst h1
      unfold CV
      go_enter Tryz.func138, Tryz.ntmps138
      go_wp2_with fail
      go_ret
      exact ⟨ret_bool (HR.out), HB.out⟩
  · have HR := hide (btr_l (a := ⟨la, ca, sa, ma⟩) (b := ⟨lb, cb, sb, mb⟩) h1)
    unfold CV
    go_enter Tryz.func138, Tryz.ntmps138
    go_wp2_with fail
    go_ret
    exact ⟨ret_bool (HR.out), HB.out⟩

def lessC (l c l' c' : Nat) : Bool := if l = l' then decide (c < c') else decide (l < l')
set_option maxRecDepth 100000 in
set_option maxHeartbeats 1000000 in
theorem implCostLess (l c l' c' : Nat) (w : World) :
    Calls Tryz.prog 151 #[.agg #[.int .i64 l, .int .i64 c], .agg #[.int .i64 l', .int .i64 c']] w (Gives (.bool (lessC l c l' c')) w) := by
  have HB := hide (show Below w.heap.size w ((w.alloc (.cells #[.int .i64 l, .int .i64 c] 99)).alloc (.cells #[.int .i64 l', .int .i64 c'] 99)) from ((Below.refl _ _).alloc (Nat.le_refl _) _).alloc (by rw [alloc_size]; omega) _)
  by_cases h1 : l = l'
  · have HR := hide (show lessC l c l' c' = decide (c < c') by unfold lessC; rw [if_pos h1])
    subst h1
    go_enter Tryz.func151, Tryz.ntmps151
    go_wp2_with fail
    go_ret
    exact ⟨ret_bool (HR.out), HB.out⟩
  · have HR := hide (show lessC l c l' c' = decide (l < l') by unfold lessC; rw [if_neg h1])
    go_enter Tryz.func151, Tryz.ntmps151
    go_wp2_with fail
    go_ret
    exact ⟨ret_bool (HR.out), HB.out⟩

theorem btr_less {a b : Cel} (h : ¬ (a.l = b.l ∧ a.c = b.c)) : btr a b = lessC a.l a.c b.l b.c := by
  unfold btr lessC
  by_cases h1 : a.l = b.l
  · rw [if_pos h1, if_pos h1, if_neg (fun h2 => h ⟨h1, h2⟩)]
  · rw [if_neg h1, if_neg h1]
theorem row4 {w : World} {b : Nat} {x0 x1 x2 x3 : Value} {t : TypeId} (h : w.heap[b]? = some (.cells #[x0, x1, x2, x3] t (0, 0))) : w.cell? ⟨b, 0, none⟩ = some x0 ∧ w.cell? ⟨b, 1, none⟩ = some x1 ∧ w.cell? ⟨b, 2, none⟩ = some x2 ∧ w.cell? ⟨b, 3, none⟩ = some x3 :=
  ⟨cell_of_row w b 0 _ _ _ h, cell_of_row w b 1 _ _ _ h, cell_of_row w b 2 _ _ _ h, cell_of_row w b 3 _ _ _ h⟩
set_option maxRecDepth 100000 in
set_option maxHeartbeats 1000000 in
theorem implBetter (a b : Cel) (w : World) :
    Calls Tryz.prog 143 #[CV a, CV b] w (Gives (.bool (btr a b)) w) := by
  obtain ⟨la, ca, sa, ma⟩ := a
  obtain ⟨lb, cb, sb, mb⟩ := b
  have HB := hide (show Below w.heap.size w ((w.alloc (.cells #[.int .i64 la, .int .i64 ca, .int .i64 sa, .int .i64 ma] 101)).alloc (.cells #[.int .i64 lb, .int .i64 cb, .int .i64 sb, .int .i64 mb] 101)) from ((Below.refl _ _).alloc (Nat.le_refl _) _).alloc (by rw [alloc_size]; omega) _)
  by_cases h12 : la = lb ∧ ca = cb
  · obtain ⟨h1, h2⟩ := h12
    by_cases h3 : sa = sb
    · have HR := hide (btr_m (a := ⟨la, ca, sa, ma⟩) (b := ⟨lb, cb, sb, mb⟩) h1 h2 h3)
      subst h1 h2 h3
      unfold CV
      go_enter Tryz.func143, Tryz.ntmps143
      go_wp2_with fail
      go_ret
      exact ⟨ret_bool HR.out, HB.out⟩
    · have HR := hide (btr_s (a := ⟨la, ca, sa, ma⟩) (b := ⟨lb, cb, sb, mb⟩) h1 h2 h3)
      subst h1 h2
      unfold CV
      go_enter Tryz.func143, Tryz.ntmps143
      go_wp2_with fail
      go_ret
      exact ⟨ret_bool HR.out, HB.out⟩
  · have HR := hide (btr_less (a := ⟨la, ca, sa, ma⟩) (b := ⟨lb, cb, sb, mb⟩) h12)
    have HS := hide (show w.heap.size ≤ ((w.alloc (.cells #[.int .i64 la, .int .i64 ca, .int .i64 sa, .int .i64 ma] 101)).alloc (.cells #[.int .i64 lb, .int .i64 cb, .int .i64 sb, .int .i64 mb] 101)).heap.size by rw [alloc_size, alloc_size]; omega)
    by_cases h1 : la = lb
    · have h2 : ¬ ca = cb := fun e => h12 ⟨h1, e⟩
      subst h1
      clear h12
      unfold CV
      go_enter Tryz.func143, Tryz.ntmps143
      go_wp2_with fail
      refine (implCostLess la ca la cb _).mono ?_
      rintro e w1 ⟨rfl, hb1⟩
      have HB1 := hide (HB.out.trans (hb1.mono HS.out))
      clear hb1
      go_wp2_with fail
      go_ret
      exact ⟨ret_bool HR.out, HB1.out⟩
    · clear h12
      unfold CV
      go_enter Tryz.func143, Tryz.ntmps143
      go_wp2_with fail
      refine (implCostLess la ca lb cb _).mono ?_
      rintro e w1 ⟨rfl, hb1⟩
      have HB1 := hide (HB.out.trans (hb1.mono HS.out))
      clear hb1
      go_wp2_with fail
      go_ret
      exact ⟨ret_bool HR.out, HB1.out⟩
end Go.Proofs.YtncgeoliboidhaaGreat
