/-
  Plain mathematics of the best segmentation: the table of best cells, filled from the back.
  No condition.
-/
import Derived.Test.YthbmfaogjaahoaaSmMath
namespace Go.Proofs.Ythbmfaogjaahoaa

/-- What is known of the best segmentation from an index on: its length, its number of segments, the size and the mode of its first segment. -/
structure Cel where
  l : Nat
  c : Nat
  s : Nat
  m : Nat
def zc : Cel := ⟨0, 0, 0, 0⟩
theorem Cel.ext' {a b : Cel} (h1 : a.l = b.l) (h2 : a.c = b.c) (h3 : a.s = b.s) (h4 : a.m = b.m) : a = b := by cases a; cases b; simp_all
/-- Whether a cell is better than another one. -/
def btr (a b : Cel) : Bool := if a.l = b.l then (if a.c = b.c then (if a.s = b.s then decide (a.m < b.m) else decide (b.s < a.s)) else decide (a.c < b.c)) else decide (a.l < b.l)
/-- The better one of what was found and another cell; nothing was found where the size is 0. -/
def cput (a x : Cel) : Cel := if a.s = 0 then x else if btr x a then x else a
def cnd (t : Nat → Cel) (m i k : Nat) : Cel := ⟨slen m k + (t (i + k)).l, (t (i + k)).c + 1, k, m⟩
/-- All sizes up to k of one mode. -/
def fsiz (t : Nat → Cel) (m i : Nat) : Nat → Cel → Cel
  | 0, a => a
  | k + 1, a => cput (fsiz t m i k a) (cnd t m i (k + 1))
/-- How many bytes from the beginning on have a value in a mode, 255 at most. -/
def rch (m : Int) : List Int → Nat
  | [] => 0
  | b :: l => if cval m b < 0 then 0 else min (rch m l + 1) 255
/-- All modes up to q. -/
def fmd (t : Nat → Cel) (bs : List Int) (i : Nat) : Nat → Cel
  | 0 => zc
  | q + 1 => fsiz t (q + 1) i (rch ((q + 1 : Nat) : Int) (bs.drop i)) (fmd t bs i q)
/-- The table behind j rounds. -/
def tabN (bs : List Int) : Nat → Nat → Cel
  | 0, _ => zc
  | j + 1, i => if i + j + 1 = bs.length then fmd (tabN bs j) bs i 4 else tabN bs j i
/-- A table with another cell at an index. -/
def upd (t : Nat → Cel) (i : Nat) (x : Cel) (k : Nat) : Cel := if k = i then x else t k
theorem upd_at (t : Nat → Cel) (i : Nat) (x : Cel) : upd t i x i = x := by simp [upd]
theorem upd_ne (t : Nat → Cel) {i k : Nat} (x : Cel) (h : k ≠ i) : upd t i x k = t k := by simp [upd, h]
theorem upd_upd (t : Nat → Cel) (i : Nat) (x y : Cel) : upd (upd t i x) i y = upd t i y := by funext k; unfold upd; split <;> rfl
theorem upd_self (t : Nat → Cel) (i : Nat) : upd t i (t i) = t := by funext k; unfold upd; split <;> simp_all

theorem rch_le (m : Int) : ∀ l : List Int, rch m l ≤ l.length ∧ rch m l ≤ 255 := by
  intro l
  induction l with
  | nil => exact ⟨Nat.le_refl _, by simp [rch]⟩
  | cons b l ih =>
    rw [rch]
    split
    · exact ⟨by omega, by omega⟩
    · exact ⟨by simp only [List.length_cons]; omega, by omega⟩
/-- A size is within reach if all its bytes have a value. -/
theorem rch_iff (m : Int) : ∀ (l : List Int) (k : Nat), k ≤ 255 → k ≤ l.length → (k ≤ rch m l ↔ ∀ j x, j < k → l[j]? = some x → 0 ≤ cval m x) := by
  intro l
  induction l with
  | nil => intro k _ h; simp at h; subst h; simp
  | cons b l ih =>
    intro k hk hl
    cases k with
    | zero => simp
    | succ k =>
      have h1 := ih k (by omega) (by simp only [List.length_cons] at hl; omega)
      rw [rch]
      by_cases hb : cval m b < 0
      · rw [if_pos hb]
        constructor
        · intro h; omega
        · intro h; have := h 0 b (by omega) rfl; omega
      · rw [if_neg hb]
        constructor
        · intro h j x hj hx
          cases j with
          | zero => simp at hx; subst hx; omega
          | succ j => exact h1.1 (by omega) j x (by omega) (by simpa using hx)
        · intro h
          have h2 := h1.2 (fun j x hj hx => h (j + 1) x (by omega) (by simpa using hx))
          omega
/-- The next size is within reach. -/
theorem rch_next {m : Int} {l : List Int} {k : Nat} {x : Int} (h : k ≤ rch m l) (hk : k < 255) (hx : l[k]? = some x) : k < rch m l ↔ 0 ≤ cval m x := by
  have hl := (List.getElem?_eq_some_iff.1 hx).1
  have h1 := (rch_iff m l k (by omega) (by omega)).1 h
  have h2 := rch_iff m l (k + 1) (by omega) (by omega)
  constructor
  · intro h3; exact h2.1 h3 k x (by omega) hx
  · intro h3
    have := h2.2 (fun j y hj hy => by
      by_cases e : j < k
      · exact h1 j y e hy
      · obtain rfl : j = k := by omega
        rw [hx] at hy; cases hy; exact h3)
    omega
theorem rch_cons (m : Int) (b : Int) (l : List Int) : rch m (b :: l) = if cval m b < 0 then 0 else min (rch m l + 1) 255 := rfl

/-- A cell at an index of a message of N bytes is not too great. -/
def Ok (N i : Nat) (a : Cel) : Prop := a.c ≤ N - i ∧ a.l ≤ 2827 * (N - i) ∧ a.s ≤ 255 ∧ a.m ≤ 4 ∧ (a.s = 0 → a = zc) ∧ a.s ≤ N - i
theorem ok_zc (N i : Nat) : Ok N i zc := ⟨Nat.zero_le _, Nat.zero_le _, Nat.zero_le _, Nat.zero_le _, fun _ => rfl, Nat.zero_le _⟩
theorem ok_cnd {t : Nat → Cel} {N m i k : Nat} (ht : Ok N (i + k) (t (i + k))) (hk : 1 ≤ k) (hk2 : k ≤ 255) (hik : i + k ≤ N) (hm : m ≤ 4) : Ok N i (cnd t m i k) := by
  obtain ⟨h1, h2, _⟩ := ht
  have h3 := slen_le (m := (m : Int)) hk2
  unfold Ok cnd
  refine ⟨?_, ?_, ?_, ?_, ?_, ?_⟩
  · show (t (i + k)).c + 1 ≤ N - i; omega
  · show slen m k + (t (i + k)).l ≤ 2827 * (N - i)
    have : 2827 * (N - (i + k)) + 2827 ≤ 2827 * (N - i) := by omega
    omega
  · exact hk2
  · exact hm
  · intro h; exact absurd h (by show k ≠ 0; omega)
  · show k ≤ N - i; omega
theorem ok_put {N i : Nat} {a x : Cel} (ha : Ok N i a) (hx : Ok N i x) : Ok N i (cput a x) := by
  unfold cput
  split
  · exact hx
  · split
    · exact hx
    · exact ha
theorem ok_fsiz {t : Nat → Cel} {N m i : Nat} (ht : ∀ j, Ok N j (t j)) (hm : m ≤ 4) {a : Cel} (ha : Ok N i a) : ∀ k, k ≤ 255 → i + k ≤ N → Ok N i (fsiz t m i k a) := by
  intro k
  induction k with
  | zero => intro _ _; exact ha
  | succ k ih => intro h1 h2; exact ok_put (ih (by omega) (by omega)) (ok_cnd (ht _) (by omega) h1 h2 hm)
theorem ok_fmd {t : Nat → Cel} {bs : List Int} {i : Nat} (ht : ∀ j, Ok bs.length j (t j)) (hi : i ≤ bs.length) : ∀ q, q ≤ 4 → Ok bs.length i (fmd t bs i q) := by
  intro q
  induction q with
  | zero => intro _; exact ok_zc _ _
  | succ q ih =>
    intro h
    have h1 := rch_le ((q + 1 : Nat) : Int) (bs.drop i)
    rw [List.length_drop] at h1
    exact ok_fsiz ht h (ih (by omega)) _ h1.2 (by omega)
theorem ok_tab (bs : List Int) : ∀ j i, Ok bs.length i (tabN bs j i) := by
  intro j
  induction j with
  | zero => intro i; exact ok_zc _ _
  | succ j ih =>
    intro i
    rw [tabN]
    split
    · exact ok_fmd ih (by omega) 4 (Nat.le_refl _)
    · exact ih i
/-- What a candidate reads is not the cell in hand. -/
theorem cnd_upd (t : Nat → Cel) (m i k : Nat) (x : Cel) (hk : 1 ≤ k) : cnd (upd t i x) m i k = cnd t m i k := by
  unfold cnd; rw [upd_ne t x (by omega)]
theorem tabN_step {bs : List Int} {j i : Nat} (h : i + j + 1 = bs.length) : upd (tabN bs j) i (fmd (tabN bs j) bs i 4) = tabN bs (j + 1) := by
  funext k
  unfold upd
  rw [tabN]
  by_cases e : k = i
  · subst e; rw [if_pos rfl, if_pos h]
  · rw [if_neg e, if_neg (by omega)]
theorem tabN_zero {bs : List Int} {j i : Nat} (h : i + j + 1 ≤ bs.length ∨ bs.length ≤ i) : tabN bs j i = zc := by
  induction j with
  | zero => rfl
  | succ j ih => rw [tabN, if_neg (by omega)]; exact ih (by omega)
end Go.Proofs.Ythbmfaogjaahoaa
