/-
  Reading a segment, plainly: the characters of a group's number, the text of the first groups, whether a segment is readable.
  No condition.
-/
import Derived.Test.YthmpfnbcodolcaaSgBits
import Derived.Test.YthmpfnbcodolcaaSg8
import Derived.Test.YthmpfnbcodolcaaNumber
namespace Go.Proofs.Ythmpfnbcodolcaa
open Go.RowKit
set_option linter.unusedSimpArgs false
set_option linter.unusedVariables false

/-- The last t characters that a number stands for. -/
def dgN (B : Nat) (m : Int) (v : Nat) : Nat → List Int
  | 0 => []
  | t + 1 => chr m ((v / B ^ t % B : Nat) : Int) :: dgN B m v t
theorem dgN_len (B : Nat) (m : Int) (v : Nat) : ∀ t, (dgN B m v t).length = t := by
  intro t
  induction t with
  | zero => rfl
  | succ t ih => rw [dgN, List.length_cons, ih]
theorem gbase_pos (m : Int) : 1 ≤ gbase m := by unfold gbase; (repeat' split) <;> omega
theorem dgN_byte {m : Int} (hm : 1 ≤ m ∧ m ≤ 4) (v : Nat) : ∀ t, ∀ x ∈ dgN (gbase m) m v t, 0 ≤ x ∧ x ≤ 255 := by
  intro t
  induction t with
  | zero => intro x hx; cases hx
  | succ t ih =>
    intro x hx
    rw [dgN] at hx
    rcases List.mem_cons.1 hx with rfl | h
    · exact chr_byte hm (Nat.mod_lt _ (gbase_pos m))
    · exact ih x h
/-- How many characters the model takes a mode to have, as a natural number. -/
def sbN (m : Int) : Nat := if m = 1 then 10 else if m = 2 then 45 else 256
theorem sb_is (m : Int) : sbase m = (sbN m : Nat) := by unfold sbase sbN; (repeat' split) <;> rfl
theorem sbN_pos (m : Int) : 1 ≤ sbN m := by unfold sbN; (repeat' split) <;> omega
/-- With its own idea of the base the model reads the same. -/
theorem sb_dg {m : Int} (hm : 1 ≤ m ∧ m ≤ 4) {c v : Nat} (hc1 : 1 ≤ c) (hc : c ≤ gsz m) (hv : v < 2 ^ wid m c) :
    dgN (sbN m) m v c = dgN (gbase m) m v c ∧ (v / sbN m ^ c = 0 ↔ v < gbase m ^ c) ∧ ∀ t, t < c → v / sbN m ^ t % sbN m < gbase m := by
  have h4 : m = 1 ∨ m = 2 ∨ m = 3 ∨ m = 4 := by omega
  rcases h4 with rfl | rfl | rfl | rfl
  · have hs : sbN 1 = gbase 1 := rfl
    rw [hs]
    exact ⟨rfl, by rw [Nat.div_eq_zero_iff_lt (Nat.pow_pos (gbase_pos 1))], fun t _ => Nat.mod_lt _ (gbase_pos 1)⟩
  · have hs : sbN 2 = gbase 2 := rfl
    rw [hs]
    exact ⟨rfl, by rw [Nat.div_eq_zero_iff_lt (Nat.pow_pos (gbase_pos 2))], fun t _ => Nat.mod_lt _ (gbase_pos 2)⟩
  · have hg : gsz 3 = 1 := rfl
    obtain rfl : c = 1 := by omega
    have hw : v < 32 := hv
    have hb : gbase 3 = 32 := rfl
    have hs : sbN 3 = 256 := rfl
    rw [hb, hs]
    refine ⟨?_, by omega, fun t ht => ?_⟩
    · show [chr 3 ((v / 256 ^ 0 % 256 : Nat) : Int)] = [chr 3 ((v / 32 ^ 0 % 32 : Nat) : Int)]
      rw [show v / 256 ^ 0 % 256 = v by omega, show v / 32 ^ 0 % 32 = v by omega]
    · obtain rfl : t = 0 := by omega
      omega
  · have hg : gsz 4 = 1 := rfl
    obtain rfl : c = 1 := by omega
    have hs : sbN 4 = gbase 4 := rfl
    rw [hs]
    exact ⟨rfl, by rw [Nat.div_eq_zero_iff_lt (Nat.pow_pos (gbase_pos 4))], fun t _ => Nat.mod_lt _ (gbase_pos 4)⟩

/-- The length of group j, its place, its number. -/
def glN (m : Int) (n j : Nat) : Nat := min (gsz m) (n - j * gsz m)
def gpN (m : Int) (a j : Nat) : Nat := a + j * wid m (gsz m)
def gvN (zs : List Int) (a : Nat) (m : Int) (n j : Nat) : Nat := (numVal ((zs.drop (gpN m a j)).take (wid m (glN m n j)))).toNat
theorem num_nat {zs : List Int} (hb : ∀ x ∈ zs, x = 0 ∨ x = 1) (a w : Nat) : numVal ((zs.drop a).take w) = ((numVal ((zs.drop a).take w)).toNat : Int) ∧ (numVal ((zs.drop a).take w)).toNat < 2 ^ w := by
  have h := numVal_bd _ ((zs.drop a).take w) rfl (fun x hx => hb x (List.mem_of_mem_drop (List.mem_of_mem_take hx)))
  have hl : ((zs.drop a).take w).length ≤ w := by rw [List.length_take]; omega
  have h2 : (2 : Nat) ^ ((zs.drop a).take w).length ≤ 2 ^ w := Nat.pow_le_pow_right (by omega) hl
  have h3 : ((2 : Int) ^ ((zs.drop a).take w).length) = (((2 : Nat) ^ ((zs.drop a).take w).length : Nat) : Int) := by simp
  rw [h3] at h
  omega
/-- The text of the first groups; whether they stand for characters. -/
def rdT (zs : List Int) (a : Nat) (m : Int) (n : Nat) : Nat → List Int
  | 0 => []
  | j + 1 => rdT zs a m n j ++ dgN (gbase m) m (gvN zs a m n j) (glN m n j)
def rdOk (zs : List Int) (a : Nat) (m : Int) (n j : Nat) : Prop := ∀ i, i < j → gvN zs a m n i < glim m (glN m n i)
theorem rdOk_next {zs : List Int} {a n j : Nat} {m : Int} (h : rdOk zs a m n j) (hj : gvN zs a m n j < glim m (glN m n j)) : rdOk zs a m n (j + 1) := fun i hi => by
  by_cases e : i < j
  · exact h i e
  · obtain rfl : i = j := by omega
    exact hj
theorem glN_full {m : Int} {n j : Nat} (h : j + 1 < gct (gsz m) n) : glN m n j = gsz m := by
  have h1 := (gct_lt (gsz_pos m)).1 h
  rw [Nat.add_mul, Nat.one_mul] at h1
  unfold glN; omega
theorem rdT_len (zs : List Int) (a : Nat) (m : Int) (n : Nat) : ∀ j, j ≤ gct (gsz m) n → (rdT zs a m n j).length = min (j * gsz m) n := by
  intro j
  induction j with
  | zero => intro _; simp [rdT]
  | succ j ih =>
    intro h
    have h1 := (gct_lt (gsz_pos m)).1 (show j < gct (gsz m) n by omega)
    rw [rdT, List.length_append, ih (by omega), dgN_len, glN, Nat.add_mul, Nat.one_mul]; omega
theorem rdT_byte {zs : List Int} {a : Nat} {m : Int} (hm : 1 ≤ m ∧ m ≤ 4) {n : Nat} : ∀ j, ∀ x ∈ rdT zs a m n j, 0 ≤ x ∧ x ≤ 255 := by
  intro j
  induction j with
  | zero => intro x hx; cases hx
  | succ j ih =>
    intro x hx
    rw [rdT] at hx
    rcases List.mem_append.1 hx with h | h
    · exact ih x h
    · exact dgN_byte hm _ _ x h
/-- The bits of the first groups of a text; those of all. -/
def gwN (m : Int) (n j : Nat) : Nat := j * wid m (gsz m)
/-- Where a group ends, within the text's bits. -/
theorem gp_end {m : Int} {n j : Nat} (hj : j < gct (gsz m) n) : j * wid m (gsz m) + wid m (glN m n j) ≤ twid m n := by
  have hg := gsz_pos m
  have h1 := (gct_lt hg).1 hj
  unfold twid
  obtain ⟨G, hG⟩ : ∃ G, gsz m = G := ⟨_, rfl⟩
  unfold glN
  rw [hG] at hg h1 ⊢
  by_cases hf : (j + 1) * G ≤ n
  · rw [Nat.add_mul, Nat.one_mul] at hf
    rw [Nat.min_eq_left (by omega)]
    have : j + 1 ≤ n / G := (Nat.le_div_iff_mul_le (by omega)).2 (by rw [Nat.add_mul, Nat.one_mul]; omega)
    have h2 := Nat.mul_le_mul_right (wid m G) this
    rw [Nat.add_mul, Nat.one_mul] at h2
    omega
  · rw [Nat.add_mul, Nat.one_mul] at hf
    rw [Nat.min_eq_right (by omega)]
    have h2 : n / G = j := by
      apply Nat.le_antisymm
      · exact Nat.le_of_lt_succ ((Nat.div_lt_iff_lt_mul (by omega)).2 (by rw [Nat.succ_mul]; omega))
      · exact (Nat.le_div_iff_mul_le (by omega)).2 (by omega)
    have h3 : n % G = n - j * G := by
      have := Nat.div_add_mod n G
      rw [h2, Nat.mul_comm] at this; omega
    rw [h2, h3]; exact Nat.le_refl _
theorem gp_last {m : Int} {n : Nat} (hn : 1 ≤ n) {j : Nat} (hj : j + 1 = gct (gsz m) n) : j * wid m (gsz m) + wid m (glN m n j) = twid m n := by
  have hg := gsz_pos m
  have h1 := (gct_lt hg (n := n) (j := j)).1 (by omega)
  have h0 : ¬ (j + 1) * gsz m < n := fun h => by have := (gct_lt hg).2 h; omega
  unfold twid
  obtain ⟨G, hG⟩ : ∃ G, gsz m = G := ⟨_, rfl⟩
  unfold glN
  rw [hG] at hg h1 h0 ⊢
  rw [Nat.add_mul, Nat.one_mul] at h0
  by_cases hf : n = j * G + G
  · rw [Nat.min_eq_left (by omega)]
    have h2 : n / G = j + 1 := by rw [hf, show j * G + G = (j + 1) * G by rw [Nat.add_mul, Nat.one_mul]]; exact Nat.mul_div_cancel _ (by omega)
    have h3 : n % G = 0 := by rw [hf, show j * G + G = (j + 1) * G by rw [Nat.add_mul, Nat.one_mul]]; exact Nat.mul_mod_left _ _
    have h4 : wid m 0 = 0 := rfl
    rw [h2, h3, h4, Nat.add_mul, Nat.one_mul, Nat.add_zero]
  · rw [Nat.min_eq_right (by omega)]
    have h2 : n / G = j := by
      apply Nat.le_antisymm
      · exact Nat.le_of_lt_succ ((Nat.div_lt_iff_lt_mul (by omega)).2 (by rw [Nat.succ_mul]; omega))
      · exact (Nat.le_div_iff_mul_le (by omega)).2 (by omega)
    have h3 : n % G = n - j * G := by
      have := Nat.div_add_mod n G
      rw [h2, Nat.mul_comm] at this; omega
    rw [h2, h3]
end Go.Proofs.Ythmpfnbcodolcaa
