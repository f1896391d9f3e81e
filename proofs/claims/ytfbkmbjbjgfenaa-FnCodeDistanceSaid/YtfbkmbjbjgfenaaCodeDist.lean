/-
  Two different code words differ at more indices than there are check elements: on lists of numbers.
  No condition but those of each statement.
-/
import Derived.Test.YtfbkmbjbjgfenaaCVal
namespace Go.Proofs.Ytfbkmbjbjgfenaa
open Go.RowKit
theorem ints_hi {w w' : World} {B g n : Nat} {A : Option Addr} {zs : List Int} (h : Ints .i64 w B A n zs) (hg : w.grownBy w' (some g)) (hB : B ≤ g) (hs : B ≤ w.heap.size) : Ints .i64 w' B A n zs :=
  h.keep fun b o hb => World.cell?_of_block (hg.block b (by omega) (fun e => by injection e with e; omega))
section
variable {R : Fld}
theorem val_inj {X Y : El R} (h : (X.val : Int) = (Y.val : Int)) : X = Y := by
  cases X; cases Y; simp only [El.mk.injEq] at *; omega
theorem differ_take {a b : List (El R)} (hl : a.length = b.length) : ∀ n, n ≤ a.length → differ ((iv a).take n) ((iv b).take n) = ((List.range n).filter fun i => !decide (cf a i = cf b i)).length := by
  intro n
  induction n with
  | zero => intro _; simp [differ]
  | succ n ih =>
    intro hn
    rw [differ_snoc (iv_at (by omega)) (iv_at (by omega)), ih (by omega), List.range_succ, List.filter_append, List.length_append]
    congr 1
    by_cases h : cf a n = cf b n
    · rw [if_pos (by rw [h])]; simp [h]
    · rw [if_neg (fun e => h (val_inj e))]; simp [h]
theorem differ_difs {a b : List (El R)} (hl : a.length = b.length) : differ (iv a) (iv b) = (difs a b).length := by
  have h := differ_take hl a.length (Nat.le_refl _)
  rw [List.take_of_length_le (by rw [iv_len]; omega), List.take_of_length_le (by rw [iv_len]; omega)] at h
  exact h
theorem enc_inj {γ : El R} {n : Nat} {a b : List (El R)} (hl : a.length = b.length) (h : encW γ n a = encW γ n b) : a = b := by
  have h1 := enc_take γ n a
  have h2 := enc_take γ n b
  rw [h, hl] at h1
  exact h1.symm.trans h2
/-- The distance of the words of two different messages. -/
theorem far_words {γ : El R} {p k g : Int} {l c : Nat} (hc : CodeIs R γ p k g l c) {a b : List (El R)} (ha : a.length = l - c) (hb : b.length = l - c) (hne : a ≠ b) :
    disC (iv (encW γ c a)) (iv (encW γ c b)) = 0 ∧ ∃ d : Nat, disV (iv (encW γ c a)) (iv (encW γ c b)) = d ∧ c < d ∧ d ≤ 1000 := by
  have hcl := hc.cl
  have hl255 := hc.l255
  have la : (encW γ c a).length = l := by rw [enc_len]; omega
  have lb : (encW γ c b).length = l := by rw [enc_len]; omega
  have h0 : disC (iv (encW γ c a)) (iv (encW γ c b)) = 0 := by
    unfold disC
    rw [iv_len, iv_len, la, lb, if_neg (by omega), if_pos rfl]
  refine ⟨h0, differ (iv (encW γ c a)) (iv (encW γ c b)), by rw [disV, if_pos h0], ?_, ?_⟩
  · rw [differ_difs (by omega)]
    refine Nat.lt_of_not_le fun hw => hne ?_
    exact enc_inj (by omega) (near_same hc.far (by omega) (by omega) (enc_isCW _ _ _) (enc_isCW _ _ _) hw)
  · have := differ_le (iv (encW γ c a)) (iv (encW γ c b))
    rw [iv_len] at this
    omega
/-- The next element, of the last one the first. -/
theorem next_el (X : El R) : ∃ Y : El R, ((X.val : Int) + 1).tmod (R.q : Int) = (Y.val : Int) ∧ Y ≠ X := by
  have hq := R.three
  have hX := X.lt
  refine ⟨⟨(X.val + 1) % R.q, Nat.mod_lt _ (by omega)⟩, ?_, fun e => ?_⟩
  · rw [Int.tmod_eq_emod_of_nonneg (by omega)]; rfl
  · have h1 : (X.val + 1) % R.q = X.val := congrArg El.val e
    rcases Nat.lt_or_ge (X.val + 1) R.q with h | h
    · rw [Nat.mod_eq_of_lt h] at h1; omega
    · have e1 : X.val + 1 = R.q := by omega
      rw [e1, Nat.mod_self] at h1
      omega
theorem set_ne {a : List (El R)} {i : Nat} {Y : El R} (hi : i < a.length) (h : Y ≠ cf a i) : a ≠ a.set i Y := by
  intro e
  have h1 : (a.set i Y)[i]? = some Y := by rw [List.getElem?_set_self hi]
  rw [← e, at_cf hi] at h1
  injection h1 with h1
  exact h h1.symm
end
end Go.Proofs.Ytfbkmbjbjgfenaa
