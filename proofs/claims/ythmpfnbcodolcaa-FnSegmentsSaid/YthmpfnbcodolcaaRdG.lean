/-
  The program's ReadSegment, given its textOf.
  Condition: as each statement says.
-/
import Derived.Test.YthmpfnbcodolcaaRdF
import Derived.Test.YthmpfnbcodolcaaSg8
import Derived.Test.YthmpfnbcodolcaaDrawK
namespace Go.Proofs.Ythmpfnbcodolcaa
open Go Go.RowKit
set_option linter.unusedSimpArgs false
set_option linter.unusedVariables false

theorem dr_m (zs : List Int) (a : Nat) : rdM0 (zs.drop a) 0 = rdM0 zs a := by unfold rdM0; rw [List.drop_zero]
theorem dr_n (zs : List Int) (a : Nat) : rdN0 (zs.drop a) 0 = rdN0 zs a := by unfold rdN0; rw [List.drop_drop, Nat.zero_add]
theorem dr_gv (zs : List Int) (a : Nat) (m : Int) (n j : Nat) : gvN (zs.drop a) (0 + 11) m n j = gvN zs (a + 11) m n j := by
  unfold gvN gpN; rw [List.drop_drop, Nat.zero_add, Nat.add_assoc]
theorem dr_t (zs : List Int) (a : Nat) (m : Int) (n : Nat) : ∀ j, rdT (zs.drop a) (0 + 11) m n j = rdT zs (a + 11) m n j := by
  intro j
  induction j with
  | zero => rfl
  | succ j ih => rw [rdT, rdT, ih, dr_gv]
theorem dr_is {zs : List Int} {a : Nat} (ha : a ≤ zs.length) : RdIs (zs.drop a) 0 ↔ RdIs zs a := by
  unfold RdIs
  rw [dr_m, dr_n, List.length_drop]
  have ho : rdOk (zs.drop a) (0 + 11) (rdM0 zs a) (rdN0 zs a) (gct (gsz (rdM0 zs a)) (rdN0 zs a)) ↔ rdOk zs (a + 11) (rdM0 zs a) (rdN0 zs a) (gct (gsz (rdM0 zs a)) (rdN0 zs a)) := by
    unfold rdOk
    constructor
    · intro h i hi; rw [← dr_gv]; exact h i hi
    · intro h i hi; rw [dr_gv]; exact h i hi
  rw [ho]
  constructor
  · rintro ⟨h1, h2, h3, h4, h5, h6⟩; exact ⟨by omega, h2, h3, h4, by omega, h6⟩
  · rintro ⟨h1, h2, h3, h4, h5, h6⟩; exact ⟨by omega, h2, h3, h4, by omega, h6⟩
/-- Reading behind some bits is reading at that index. -/
theorem dr_eq {zs : List Int} {a : Nat} (ha : a ≤ zs.length) : rdB (zs.drop a) 0 = rdB zs a ∧ rdM (zs.drop a) 0 = rdM zs a ∧ rdS (zs.drop a) 0 = rdS zs a := by
  by_cases h : RdIs zs a
  · obtain ⟨h1, h2, h3, _⟩ := rd_yes h
    obtain ⟨k1, k2, k3, _⟩ := rd_yes ((dr_is ha).2 h)
    refine ⟨by rw [h1, k1], by rw [h2, k2, dr_m], ?_⟩
    rw [h3, k3, dr_m, dr_n, dr_t]
  · obtain ⟨h1, h2, h3, _⟩ := rd_no h
    obtain ⟨k1, k2, k3, _⟩ := rd_no (fun q => h ((dr_is ha).1 q))
    exact ⟨by rw [h1, k1], by rw [h2, k2], by rw [h3, k3]⟩
/-- The numbers of what was read. -/
theorem rd_nums {zs : List Int} {a : Nat} (hb : ∀ x ∈ zs, x = 0 ∨ x = 1) (h : rdB zs a = true) : (1 ≤ rdM zs a ∧ rdM zs a ≤ 4) ∧ (rdS zs a).size ≤ 255 ∧ rdE zs a = ((a + slen (rdM zs a) (rdS zs a).size : Nat) : Int) ∧ slen (rdM zs a) (rdS zs a).size ≤ 2827 ∧ a + slen (rdM zs a) (rdS zs a).size ≤ zs.length := by
  have hr : RdIs zs a := by
    by_cases q : RdIs zs a
    · exact q
    · rw [(rd_no q).1] at h; cases h
  obtain ⟨h1, h2, h3, h4⟩ := rd_yes hr
  obtain ⟨q1, q2, q3, q4, q5, q6⟩ := hr
  have hg := gsz_pos (rdM0 zs a)
  have hgn : rdN0 zs a ≤ gct (gsz (rdM0 zs a)) (rdN0 zs a) * gsz (rdM0 zs a) := by
    rcases Nat.lt_or_ge (gct (gsz (rdM0 zs a)) (rdN0 zs a) * gsz (rdM0 zs a)) (rdN0 zs a) with h | h
    · have := (gct_lt hg).2 h; omega
    · exact h
  have hs : (rdS zs a).size = rdN0 zs a := by rw [h3, strOf_size, rdT_len _ _ _ _ _ (Nat.le_refl _)]; omega
  have hn : rdN0 zs a ≤ 255 := by
    have := (num_nat hb (a + 3) 8).2
    unfold rdN0; omega
  have ht := twid_le (m := rdM0 zs a) hn
  have hsl : slen (rdM0 zs a) (rdN0 zs a) = 11 + twid (rdM0 zs a) (rdN0 zs a) := rfl
  rw [h2, hs, h4]
  exact ⟨⟨q2, q3⟩, hn, rfl, by omega, q5⟩
end Go.Proofs.Ythmpfnbcodolcaa
