/-
  The decoding of a stream, block by block: what both sides answer.
  Condition: the layout is valid, the erasures are valid indices.
-/
import Derived.Test.YtlphodhecaagbaaGreatLSpr
import Derived.Test.YtlphodhecaagbaaGreatLWord
namespace Go.Proofs.YtlphodhecaagbaaGreat
open Go.RowKit
set_option linter.unusedSimpArgs false
set_option linter.unusedVariables false

section
variable {R : Fld} {D C K : Nat}
/-- The words of a stream of elements. -/
theorem wrdZ_iv {ws : List (El R)} {k : Nat} (hk : k < C) (hw : ws.length = D + C * K) : wrdZ D C K (iv ws) k = iv (wrdL D C K ws k) := by
  apply List.ext_getElem?
  intro e
  by_cases he : e < lsz D C k + K
  · rw [iv_at (by rw [wrd_len]; exact he)]
    unfold wrdZ
    rw [List.getElem?_map, List.getElem?_range he]
    have hs := (sidx_lt (D := D) (K := K) hk).2 he
    rw [Option.map_some, List.getD_eq_getElem?_getD, iv_at (by rw [hw]; exact hs), cf_wrd he]
    rfl
  · rw [List.getElem?_eq_none (by rw [wrdZ_len]; omega), List.getElem?_eq_none (by rw [iv_len, wrd_len]; omega)]
/-- The erasures of a block are valid indices of its word. -/
theorem eraB_idx (D C K : Nat) (es : List Int) (k : Nat) : Idx (lsz D C k + K) (era D C K es k) := by
  unfold era
  refine ⟨List.Pairwise.filter _ List.pairwise_lt_range, fun i hi => ?_⟩
  exact List.mem_range.1 (List.mem_filter.1 hi).1
theorem eraB_mem {D C K k e : Nat} {es : List Int} : e ∈ era D C K es k ↔ e < lsz D C k + K ∧ (sidx D C k e : Int) ∈ es := by
  unfold era
  rw [List.mem_filter, List.mem_range, decide_eq_true_eq]
theorem eraB_len (D C K : Nat) (es : List Int) (k : Nat) : (era D C K es k).length ≤ lsz D C k + K := (eraB_idx D C K es k).len
theorem nv_in {E : List Nat} {i : Nat} : (i : Int) ∈ nv E ↔ i ∈ E := by
  unfold nv
  rw [List.mem_map]
  exact ⟨fun ⟨a, h1, h2⟩ => by have : a = i := by omega
                               rw [← this]; exact h1, fun h => ⟨i, h, rfl⟩⟩
theorem era_nv (D C K : Nat) (E : List Nat) (k : Nat) : era D C K (nv E) k = eraL D C K E k := by
  unfold era eraL
  exact List.filter_congr fun e _ => by rw [decide_eq_decide]; exact nv_in
/-- The data of the first corrected words. -/
def datX (D C : Nat) (X : Nat → List (El R)) : Nat → List (El R)
  | 0 => []
  | k + 1 => datX D C X k ++ (X k).take (lsz D C k)
/-- How much of the first words is changed. -/
def chgX (D C K : Nat) (ws : List (El R)) (X : Nat → List (El R)) : Nat → Nat
  | 0 => 0
  | k + 1 => chgX D C K ws X k + (difs (wrdL D C K ws k) (X k)).length
theorem datX_congr {X Y : Nat → List (El R)} : ∀ {k : Nat}, (∀ j, j < k → X j = Y j) → datX D C X k = datX D C Y k
  | 0, _ => rfl
  | k + 1, h => by
    show _ ++ _ = _ ++ _
    rw [datX_congr (fun j hj => h j (by omega)), h k (by omega)]
theorem chgX_congr {ws : List (El R)} {X Y : Nat → List (El R)} : ∀ {k : Nat}, (∀ j, j < k → X j = Y j) → chgX D C K ws X k = chgX D C K ws Y k
  | 0, _ => rfl
  | k + 1, h => by
    show _ + _ = _ + _
    rw [chgX_congr (fun j hj => h j (by omega)), h k (by omega)]
theorem datX_len {X : Nat → List (El R)} : ∀ {k : Nat}, (∀ j, j < k → (X j).length = lsz D C j + K) → (datX D C X k).length = offB D C k
  | 0, _ => by rw [offB_zero]; rfl
  | k + 1, h => by
    show (datX D C X k ++ (X k).take (lsz D C k)).length = _
    rw [List.length_append, datX_len (fun j hj => h j (by omega)), List.length_take, h k (by omega), offB_succ]
    omega
/-- Every word is correctable, by these words. -/
def AllOk (γ : El R) (D C K : Nat) (es : List Int) (ws : List (El R)) (X : Nat → List (El R)) : Prop := ∀ k, k < C → Okw γ (lsz D C k + K) K (era D C K es k) (wrdL D C K ws k) (X k)
/-- Some word is not. -/
def SomeBad (γ : El R) (D C K : Nat) (es : List Int) (ws : List (El R)) : Prop := ∃ k, k < C ∧ ∀ cw, ¬ Okw γ (lsz D C k + K) K (era D C K es k) (wrdL D C K ws k) cw
theorem ok_bad {γ : El R} {es : List Int} {ws : List (El R)} {X : Nat → List (El R)} (h : AllOk γ D C K es ws X) : ¬ SomeBad γ D C K es ws := fun ⟨k, hk, hn⟩ => hn _ (h k hk)
theorem ok_cases (γ : El R) (D C K : Nat) (es : List Int) (ws : List (El R)) : (∃ X, AllOk γ D C K es ws X) ∨ SomeBad γ D C K es ws := by
  by_cases h : SomeBad γ D C K es ws
  · exact .inr h
  · left
    have : ∀ k, ∃ cw, k < C → Okw γ (lsz D C k + K) K (era D C K es k) (wrdL D C K ws k) cw := fun k => by
      by_cases hk : k < C
      · by_cases he : ∃ cw, Okw γ (lsz D C k + K) K (era D C K es k) (wrdL D C K ws k) cw
        · obtain ⟨cw, hc⟩ := he
          exact ⟨cw, fun _ => hc⟩
        · exact absurd ⟨k, hk, fun cw hc => he ⟨cw, hc⟩⟩ h
      · exact ⟨[], fun hk' => absurd hk' hk⟩
    exact ⟨fun k => Classical.choose (this k), fun k hk => Classical.choose_spec (this k) hk⟩
end
end Go.Proofs.YtlphodhecaagbaaGreat
