/-
  What AddWords returns for two words, and what WordDistance and IsWithin return, of the model and of the program, side by side.
  Condition: lists shorter than 2^20; the numbers are int64s.
-/
import Derived.Test.YtdniocdmncldjaaGreatCBoth2
namespace Go.Proofs.YtdniocdmncldjaaGreat
open Go.RowKit
set_option linter.unusedSimpArgs false
set_option linter.unusedVariables false

section
variable {R : Fld} {γ : El R} {p k g : Int} {l c : Nat}
end

/-- A function of two lists: its contract, whatever the lists' memory. -/
def E2 (f : Nat) (z z' : List Int) (Post : World → Ending → World → Prop) : Prop :=
  ∀ (A : Option Addr) (n c : Nat) (A' : Option Addr) (n' c' B : Nat) (w : World), Ints .i64 w B A n z → Ints .i64 w B A' n' z' → n ≤ c → n' ≤ c' → B ≤ w.heap.size → Calls Tryz.prog f #[.slice A n c, .slice A' n' c'] w (Post w)
/-- The code of two lists that are held against each other. -/
def disC (z z' : List Int) : Int := if 255 < z.length ∨ 255 < z'.length then 3 else if z.length = z'.length then 0 else 5
def disV (z z' : List Int) : Int := if disC z z' = 0 then (differ z z' : Int) else 0
theorem dis_cases (z z' : List Int) : ((255 < z.length ∨ z.length ≤ 255 ∧ 255 < z'.length) ∧ disC z z' = 3 ∧ disV z z' = 0) ∨ (z.length ≤ 255 ∧ z'.length ≤ 255 ∧ z.length ≠ z'.length ∧ disC z z' = 5 ∧ disV z z' = 0) ∨
    (z.length ≤ 255 ∧ z'.length ≤ 255 ∧ z.length = z'.length ∧ disC z z' = 0 ∧ disV z z' = (differ z z' : Int)) := by
  by_cases h1 : 255 < z.length ∨ 255 < z'.length
  · have e : disC z z' = 3 := if_pos h1
    exact .inl ⟨by omega, e, by rw [disV, e]; rfl⟩
  · by_cases h2 : z.length = z'.length
    · have e : disC z z' = 0 := by rw [disC, if_neg h1, if_pos h2]
      exact .inr (.inr ⟨by omega, by omega, h2, e, by rw [disV, if_pos e]⟩)
    · have e : disC z z' = 5 := by rw [disC, if_neg h1, if_neg h2]
      exact .inr (.inl ⟨by omega, by omega, h2, e, by rw [disV, e]; rfl⟩)
def WdRel (n : Nat) (za zb : List Int) (d i : Value) : Prop := ∃ j t : Nat, j ≤ n ∧ t ≤ j ∧ i = .int .i64 j ∧ d = .int .i64 t ∧ Hid (differ (za.take j) (zb.take j) = t)

/-- Whether so much damage is within the bound. -/
def withB (p k g L C e1 e2 : Int) : Bool := codeB p k g L C && decide (0 ≤ e1 ∧ 0 ≤ e2 ∧ 2 * e1 + e2 ≤ C)
theorem within_no {p k g L C e1 e2 : Int} (h : codeB p k g L C = false) : withB p k g L C e1 e2 = false := by rw [withB, h]; rfl
theorem within_is {p k g L C e1 e2 : Int} (h : codeB p k g L C = true) : withB p k g L C e1 e2 = decide (0 ≤ e1 ∧ 0 ≤ e2 ∧ 2 * e1 + e2 ≤ C) := by rw [withB, h]; rfl
def D0ii (f : Nat) (p k g L C e1 e2 : Int) (Post : World → Ending → World → Prop) : Prop :=
  ∀ w : World, Calls Tryz.prog f #[.agg #[.int .i64 p, .int .i64 k, .int .i64 g, .int .i64 L, .int .i64 C], .int .i64 e1, .int .i64 e2] w (Post w)

end Go.Proofs.YtdniocdmncldjaaGreat
