/-
  What GeneratorOf, EncodeWord, IsCodeWord, SyndromesOf and MessageOf return, case by case, of the model and of the program, side by side.
  Condition: lists shorter than 2^20; the number of check elements is an int64.
-/
import Derived.Test.YtkdpkbnhckpnoaaCode8
import Derived.Test.YtkdpkbnhckpnoaaCode6
import Derived.Test.YtkdpkbnhckpnoaaJK
namespace Go.Proofs.Ytkdpkbnhckpnoaa
open Go.RowKit
set_option linter.unusedSimpArgs false
set_option linter.unusedVariables false

/-- A function of a code and no list, one list, two lists: its contract, whatever the lists' memory. -/
def D0 (f : Nat) (p k g L C : Int) (Post : World → Ending → World → Prop) : Prop :=
  ∀ w : World, Calls Try.prog f #[.agg #[.int .i64 p, .int .i64 k, .int .i64 g, .int .i64 L, .int .i64 C]] w (Post w)
def D1 (f : Nat) (p k g L C : Int) (z : List Int) (Post : World → Ending → World → Prop) : Prop :=
  ∀ (A : Option Addr) (n c B : Nat) (w : World), Ints .i64 w B A n z → n ≤ c → B ≤ w.heap.size → Calls Try.prog f #[.agg #[.int .i64 p, .int .i64 k, .int .i64 g, .int .i64 L, .int .i64 C], .slice A n c] w (Post w)
def D2 (f : Nat) (p k g L C : Int) (z z' : List Int) (Post : World → Ending → World → Prop) : Prop :=
  ∀ (A : Option Addr) (n c : Nat) (A' : Option Addr) (n' c' B : Nat) (w : World), Ints .i64 w B A n z → Ints .i64 w B A' n' z' → n ≤ c → n' ≤ c' → B ≤ w.heap.size → Calls Try.prog f #[.agg #[.int .i64 p, .int .i64 k, .int .i64 g, .int .i64 L, .int .i64 C], .slice A n c, .slice A' n' c'] w (Post w)
theorem wErr_ne {p k g L C : Int} {Z : List (List Int)} : (∃ cd : Int, wErr p k g L C Z = cd ∧ (cd != 0) = true) ∨
    (wErr p k g L C Z = 0 ∧ ∃ (R : Fld) (γ : El R) (l c : Nat), L = l ∧ C = c ∧ CodeIs R γ p k g l c ∧ ∀ zs ∈ Z, ∃ ws : List (El R), zs = iv ws ∧ ws.length = l) := by
  rcases wErr_cases p k g L C Z with ⟨h, _⟩ | ⟨h, _⟩ | h
  · exact .inl ⟨1, h, rfl⟩
  · exact .inl ⟨2, h, rfl⟩
  · exact .inr h
theorem wErr_is {R : Fld} {γ : El R} {p k g : Int} {l c : Nat} (h : CodeIs R γ p k g l c) {Z : List (List Int)} (hz : ∀ zs ∈ Z, ∃ ws : List (El R), zs = iv ws ∧ ws.length = l) : wErr p k g l c Z = 0 :=
  wErr_ok (codeB_is h) h.fld.kind fun zs hm => by obtain ⟨ws, rfl, hl⟩ := hz zs hm; rw [← hl]; exact word_shut ws
theorem c_bd {R : Fld} {γ : El R} {p k g : Int} {l c : Nat} (h : CodeIs R γ p k g l c) : -9223372036854775808 ≤ (c : Int) ∧ (c : Int) ≤ 9223372036854775807 := by have := h.c64; omega

end Go.Proofs.Ytkdpkbnhckpnoaa
