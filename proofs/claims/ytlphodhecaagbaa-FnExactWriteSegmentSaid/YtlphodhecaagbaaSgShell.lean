/-
  A segment that came in as an argument of a law: a number and a string, opened and shut.
  No condition.
-/
import Derived.Test.YtlphodhecaagbaaShell
import Derived.Lib.SmallJoins
import Derived.Deep.Slices
namespace Go.Proofs.Ytlphodhecaagbaa
open Go.ChangeShapes Go.WideShapes Go.ChangeAt Go.RowKit Go.Joins

set_option maxRecDepth 8000 in
theorem openSegment {H : Type} {enc : TypeId × Value → H} {W : World} {base b0 : Nat} {sp : Nat → Bool} {held : Bool} {r : Reach} {v : Value} {d : DataW H} {ps : List MemPlace}
    (hv : Value.okWide Try.prog W r b0 37 v) (h : DataW.Trod enc Try.prog W base sp held 37 v d ps) :
    ∃ (x : Int) (s : ByteArray), v = .agg #[.int .i64 x, .string s] ∧ d = .agg [.lit (.int .i64 x), .lit (.string s.data.toList)] ∧ ps = [] ∧ (Lit.int .i64 x).wf = true ∧ s.size ≤ maxLen := by
  obtain ⟨v0, v1, y0, y1, n, rfl, rfl, rfl, t0, t1⟩ := open_agg2 Try.underlying37 (by kernel_rfl) (by kernel_rfl) hv h
  obtain ⟨x, hx, hy, wx⟩ := DataW.trod_int Try.underlying2 t0
  obtain ⟨s, hs, hz, ws⟩ := DataW.trod_string Try.underlying9 t1
  simp only [List.cons.injEq, and_true] at hx hs
  subst hx hs hy hz
  exact ⟨x, s, rfl, rfl, rfl, wx, ws⟩
set_option maxRecDepth 8000 in
theorem shutSegment {H : Type} {enc : TypeId × Value → H} {W : World} {base : Nat} {sp : Nat → Bool} {held : Bool} {x : Int} {s : ByteArray} (wx : (Lit.int .i64 x).wf = true) (ws : s.size ≤ maxLen) :
    DataW.Trod enc Try.prog W base sp held 37 (.agg #[.int .i64 x, .string s]) (.agg [.lit (.int .i64 x), .lit (.string s.data.toList)]) [] := by
  simpa using shut_agg2 (enc := enc) (w := W) (base := base) (spare := sp) (held := held) (y0 := (.lit (.int .i64 x), [])) (y1 := (.lit (.string s.data.toList), [])) Try.underlying37 (by kernel_rfl) (by kernel_rfl)
    ⟨1, by simp [DataW.trod, Try.underlying2, wx]⟩ (Go.Deep.shut_string_cell Try.underlying9 ws)
end Go.Proofs.Ytlphodhecaagbaa
