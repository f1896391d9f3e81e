/-
  What the walks of the exact laws share: equal slices are told as equal; marks are written and found again.
  Condition: the slices are shorter than 2^40.
-/
import Derived.Test.YtncgeoliboidhaaGreatMarks
namespace Go.Proofs.YtncgeoliboidhaaGreat
open Go.RowKit

theorem bd_i64 {n : Int} (h : (Lit.int .i64 n).wf = true) : -9223372036854775808 ≤ n ∧ n ≤ 9223372036854775807 := by
  simp [Lit.wf, IntKind.min, IntKind.max, IntKind.signed, IntKind.bits] at h
  omega
theorem Own.cap {w : World} {base n c : Nat} {e : TypeId} {k : IntKind} {A : Option Addr} {zs : List Int} (h : Own w base e k (.slice A n c) zs) : c ≤ 9223372036854775807 := by
  rcases h.2 with ⟨h1, _⟩ | ⟨g, cap, cur, hv, _, _, _, hm, _⟩
  · simp only [Value.slice.injEq] at h1; omega
  · simp only [Value.slice.injEq] at hv; unfold maxLen at hm; omega
theorem Own.ints' {w : World} {base n c : Nat} {e : TypeId} {k : IntKind} {A : Option Addr} {zs : List Int} (h : Own w base e k (.slice A n c) zs) (hl : zs.length = n) : Ints k w w.heap.size A n zs := by
  subst hl; exact h.ints

end Go.Proofs.YtncgeoliboidhaaGreat
