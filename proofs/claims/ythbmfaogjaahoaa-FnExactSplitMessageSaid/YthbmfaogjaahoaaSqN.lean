/-
  Slices of segments that grow, and what a function leaves that returns one.
  Condition: as each statement says.
-/
import Derived.Test.YthbmfaogjaahoaaSq1
import Derived.Test.YthbmfaogjaahoaaSg5
import Derived.Deep.AppendLies
namespace Go.Proofs.Ythbmfaogjaahoaa
open Go Go.RowKit
set_option linter.unusedSimpArgs false
set_option linter.unusedVariables false

/-- append(out, segment). -/
theorem wp_appSeg {base : Nat} {v : Value} {n : Nat} {f : Nat → Value} (w : World) {o : Oper} {a : Act} {K : Act → World → Prop} {Q : Exit → Act → World → Prop} (s x : Operand)
    (ho : o.op = .call { callee := .builtin .append, args := #[s, x], argTypes := #[69, 69] })
    (hs : a.eval s = v) (h : OwnS w base v n f) (x0 : Int) (x1 : ByteArray) (hf : f (n * 2) = .int .i64 x0 ∧ f (n * 2 + 1) = .string x1)
    (hx : a.eval x = .slice (some ⟨w.heap.size, 0, none⟩) 1 1) (hlen : n ≤ 10000) (hbase : base ≤ w.heap.size)
    (hk : ∀ v' w', OwnS w' base v' (n + 1) f → w.grownBy w' v.ownBlock → K (a.put o.dst v') w') :
    o.wp Try.prog a (w.alloc (.cells #[.int .i64 x0, .string x1] 107)) K Q := by
  obtain ⟨i, hi, hz0, hz1, hz2⟩ := info_parts elemS
  refine wp_append_own (w := w.alloc (.cells #[.int .i64 x0, .string x1] 107)) s x 69 ho base 107 i _ 2 24 Try.underlying69 hi hz0 hz1 hz2 rfl (by decide) v n _ hs (World.ownsRow.alloc h _) ⟨w.heap.size, 0, none⟩ 1 1 [.int .i64 x0, .string x1] hx rfl
    (World.news_of_block (heap_alloc_new w (.cells #[.int .i64 x0, .string x1] 107))) (fun u hu => ?_) (by simp only [maxLen]; omega) (by omega) (by rw [alloc_size]; omega) fun v' w' h2 h3 _ => ?_
  · simp only [List.mem_cons, List.not_mem_nil, or_false] at hu
    rcases hu with rfl | rfl <;> rfl
  · refine hk v' w' ?_ (grown_trans (World.grownBy_alloc w _ _) h3)
    unfold OwnS
    obtain ⟨f0, f1⟩ := hf
    rw [show (n + 1) * 2 = n * 2 + 2 by omega, show (List.range (n * 2 + 2)) = List.range (n * 2) ++ [n * 2, n * 2 + 1] by simp [List.range_succ], List.map_append]
    simp only [List.map_cons, List.map_nil, f0, f1]
    exact h2
/-- append(out, segment), in a list of operations. -/
theorem wpList_appSeg {P : Program} (hP : P = Try.prog) {base : Nat} {v : Value} {n : Nat} {f : Nat → Value} (w : World) {ops : Array Oper} {rest : List Oper} {o : Oper} {a : Act} {Q : Exit → Act → World → Prop} (hgd : o.guard = none) (s x : Operand)
    (ho : o.op = .call { callee := .builtin .append, args := #[s, x], argTypes := #[69, 69] })
    (hs : a.eval s = v) (h : OwnS w base v n f) (x0 : Int) (x1 : ByteArray) (hf : f (n * 2) = .int .i64 x0 ∧ f (n * 2 + 1) = .string x1)
    (hx : a.eval x = .slice (some ⟨w.heap.size, 0, none⟩) 1 1) (hlen : n ≤ 10000) (hbase : base ≤ w.heap.size)
    (hk : ∀ v' w', OwnS w' base v' (n + 1) f → w.grownBy w' v.ownBlock → wpList P ops Q rest (a.put o.dst v') w') :
    wpList P ops Q (o :: rest) a (w.alloc (.cells #[.int .i64 x0, .string x1] 107)) := by
  subst hP
  refine wpList_step fun K hK => ?_
  rw [if_pos (by simp [Region.wanted, hgd])]
  exact wp_appSeg w s x ho hs h x0 x1 hf hx hlen hbase (fun v' w' h1 h2 => hK _ _ (hk v' w' h1 h2))
/-- A box of a segment that was made behind a slice's block stays. -/
theorem SBox.apart {w0 w w' : World} {t : TypeId} {m : Int} {s : ByteArray} {base n : Nat} {v : Value} {f : Nat → Value} (h : SBox w0 w t m s) (ho : OwnS w0 base v n f) (hg : w.grownBy w' v.ownBlock) : w'.heap[w0.heap.size]? = some (.cells #[.int .i64 m, .string s] t (0, 0)) := by
  rw [hg.block _ h.lt (by intro e; have := ((World.ownsRow.lt ho) _ e.symm).2; omega)]; exact h.1
/-- What a function leaves that returns a new slice of segments and a code. -/
def NewSI (n : Nat) (M : Nat → Int) (T : Nat → ByteArray) (cd : Int) (w : World) (x : Ending) (w' : World) : Prop :=
  ∃ A c, x = .returned (.tuple #[.slice A n c, .int .i64 cd]) ∧ n ≤ c ∧ c ≤ 9223372036854775807 ∧ OwnS w' w.heap.size (.slice A n c) n (segV M T) ∧ Below w.heap.size w w'
end Go.Proofs.Ythbmfaogjaahoaa
