/-
  append of one number, and where the new slice lies: for two lists that grow side by side.
  No condition but those of each statement.
-/
import Derived.Test.YtlphodhecaagbaaGreatJA
import Derived.Deep.AppendLies
namespace Go.Proofs.YtlphodhecaagbaaGreat
open Go.RowKit
set_option linter.unusedSimpArgs false
set_option linter.unusedVariables false

/-- append(out, y), and where the new slice lies. -/
theorem wpList_app1M {P : Program} (w : World) {ops : Array Oper} {rest : List Oper} {o : Oper} {a : Act} {Q : Exit → Act → World → Prop} (hgd : o.guard = none) (s x : Operand) (t : TypeId)
    (ho : o.op = .call { callee := .builtin .append, args := #[s, x], argTypes := #[t, t] }) {e : TypeId} {k : IntKind} {bytes : Nat} (E : IsElem P t e k bytes)
    (base : Nat) (v : Value) (zs : List Int) (hs : a.eval s = v) (hown : Own w base e k v zs) (y : Int) (hx : a.eval x = .slice (some ⟨w.heap.size, 0, none⟩) 1 1)
    (hlen : (zs.length + 1) * 8 ≤ 140737488355328) (hbase : base ≤ w.heap.size)
    (h : ∀ b cap w', Own w' base e k (.slice (some ⟨b, 0, none⟩) (zs.length + 1) cap) (zs ++ [y]) → w.grownBy w' v.ownBlock → (v.ownBlock = some b ∨ b = w.heap.size + 1) → wpList P ops Q rest (a.put o.dst (.slice (some ⟨b, 0, none⟩) (zs.length + 1) cap)) w') : wpList P ops Q (o :: rest) a (w.alloc (.cells #[.int k y] e)) := by
  obtain ⟨i, hi, hz0, hz1, hz2⟩ := info_parts E.info
  have hby : (zs.length + 1) * bytes ≤ 140737488355328 := Nat.le_trans (Nat.mul_le_mul_left _ E.small) hlen
  refine wpList_append_lies (w := w.alloc (.cells #[.int k y] e)) hgd s x t ho base e i (.int k 0) 1 bytes E.under hi hz0 hz1 hz2 rfl (by decide) v zs.length (zs.map (Value.int k)) hs (hown.alloc _) ⟨w.heap.size, 0, none⟩ 1 1 [.int k y] hx rfl (fun j u hu => ?_) (ints_oneCell k [y]) (by decide) (by simp only [maxLen]; omega) hby (by rw [alloc_size]; omega) (w.heap.size + 1) (alloc_size _ _) fun b cap w' h2 h3 h4 _ => ?_
  · have hj : j = 0 := by
      have := (List.getElem?_eq_some_iff.1 hu).1
      simp at this; exact this
    subst hj
    simp only [List.getElem?_cons_zero, Option.some.injEq] at hu
    subst hu
    rw [addr_add, World.cell?_alloc_at _ _ _ _ rfl]; rfl
  · exact h b cap w' (Own.intro h2 (by simp) (by simp)) (grown_trans (World.grownBy_alloc w _ _) h3) h4
theorem ne_lies2 {w : World} {N b : Nat} {v v' : Value} {e : TypeId} {k : IntKind} {zs : List Int} (hy : Own w N e k v' zs) (hne : v.ownBlock = none ∨ v.ownBlock ≠ v'.ownBlock) (hg : v.ownBlock = some b ∨ b = w.heap.size + 1) : v'.ownBlock ≠ some b := by
  intro e
  have h1 := (hy.lt e).2
  rcases hg with hg | hg
  · rcases hne with h2 | h2
    · rw [h2] at hg; cases hg
    · exact h2 (by rw [hg, e])
  · omega
end Go.Proofs.YtlphodhecaagbaaGreat
