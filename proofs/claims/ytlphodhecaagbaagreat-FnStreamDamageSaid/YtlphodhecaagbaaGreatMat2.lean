/-
  Operations on slices of slices within a region that draws its order: append of a row, make of a row.
  Condition: none.
-/
import Derived.Test.YtlphodhecaagbaaGreatMat
namespace Go.Proofs.YtlphodhecaagbaaGreat
open Go.RowKit
set_option linter.unusedSimpArgs false
set_option linter.unusedVariables false

/-- append(words, row): the row is a slice that is owned, apart from the others. -/
theorem wp_appRow {base : Nat} {v : Value} {n : Nat} {vs : List Value} {Z : Nat → List Int} (w : World) {o : Oper} {a : Act} {K : Act → World → Prop} {Q : Exit → Act → World → Prop} (s x : Operand)
    (ho : o.op = .call { callee := .builtin .append, args := #[s, x], argTypes := #[65, 65] })
    (hs : a.eval s = v) (h : Mat w base v n vs Z) (u : Value) (zs : List Int) (hu : Own w base 2 .i64 u zs) (hl : ∀ b, u.ownBlock = some b → (∀ (j : Nat) (t : Value), vs[j]? = some t → t.ownBlock ≠ some b) ∧ v.ownBlock ≠ some b)
    (hx : a.eval x = .slice (some ⟨w.heap.size, 0, none⟩) 1 1) (hlen : (n + 1) * 24 ≤ 140737488355328) (hbase : base ≤ w.heap.size)
    (hk : ∀ v' w', Mat w' base v' (n + 1) (vs ++ [u]) (fun i => if i = n then zs else Z i) → w.grownBy w' v.ownBlock → K (a.put o.dst v') w') : o.wp Tryz.prog a (w.alloc (.cells #[u] 28)) K Q := by
  obtain ⟨i, hi, hz0, hz1, hz2⟩ := info_parts elemSS
  have hun : Tryz.prog.underlying 65 = some (.slice 28) := Tryz.underlying65
  refine wp_append_lies (w := w.alloc (.cells #[u] 28)) s x 65 ho base 28 i (.slice none 0 0) 1 24 hun hi hz0 hz1 hz2 rfl (by decide) v n vs hs (h.row.alloc _) ⟨w.heap.size, 0, none⟩ 1 1 [u] hx rfl (fun j t ht => ?_) (fun t ht => ?_) (by decide) (by simp only [maxLen]; omega) hlen (by rw [alloc_size]; omega) (w.heap.size + 1) (alloc_size _ _) fun b cap w' h2 h3 h4 _ => ?_
  · have hj : j = 0 := by
      have := (List.getElem?_eq_some_iff.1 ht).1
      simp at this; exact this
    subst hj
    simp only [List.getElem?_cons_zero, Option.some.injEq] at ht
    subst ht
    rw [addr_add, World.cell?_alloc_at _ _ _ _ rfl]; rfl
  · rw [List.mem_singleton] at ht
    subst ht
    obtain ⟨A, c, rfl, _⟩ := hu.form
    rfl
  · have hg := grown_trans (World.grownBy_alloc w _ _) h3
    have hvu : ∀ b', u.ownBlock = some b' → v.ownBlock ≠ some b' := fun b' e => (hl b' e).2
    have hu2 := hu.grown hg (by
      rcases hub : u.ownBlock with _ | b'
      · exact .inl rfl
      · exact .inr fun e => hvu b' hub e.symm)
    have hr2 := (h.rows.grown hg fun k t ht => (h.out k t ht).1).snoc hu2 fun b' e => (hl b' e).1
    have hlen' := h.len
    rw [hlen'] at hr2
    refine hk _ w' ⟨h2, hr2, fun k t ht => ?_⟩ hg
    have hall : ∀ g', t.ownBlock = some g' → v.ownBlock ≠ some g' ∧ g' < w.heap.size := by
      intro g' hg'
      rcases Nat.lt_or_ge k vs.length with hkl | hkl
      · rw [List.getElem?_append_left hkl] at ht
        refine ⟨fun e => ?_, (h.rows.lt ht hg').2⟩
        rcases (h.out k t ht).1 with h5 | h5
        · rw [h5] at hg'; cases hg'
        · exact h5 (by rw [hg', e])
      · have hke : k = vs.length := by
          have := (List.getElem?_eq_some_iff.1 ht).1
          simp at this; omega
        subst hke
        rw [List.getElem?_concat_length] at ht
        injection ht with ht
        subst ht
        exact ⟨hvu g' hg', (hu.lt hg').2⟩
    have hne : t.ownBlock ≠ some b := by
      intro e
      obtain ⟨h5, h6⟩ := hall b e
      rcases h4 with h7 | h7
      · exact h5 h7
      · omega
    exact ⟨.inr hne, .inr fun e => hne e.symm⟩

/-- make([]int64, n) as an operation. -/
theorem wp_mkN {P : Program} (w : World) {o : Oper} {a : Act} {K : Act → World → Prop} {Q : Exit → Act → World → Prop} (l c : Operand) (t : TypeId) (hop : o.op = Op.makeSlice t l c)
    {e : TypeId} {k : IntKind} {bytes : Nat} (E : IsElem P t e k bytes) (kl kc : IntKind) (L C : Int) (n : Nat) (hl : a.eval l = .int kl L) (hc : a.eval c = .int kc C) (hL : L = (n : Int)) (hC : C = (n : Int)) (hn : 8 * n ≤ 281474976710656)
    (hK : ∀ w', Own w' w.heap.size e k (.slice (some ⟨w.heap.size, 0, none⟩) n n) (List.replicate n 0) → Below w.heap.size w w' → K (a.put o.dst (.slice (some ⟨w.heap.size, 0, none⟩) n n)) w') : o.wp P a w K Q := by
  obtain ⟨i, hi, hz0, hz1, hz2⟩ := info_parts E.info
  obtain ⟨w', hrun, r1, r2⟩ := run_make_full (P := P) w w.heap.size t e i (.int k 0) 1 E.under hi hz0 hz1 kl kc n (Nat.le_trans (Nat.mul_le_mul_right _ (by rw [hz2]; exact E.small)) hn) (by simp only [maxLen]; omega) (Nat.le_refl _)
  subst hL
  subst hC
  unfold Oper.wp
  simp [execOp, hop, hl, hc, hrun, Result.andThen]
  refine hK w' (Own.intro r1 (by simp) ?_) ((Below.refl w.heap.size w).grown r2 (Nat.le_refl _) (by simp))
  rw [Nat.mul_one]
  show (madeCells #[Value.int k 0] n).toList = _
  rw [toList_madeCells_one, List.map_replicate]
end Go.Proofs.YtlphodhecaagbaaGreat
