/-
  A slice of slices of integers, each row in a block of its own: what reads, grows and writes of it keep.
  Condition: none.
-/
import Derived.Test.YtlphodhecaagbaaGreatCode2
import Derived.Deep.AppendLies
namespace Go.Proofs.YtlphodhecaagbaaGreat
open Go.RowKit
set_option linter.unusedSimpArgs false
set_option linter.unusedVariables false

/-- Slices that are owned, each in a block of its own, none in the blocks 'no' speaks of. -/
structure Rowz (w : World) (base : Nat) (vs : List Value) (Z : Nat → List Int) : Prop where
  own : ∀ (k : Nat) (v : Value), vs[k]? = some v → Own w base 2 .i64 v (Z k)
  dis : ∀ (j k : Nat) (u v : Value), vs[j]? = some u → vs[k]? = some v → j ≠ k → u.ownBlock = none ∨ u.ownBlock ≠ v.ownBlock
section
variable {w w' : World} {base : Nat} {vs : List Value} {Z : Nat → List Int}
theorem Rowz.grown {row : Option Nat} (h : Rowz w base vs Z) (hg : w.grownBy w' row) (hne : ∀ (k : Nat) (v : Value), vs[k]? = some v → v.ownBlock = none ∨ v.ownBlock ≠ row) : Rowz w' base vs Z :=
  ⟨fun k v hv => (h.own k v hv).grown hg (hne k v hv), h.dis⟩
theorem Rowz.below (h : Rowz w base vs Z) {B : Nat} (hb : Below B w w') (hB : w.heap.size ≤ B) : Rowz w' base vs Z := ⟨fun k v hv => (h.own k v hv).below hb hB, h.dis⟩
theorem Rowz.next (h : Rowz w base vs Z) (hb : Below w.heap.size w w') : Rowz w' base vs Z := h.below hb (Nat.le_refl _)
theorem Rowz.alloc (h : Rowz w base vs Z) (o : Obj) : Rowz (w.alloc o) base vs Z := h.next ((Below.refl _ _).alloc (Nat.le_refl _) o)
theorem Rowz.drew (h : Rowz w base vs Z) : Rowz w.drew base vs Z := ⟨h.own, h.dis⟩
theorem Rowz.drewN (h : Rowz w base vs Z) (n : Nat) : Rowz (w.drewN n) base vs Z := ⟨fun k v hv => (h.own k v hv).drewN n, h.dis⟩
theorem Rowz.congr {Y : Nat → List Int} (h : Rowz w base vs Z) (hy : ∀ k, k < vs.length → Y k = Z k) : Rowz w base vs Y :=
  ⟨fun k v hv => by rw [hy k (List.getElem?_eq_some_iff.1 hv).1]; exact h.own k v hv, h.dis⟩
theorem Rowz.nil (w : World) (base : Nat) (Z : Nat → List Int) : Rowz w base [] Z := ⟨fun k v hv => by simp at hv, fun j k u v hu => by simp at hu⟩
/-- The row k is replaced by another slice, in another world in which nothing but the row k's block has changed. -/
theorem Rowz.put {k : Nat} {u v : Value} {zs : List Int} (h : Rowz w base vs Z) (hv : vs[k]? = some v) (hg : w.grownBy w' v.ownBlock) (hu : Own w' base 2 .i64 u zs)
    (hl : u.ownBlock = none ∨ u.ownBlock = v.ownBlock ∨ ∃ b, u.ownBlock = some b ∧ w.heap.size ≤ b) : Rowz w' base (vs.set k u) (fun i => if i = k then zs else Z i) := by
  have hk : k < vs.length := (List.getElem?_eq_some_iff.1 hv).1
  have hlow : ∀ (j : Nat) (t : Value), vs[j]? = some t → j ≠ k → (t.ownBlock = none ∨ t.ownBlock ≠ u.ownBlock) ∧ (u.ownBlock = none ∨ u.ownBlock ≠ t.ownBlock) := by
    intro j t ht hj
    have h1 := h.dis j k t v ht hv hj
    have h2 := h.dis k j v t hv ht (Ne.symm hj)
    rcases hl with h3 | h3 | ⟨b, h3, h4⟩
    · exact ⟨by rw [h3]; rcases ht' : t.ownBlock with _ | g <;> simp, .inl h3⟩
    · rw [h3]; exact ⟨h1, h2⟩
    · have h5 : ∀ g, t.ownBlock = some g → g < w.heap.size := fun g hg' => ((h.own j t ht).lt hg').2
      rw [h3]
      refine ⟨?_, .inr fun e => ?_⟩
      · rcases ht' : t.ownBlock with _ | g
        · exact .inl rfl
        · refine .inr fun e => ?_
          injection e with e
          have := h5 g ht'
          omega
      · have := h5 b e.symm
        omega
  refine ⟨fun j t ht => ?_, fun i j s t hs ht hij => ?_⟩
  · by_cases hj : j = k
    · subst hj
      rw [List.getElem?_set_self hk] at ht
      injection ht with ht
      subst ht
      simpa using hu
    · rw [List.getElem?_set_ne (Ne.symm hj)] at ht
      simp only [hj, if_false]
      refine (h.own j t ht).grown hg ?_
      have := h.dis j k t v ht hv hj
      exact this
  · by_cases hi : i = k
    · subst hi
      rw [List.getElem?_set_self hk] at hs
      injection hs with hs
      subst hs
      rw [List.getElem?_set_ne hij] at ht
      exact (hlow j t ht (Ne.symm hij)).2
    · rw [List.getElem?_set_ne (Ne.symm hi)] at hs
      by_cases hj : j = k
      · subst hj
        rw [List.getElem?_set_self hk] at ht
        injection ht with ht
        subst ht
        exact (hlow i s hs hi).1
      · rw [List.getElem?_set_ne (Ne.symm hj)] at ht
        exact h.dis i j s t hs ht hij
/-- One row more. -/
theorem Rowz.snoc {u : Value} {zs : List Int} (h : Rowz w base vs Z) (hu : Own w base 2 .i64 u zs) (hl : ∀ b, u.ownBlock = some b → ∀ (j : Nat) (t : Value), vs[j]? = some t → t.ownBlock ≠ some b) : Rowz w base (vs ++ [u]) (fun i => if i = vs.length then zs else Z i) := by
  have hlast : ∀ (j : Nat) (t : Value), (vs ++ [u])[j]? = some t → (j < vs.length ∧ vs[j]? = some t) ∨ (j = vs.length ∧ t = u) := by
    intro j t ht
    rcases Nat.lt_trichotomy j vs.length with h1 | h1 | h1
    · rw [List.getElem?_append_left h1] at ht; exact .inl ⟨h1, ht⟩
    · subst h1
      rw [List.getElem?_concat_length] at ht
      injection ht with ht
      exact .inr ⟨rfl, ht.symm⟩
    · rw [List.getElem?_eq_none (by simp; omega)] at ht; cases ht
  have hne : ∀ (j : Nat) (t : Value), vs[j]? = some t → (t.ownBlock = none ∨ t.ownBlock ≠ u.ownBlock) ∧ (u.ownBlock = none ∨ u.ownBlock ≠ t.ownBlock) := by
    intro j t ht
    rcases hu' : u.ownBlock with _ | b
    · exact ⟨by rcases t.ownBlock with _ | g <;> simp, .inl rfl⟩
    · have := hl b hu' j t ht
      exact ⟨.inr this, .inr fun e => this e.symm⟩
  refine ⟨fun j t ht => ?_, fun i j s t hs ht hij => ?_⟩
  · rcases hlast j t ht with ⟨h1, h2⟩ | ⟨h1, h2⟩
    · simp only [show j ≠ vs.length by omega, if_false]; exact h.own j t h2
    · subst h1 h2; simpa using hu
  · rcases hlast i s hs with ⟨h1, h2⟩ | ⟨h1, h2⟩ <;> rcases hlast j t ht with ⟨h3, h4⟩ | ⟨h3, h4⟩
    · exact h.dis i j s t h2 h4 hij
    · subst h4; exact (hne i s h2).1
    · subst h2; exact (hne j t h4).2
    · omega
theorem Rowz.lt (h : Rowz w base vs Z) {k g : Nat} {v : Value} (hv : vs[k]? = some v) (hb : v.ownBlock = some g) : base ≤ g ∧ g < w.heap.size := (h.own k v hv).lt hb
end

/-- A slice of slices. -/
structure Mat (w : World) (base : Nat) (v : Value) (n : Nat) (vs : List Value) (Z : Nat → List Int) : Prop where
  row : w.ownsRow base 28 1 v n vs
  rows : Rowz w base vs Z
  out : ∀ (k : Nat) (u : Value), vs[k]? = some u → (u.ownBlock = none ∨ u.ownBlock ≠ v.ownBlock) ∧ (v.ownBlock = none ∨ v.ownBlock ≠ u.ownBlock)
section
variable {w w' : World} {base n : Nat} {v : Value} {vs : List Value} {Z : Nat → List Int}
theorem Mat.len (h : Mat w base v n vs Z) : vs.length = n := by have := h.row.1; omega
theorem Mat.grown {row : Option Nat} (h : Mat w base v n vs Z) (hg : w.grownBy w' row) (hv : v.ownBlock = none ∨ v.ownBlock ≠ row) (hne : ∀ (k : Nat) (v : Value), vs[k]? = some v → v.ownBlock = none ∨ v.ownBlock ≠ row) : Mat w' base v n vs Z :=
  ⟨World.ownsRow.kept h.row hg hv, h.rows.grown hg hne, h.out⟩
theorem Mat.below (h : Mat w base v n vs Z) {B : Nat} (hb : Below B w w') (hB : w.heap.size ≤ B) : Mat w' base v n vs Z :=
  h.grown (row := none) ⟨hb.os, hb.tape, hb.output, hb.size, fun i hi _ => hb.block i (by omega)⟩ (by rcases v.ownBlock with _ | g <;> simp) (fun k u _ => by rcases u.ownBlock with _ | g <;> simp)
theorem Mat.next (h : Mat w base v n vs Z) (hb : Below w.heap.size w w') : Mat w' base v n vs Z := h.below hb (Nat.le_refl _)
theorem Mat.alloc (h : Mat w base v n vs Z) (o : Obj) : Mat (w.alloc o) base v n vs Z := h.next ((Below.refl _ _).alloc (Nat.le_refl _) o)
theorem Mat.drew (h : Mat w base v n vs Z) : Mat w.drew base v n vs Z := ⟨h.row, h.rows.drew, h.out⟩
theorem Mat.drewN (h : Mat w base v n vs Z) (m : Nat) : Mat (w.drewN m) base v n vs Z := ⟨h.row, h.rows.drewN m, h.out⟩
theorem Mat.congr {Y : Nat → List Int} (h : Mat w base v n vs Z) (hy : ∀ k, k < n → Y k = Z k) : Mat w base v n vs Y := ⟨h.row, h.rows.congr fun k hk => hy k (by rw [← h.len]; exact hk), h.out⟩
/-- A block that lies apart from all of it. -/
theorem Mat.apart {g : Nat} (h : Mat w base v n vs Z) (hg : g < base ∨ w.heap.size ≤ g) : (v.ownBlock = none ∨ v.ownBlock ≠ some g) ∧ ∀ (k : Nat) (u : Value), vs[k]? = some u → u.ownBlock = none ∨ u.ownBlock ≠ some g :=
  ⟨.inr fun e => by have := World.ownsRow.lt h.row g e; omega, fun k u hu => .inr fun e => by have := h.rows.lt hu e; omega⟩
theorem Mat.set_other {g : Nat} (h : Mat w base v n vs Z) (hg : g < base ∨ w.heap.size ≤ g) (j : Nat) (u : Value) : Mat (w.setCell ⟨g, j, none⟩ u) base v n vs Z :=
  h.grown (row := some g) ⟨rfl, rfl, rfl, by simp, fun k _ hk => heap_setCell_other w ⟨g, j, none⟩ k u (fun e => hk (by simp [e]))⟩ (h.apart hg).1 (h.apart hg).2
/-- The form of it when it has a row. -/
theorem Mat.form (h : Mat w base v n vs Z) (hn : 0 < n) : ∃ g c, v = .slice (some ⟨g, 0, none⟩) n c ∧ base ≤ g ∧ g < w.heap.size ∧ n ≤ c := by
  rcases h.row.2 with ⟨_, h0⟩ | ⟨g, cap, cur, hv, hb, hg, hnc, _⟩
  · omega
  · exact ⟨g, cap, hv, hb, (Array.getElem?_eq_some_iff.1 hg).1, hnc⟩
theorem Mat.form0 (h : Mat w base v n vs Z) : ∃ A c, v = .slice A n c ∧ n ≤ c := by
  rcases h.row.2 with ⟨rfl, rfl⟩ | ⟨g, cap, cur, hv, hb, hg, hnc, _⟩
  · exact ⟨none, 0, rfl, Nat.le_refl _⟩
  · exact ⟨_, cap, hv, hnc⟩
/-- A row's slice, read. -/
theorem Mat.at_ {g c k : Nat} (h : Mat w base (.slice (some ⟨g, 0, none⟩) n c) n vs Z) (hk : k < n) : ∃ (A : Option Addr) (m : Nat), vs[k]? = some (.slice A (Z k).length m) ∧ w.cell? ⟨g, k, none⟩ = some (.slice A (Z k).length m) ∧ Own w base 2 .i64 (.slice A (Z k).length m) (Z k) ∧ (Z k).length ≤ m := by
  have hkl : k < vs.length := by rw [h.len]; exact hk
  obtain ⟨A, m, hu, hm⟩ := (h.rows.own k _ (List.getElem?_eq_getElem hkl)).form
  have hv : vs[k]? = some (.slice A (Z k).length m) := by rw [← hu]; exact List.getElem?_eq_getElem hkl
  exact ⟨A, m, hv, by rw [World.ownsRow.cellAt h.row k (by omega)]; exact hv, h.rows.own k _ hv, hm⟩
theorem Mat.frozen {g c : Nat} (h : Mat w base (.slice (some ⟨g, 0, none⟩) n c) n vs Z) (k : Nat) : w.frozen? ⟨g, k, none⟩ = false := World.ownsRow.frozenAt h.row k
/-- A row is replaced: first what the row itself has become, then the store into the slice. -/
theorem Mat.put {g c k : Nat} {u t : Value} {zs : List Int} (h : Mat w base (.slice (some ⟨g, 0, none⟩) n c) n vs Z) (ht : vs[k]? = some t) (hg : w.grownBy w' t.ownBlock) (hu : Own w' base 2 .i64 u zs)
    (hl : u.ownBlock = none ∨ u.ownBlock = t.ownBlock ∨ ∃ b, u.ownBlock = some b ∧ w.heap.size ≤ b) :
    Mat (w'.setCell ⟨g, k, none⟩ u) base (.slice (some ⟨g, 0, none⟩) n c) n (vs.set k u) (fun i => if i = k then zs else Z i) ∧ w'.grownBy (w'.setCell ⟨g, k, none⟩ u) (some g) := by
  have hgl := World.ownsRow.lt h.row g rfl
  have ho := h.out k t ht
  have hrow := World.ownsRow.kept h.row hg (by rcases ho.2 with h1 | h1; exact .inl h1; exact .inr h1)
  obtain ⟨hs, hgg⟩ := World.ownsRow.stored hrow k u
  have hrz := h.rows.put ht hg hu hl
  have hk : k < vs.length := (List.getElem?_eq_some_iff.1 ht).1
  have hug : u.ownBlock ≠ some g := by
    intro e
    rcases hl with h1 | h1 | ⟨b, h1, h2⟩
    · rw [h1] at e; cases e
    · rw [h1] at e
      rcases ho.1 with h3 | h3
      · rw [h3] at e; cases e
      · exact h3 e
    · rw [h1] at e; injection e with e; omega
  have hout : ∀ (i : Nat) (s : Value), (vs.set k u)[i]? = some s → s.ownBlock ≠ some g := by
    intro i s hs'
    by_cases hi : i = k
    · subst hi
      rw [List.getElem?_set_self hk] at hs'
      injection hs' with hs'
      subst hs'; exact hug
    · rw [List.getElem?_set_ne (Ne.symm hi)] at hs'
      rcases (h.out i s hs').1 with h1 | h1
      · rw [h1]; simp
      · exact h1
  exact ⟨⟨hs, hrz.grown hgg fun i s hs' => .inr (hout i s hs'), fun i s hs' => ⟨.inr (hout i s hs'), .inr fun e => hout i s hs' e.symm⟩⟩, hgg⟩
/-- An integer is stored into a row. -/
theorem Mat.write {g c k b m : Nat} (h : Mat w base (.slice (some ⟨g, 0, none⟩) n c) n vs Z) (ht : vs[k]? = some (.slice (some ⟨b, 0, none⟩) (Z k).length m)) (j : Nat) (x : Int) :
    Mat (w.setCell ⟨b, j, none⟩ (.int .i64 x)) base (.slice (some ⟨g, 0, none⟩) n c) n vs (fun i => if i = k then (Z k).set j x else Z i) ∧ w.grownBy (w.setCell ⟨b, j, none⟩ (.int .i64 x)) (some b) := by
  obtain ⟨h1, h2⟩ := (h.rows.own k _ ht).stored j x
  refine ⟨⟨World.ownsRow.kept h.row h2 (h.out k _ ht).2, ?_, h.out⟩, h2⟩
  have hk : k < vs.length := (List.getElem?_eq_some_iff.1 ht).1
  have h3 := h.rows.put ht h2 (u := .slice (some ⟨b, 0, none⟩) (Z k).length m) (zs := (Z k).set j x) h1 (.inr (.inl rfl))
  have h4 : vs.set k (.slice (some ⟨b, 0, none⟩) (Z k).length m) = vs := by
    rw [List.getElem?_eq_some_iff] at ht
    obtain ⟨hh, e⟩ := ht
    rw [← e]; exact List.set_getElem_self hh
  rw [h4] at h3
  exact h3
end

theorem elemSS : (Tryz.prog.info? 28).map (fun i => (i.zero, i.size, i.bytes)) = some (some (.slice none 0 0), 1, 24) := by kernel_rfl
/-- append(words, row): the row is a slice that is owned, apart from the others. -/
theorem wpList_appRow {base : Nat} {v : Value} {n : Nat} {vs : List Value} {Z : Nat → List Int} (w : World) {ops : Array Oper} {rest : List Oper} {o : Oper} {a : Act} {Q : Exit → Act → World → Prop} (hgd : o.guard = none) (s x : Operand)
    (ho : o.op = .call { callee := .builtin .append, args := #[s, x], argTypes := #[65, 65] })
    (hs : a.eval s = v) (h : Mat w base v n vs Z) (u : Value) (zs : List Int) (hu : Own w base 2 .i64 u zs) (hl : ∀ b, u.ownBlock = some b → (∀ (j : Nat) (t : Value), vs[j]? = some t → t.ownBlock ≠ some b) ∧ v.ownBlock ≠ some b)
    (hx : a.eval x = .slice (some ⟨w.heap.size, 0, none⟩) 1 1) (hlen : (n + 1) * 24 ≤ 140737488355328) (hbase : base ≤ w.heap.size)
    (hk : ∀ v' w', Mat w' base v' (n + 1) (vs ++ [u]) (fun i => if i = n then zs else Z i) → w.grownBy w' v.ownBlock → wpList Tryz.prog ops Q rest (a.put o.dst v') w') : wpList Tryz.prog ops Q (o :: rest) a (w.alloc (.cells #[u] 28)) := by
  obtain ⟨i, hi, hz0, hz1, hz2⟩ := info_parts elemSS
  have hun : Tryz.prog.underlying 65 = some (.slice 28) := Tryz.underlying65
  refine wpList_append_lies (w := w.alloc (.cells #[u] 28)) hgd s x 65 ho base 28 i (.slice none 0 0) 1 24 hun hi hz0 hz1 hz2 rfl (by decide) v n vs hs (h.row.alloc _) ⟨w.heap.size, 0, none⟩ 1 1 [u] hx rfl (fun j t ht => ?_) (fun t ht => ?_) (by decide) (by simp only [maxLen]; omega) hlen (by rw [alloc_size]; omega) (w.heap.size + 1) (alloc_size _ _) fun b cap w' h2 h3 h4 _ => ?_
  · have hj : j = 0 := by
      have := (List.getElem?_eq_some_iff.1 ht).1
      simp at this; exact this
    subst hj
    simp only [List.getElem?_cons_zero, Option.some.injEq] at ht
    subst ht
    rw [addr_add, World.cell?_alloc_at _ _ _ _ rfl]; rfl
  · rw [List.mem_singleton] at ht
    subst ht
    obtain ⟨A, c, rfl, _⟩ := hu.form
    rfl
  · have hg := grown_trans (World.grownBy_alloc w _ _) h3
    have hvu : ∀ b', u.ownBlock = some b' → v.ownBlock ≠ some b' := fun b' e => (hl b' e).2
    have hu2 := hu.grown hg (by
      rcases hub : u.ownBlock with _ | b'
      · exact .inl rfl
      · exact .inr fun e => hvu b' hub e.symm)
    have hr2 := (h.rows.grown hg fun k t ht => (h.out k t ht).1).snoc hu2 fun b' e => (hl b' e).1
    have hlen' := h.len
    rw [hlen'] at hr2
    refine hk _ w' ⟨h2, hr2, fun k t ht => ?_⟩ hg
    have hall : ∀ g', t.ownBlock = some g' → v.ownBlock ≠ some g' ∧ g' < w.heap.size := by
      intro g' hg'
      rcases Nat.lt_or_ge k vs.length with hkl | hkl
      · rw [List.getElem?_append_left hkl] at ht
        refine ⟨fun e => ?_, (h.rows.lt ht hg').2⟩
        rcases (h.out k t ht).1 with h5 | h5
        · rw [h5] at hg'; cases hg'
        · exact h5 (by rw [hg', e])
      · have hke : k = vs.length := by
          have := (List.getElem?_eq_some_iff.1 ht).1
          simp at this; omega
        subst hke
        rw [List.getElem?_concat_length] at ht
        injection ht with ht
        subst ht
        exact ⟨hvu g' hg', (hu.lt hg').2⟩
    have hne : t.ownBlock ≠ some b := by
      intro e
      obtain ⟨h5, h6⟩ := hall b e
      rcases h4 with h7 | h7
      · exact h5 h7
      · omega
    exact ⟨.inr hne, .inr fun e => hne e.symm⟩
end Go.Proofs.YtlphodhecaagbaaGreat
