/-
  A slice of slices of strings, each row in a block of its own: what reads, grows and writes of it keep.
  Condition: none.
-/
import Derived.Test.YthbmfaogjaahoaaProg
import Derived.Test.YthbmfaogjaahoaaWords
import Derived.Test.YthbmfaogjaahoaaBox
import Derived.Test.YthbmfaogjaahoaaTail2
import Derived.Deep.AppendLies
namespace Go.Proofs.Ythbmfaogjaahoaa
open Go Go.RowKit
set_option linter.unusedSimpArgs false
set_option linter.unusedVariables false

/-- A slice of strings that is owned. -/
def OwnT (w : World) (base : Nat) (v : Value) (ts : List ByteArray) : Prop := w.ownsRow base 9 1 v ts.length (ts.map Value.string)
section
variable {w w' : World} {base : Nat} {v : Value} {ts : List ByteArray}
theorem OwnT.lt (h : OwnT w base v ts) {g : Nat} (hg : v.ownBlock = some g) : base ≤ g ∧ g < w.heap.size := World.ownsRow.lt h g hg
theorem OwnT.form (h : OwnT w base v ts) : ∃ A c, v = .slice A ts.length c ∧ ts.length ≤ c := by
  rcases h.2 with ⟨rfl, h0⟩ | ⟨g, cap, cur, hv, hb, hg, hnc, hm, hs, ht⟩
  · exact ⟨none, 0, by rw [h0], by omega⟩
  · exact ⟨_, cap, hv, hnc⟩
theorem OwnT.grown {row : Option Nat} (h : OwnT w base v ts) (hg : w.grownBy w' row) (hne : v.ownBlock = none ∨ v.ownBlock ≠ row) : OwnT w' base v ts := World.ownsRow.kept h hg hne
theorem OwnT.below {B : Nat} (h : OwnT w base v ts) (hb : Below B w w') (hB : w.heap.size ≤ B) : OwnT w' base v ts := by
  refine h.grown (row := none) ⟨hb.os, hb.tape, hb.output, hb.size, fun i hi _ => hb.block i (by omega)⟩ ?_
  rcases hv : v.ownBlock with _ | g
  · exact .inl rfl
  · exact .inr (by simp)
theorem OwnT.alloc (h : OwnT w base v ts) (o : Obj) : OwnT (w.alloc o) base v ts := World.ownsRow.alloc h o
theorem OwnT.drew (h : OwnT w base v ts) : OwnT w.drew base v ts := h
theorem OwnT.drewN (h : OwnT w base v ts) (m : Nat) : OwnT (w.drewN m) base v ts := h
theorem OwnT.nil (w : World) (base : Nat) : OwnT w base (.slice none 0 0) [] := World.ownsRow_nil _ _ _ _
theorem OwnT.at_ {g n c k : Nat} {s : ByteArray} (h : OwnT w base (.slice (some ⟨g, 0, none⟩) n c) ts) (hk : ts[k]? = some s) : w.cell? ⟨g, k, none⟩ = some (.string s) := by
  have hkl : k < ts.length := (List.getElem?_eq_some_iff.1 hk).1
  have hn : ts.length = n := by obtain ⟨A, c', e, _⟩ := h.form; simp only [Value.slice.injEq] at e; exact e.2.1.symm
  subst hn
  rw [World.ownsRow.cellAt h k (by simpa using hkl), List.getElem?_map, hk]; rfl
theorem OwnT.some_ (h : OwnT w base v ts) (hp : 0 < ts.length) : ∃ g c, v = .slice (some ⟨g, 0, none⟩) ts.length c ∧ base ≤ g ∧ g < w.heap.size ∧ ts.length ≤ c := by
  rcases h.2 with ⟨_, h0⟩ | ⟨g, cap, cur, hv, hb, hg, hnc, _⟩
  · omega
  · exact ⟨g, cap, hv, hb, (Array.getElem?_eq_some_iff.1 hg).1, hnc⟩
end
theorem elemT : (Try.prog.info? 9).map (fun i => (i.zero, i.size, i.bytes)) = some (some (.string ⟨#[]⟩), 1, 16) := by kernel_rfl
theorem elemTT : (Try.prog.info? 81).map (fun i => (i.zero, i.size, i.bytes)) = some (some (.slice none 0 0), 1, 24) := by kernel_rfl
/-- append(row, y), where the one string lies in a new block of its own. -/
theorem wp_appT {base : Nat} {v : Value} {ts : List ByteArray} (w : World) {o : Oper} {a : Act} {K : Act → World → Prop} {Q : Exit → Act → World → Prop} (s x : Operand)
    (ho : o.op = .call { callee := .builtin .append, args := #[s, x], argTypes := #[81, 81] })
    (hs : a.eval s = v) (h : OwnT w base v ts) (y : ByteArray) (hx : a.eval x = .slice (some ⟨w.heap.size, 0, none⟩) 1 1) (hlen : (ts.length + 1) * 16 ≤ 140737488355328) (hbase : base ≤ w.heap.size)
    (hk : ∀ u w', OwnT w' base u (ts ++ [y]) → w.grownBy w' v.ownBlock → (u.ownBlock = none ∨ u.ownBlock = v.ownBlock ∨ ∃ b, u.ownBlock = some b ∧ w.heap.size ≤ b) → K (a.put o.dst u) w') : Oper.wp Try.prog o a (w.alloc (.cells #[.string y] 9)) K Q := by
  obtain ⟨i, hi, hz0, hz1, hz2⟩ := info_parts elemT
  have hun : Try.prog.underlying 81 = some (.slice 9) := Try.underlying81
  refine wp_append_lies (w.alloc (.cells #[.string y] 9)) s x 81 ho base 9 i (.string ⟨#[]⟩) 1 16 hun hi hz0 hz1 hz2 rfl (by decide) v ts.length (ts.map Value.string) hs (h.alloc _) ⟨w.heap.size, 0, none⟩ 1 1 [.string y] hx rfl (fun j t ht => ?_) (fun t ht => ?_) (by decide) (by simp only [maxLen]; omega) hlen (by rw [alloc_size]; omega) (w.heap.size + 1) (alloc_size _ _) fun g cap w' h2 h3 h4 _ => ?_
  · match j, ht with
    | 0, ht =>
      simp only [List.getElem?_cons_zero, Option.some.injEq] at ht
      subst ht
      exact cell_of_row (w.alloc (.cells #[.string y] 9)) w.heap.size 0 _ _ _ (heap_alloc_new w _)
  · rw [List.mem_singleton.1 ht]; rfl
  · refine hk _ w' ?_ (grown_trans (World.grownBy_alloc w _ _) h3) ?_
    · unfold OwnT
      rw [List.length_append, List.length_singleton, List.map_append, List.map_singleton]
      exact h2
    · rcases h4 with h4 | h4
      · exact .inr (.inl h4.symm)
      · exact .inr (.inr ⟨_, rfl, by show w.heap.size ≤ g; omega⟩)

/-- Slices that are owned, each in a block of its own, none in the blocks 'no' speaks of. -/
structure RowT (w : World) (base : Nat) (vs : List Value) (Z : Nat → List ByteArray) : Prop where
  own : ∀ (k : Nat) (v : Value), vs[k]? = some v → OwnT w base v (Z k)
  dis : ∀ (j k : Nat) (u v : Value), vs[j]? = some u → vs[k]? = some v → j ≠ k → u.ownBlock = none ∨ u.ownBlock ≠ v.ownBlock
section
variable {w w' : World} {base : Nat} {vs : List Value} {Z : Nat → List ByteArray}
theorem RowT.grown {row : Option Nat} (h : RowT w base vs Z) (hg : w.grownBy w' row) (hne : ∀ (k : Nat) (v : Value), vs[k]? = some v → v.ownBlock = none ∨ v.ownBlock ≠ row) : RowT w' base vs Z :=
  ⟨fun k v hv => (h.own k v hv).grown hg (hne k v hv), h.dis⟩
theorem RowT.below (h : RowT w base vs Z) {B : Nat} (hb : Below B w w') (hB : w.heap.size ≤ B) : RowT w' base vs Z := ⟨fun k v hv => (h.own k v hv).below hb hB, h.dis⟩
theorem RowT.next (h : RowT w base vs Z) (hb : Below w.heap.size w w') : RowT w' base vs Z := h.below hb (Nat.le_refl _)
theorem RowT.alloc (h : RowT w base vs Z) (o : Obj) : RowT (w.alloc o) base vs Z := h.next ((Below.refl _ _).alloc (Nat.le_refl _) o)
theorem RowT.drew (h : RowT w base vs Z) : RowT w.drew base vs Z := ⟨h.own, h.dis⟩
theorem RowT.drewN (h : RowT w base vs Z) (n : Nat) : RowT (w.drewN n) base vs Z := ⟨fun k v hv => (h.own k v hv).drewN n, h.dis⟩
theorem RowT.congr {Y : Nat → List ByteArray} (h : RowT w base vs Z) (hy : ∀ k, k < vs.length → Y k = Z k) : RowT w base vs Y :=
  ⟨fun k v hv => by rw [hy k (List.getElem?_eq_some_iff.1 hv).1]; exact h.own k v hv, h.dis⟩
theorem RowT.nil (w : World) (base : Nat) (Z : Nat → List ByteArray) : RowT w base [] Z := ⟨fun k v hv => by simp at hv, fun j k u v hu => by simp at hu⟩
/-- The row k is replaced by another slice, in another world in which nothing but the row k's block has changed. -/
theorem RowT.put {k : Nat} {u v : Value} {zs : List ByteArray} (h : RowT w base vs Z) (hv : vs[k]? = some v) (hg : w.grownBy w' v.ownBlock) (hu : OwnT w' base u zs)
    (hl : u.ownBlock = none ∨ u.ownBlock = v.ownBlock ∨ ∃ b, u.ownBlock = some b ∧ w.heap.size ≤ b) : RowT w' base (vs.set k u) (fun i => if i = k then zs else Z i) := by
  have hk : k < vs.length := (List.getElem?_eq_some_iff.1 hv).1
  have hlow : ∀ (j : Nat) (t : Value), vs[j]? = some t → j ≠ k → (t.ownBlock = none ∨ t.ownBlock ≠ u.ownBlock) ∧ (u.ownBlock = none ∨ u.ownBlock ≠ t.ownBlock) := by
    intro j t ht hj
    have h1 := h.dis j k t v ht hv hj
    have h2 := h.dis k j v t hv ht (Ne.symm hj)
    rcases hl with h3 | h3 | ⟨b, h3, h4⟩
    · exact ⟨by rw [h3]; rcases ht' : t.ownBlock with _ | g <;> simp, .inl h3⟩
    · rw [h3]; exact ⟨h1, h2⟩
    · have h5 : ∀ g, t.ownBlock = some g → g < w.heap.size := fun g hg' => ((h.own j t ht).lt hg').2
      rw [h3]
      refine ⟨?_, .inr fun e => ?_⟩
      · rcases ht' : t.ownBlock with _ | g
        · exact .inl rfl
        · refine .inr fun e => ?_
          injection e with e
          have := h5 g ht'
          omega
      · have := h5 b e.symm
        omega
  refine ⟨fun j t ht => ?_, fun i j s t hs ht hij => ?_⟩
  · by_cases hj : j = k
    · subst hj
      rw [List.getElem?_set_self hk] at ht
      injection ht with ht
      subst ht
      simpa using hu
    · rw [List.getElem?_set_ne (Ne.symm hj)] at ht
      simp only [hj, if_false]
      refine (h.own j t ht).grown hg ?_
      have := h.dis j k t v ht hv hj
      exact this
  · by_cases hi : i = k
    · subst hi
      rw [List.getElem?_set_self hk] at hs
      injection hs with hs
      subst hs
      rw [List.getElem?_set_ne hij] at ht
      exact (hlow j t ht (Ne.symm hij)).2
    · rw [List.getElem?_set_ne (Ne.symm hi)] at hs
      by_cases hj : j = k
      · subst hj
        rw [List.getElem?_set_self hk] at ht
        injection ht with ht
        subst ht
        exact (hlow i s hs hi).1
      · rw [List.getElem?_set_ne (Ne.symm hj)] at ht
        exact h.dis i j s t hs ht hij
/-- One row more. -/
theorem RowT.snoc {u : Value} {zs : List ByteArray} (h : RowT w base vs Z) (hu : OwnT w base u zs) (hl : ∀ b, u.ownBlock = some b → ∀ (j : Nat) (t : Value), vs[j]? = some t → t.ownBlock ≠ some b) : RowT w base (vs ++ [u]) (fun i => if i = vs.length then zs else Z i) := by
  have hlast : ∀ (j : Nat) (t : Value), (vs ++ [u])[j]? = some t → (j < vs.length ∧ vs[j]? = some t) ∨ (j = vs.length ∧ t = u) := by
    intro j t ht
    rcases Nat.lt_trichotomy j vs.length with h1 | h1 | h1
    · rw [List.getElem?_append_left h1] at ht; exact .inl ⟨h1, ht⟩
    · subst h1
      rw [List.getElem?_concat_length] at ht
      injection ht with ht
      exact .inr ⟨rfl, ht.symm⟩
    · rw [List.getElem?_eq_none (by simp; omega)] at ht; cases ht
  have hne : ∀ (j : Nat) (t : Value), vs[j]? = some t → (t.ownBlock = none ∨ t.ownBlock ≠ u.ownBlock) ∧ (u.ownBlock = none ∨ u.ownBlock ≠ t.ownBlock) := by
    intro j t ht
    rcases hu' : u.ownBlock with _ | b
    · exact ⟨by rcases t.ownBlock with _ | g <;> simp, .inl rfl⟩
    · have := hl b hu' j t ht
      exact ⟨.inr this, .inr fun e => this e.symm⟩
  refine ⟨fun j t ht => ?_, fun i j s t hs ht hij => ?_⟩
  · rcases hlast j t ht with ⟨h1, h2⟩ | ⟨h1, h2⟩
    · simp only [show j ≠ vs.length by omega, if_false]; exact h.own j t h2
    · subst h1 h2; simpa using hu
  · rcases hlast i s hs with ⟨h1, h2⟩ | ⟨h1, h2⟩ <;> rcases hlast j t ht with ⟨h3, h4⟩ | ⟨h3, h4⟩
    · exact h.dis i j s t h2 h4 hij
    · subst h4; exact (hne i s h2).1
    · subst h2; exact (hne j t h4).2
    · omega
theorem RowT.lt (h : RowT w base vs Z) {k g : Nat} {v : Value} (hv : vs[k]? = some v) (hb : v.ownBlock = some g) : base ≤ g ∧ g < w.heap.size := (h.own k v hv).lt hb
end

/-- A slice of slices. -/
structure MatT (w : World) (base : Nat) (v : Value) (n : Nat) (vs : List Value) (Z : Nat → List ByteArray) : Prop where
  row : w.ownsRow base 81 1 v n vs
  rows : RowT w base vs Z
  out : ∀ (k : Nat) (u : Value), vs[k]? = some u → (u.ownBlock = none ∨ u.ownBlock ≠ v.ownBlock) ∧ (v.ownBlock = none ∨ v.ownBlock ≠ u.ownBlock)
section
variable {w w' : World} {base n : Nat} {v : Value} {vs : List Value} {Z : Nat → List ByteArray}
theorem MatT.len (h : MatT w base v n vs Z) : vs.length = n := by have := h.row.1; omega
theorem MatT.grown {row : Option Nat} (h : MatT w base v n vs Z) (hg : w.grownBy w' row) (hv : v.ownBlock = none ∨ v.ownBlock ≠ row) (hne : ∀ (k : Nat) (v : Value), vs[k]? = some v → v.ownBlock = none ∨ v.ownBlock ≠ row) : MatT w' base v n vs Z :=
  ⟨World.ownsRow.kept h.row hg hv, h.rows.grown hg hne, h.out⟩
theorem MatT.below (h : MatT w base v n vs Z) {B : Nat} (hb : Below B w w') (hB : w.heap.size ≤ B) : MatT w' base v n vs Z :=
  h.grown (row := none) ⟨hb.os, hb.tape, hb.output, hb.size, fun i hi _ => hb.block i (by omega)⟩ (by rcases v.ownBlock with _ | g <;> simp) (fun k u _ => by rcases u.ownBlock with _ | g <;> simp)
theorem MatT.next (h : MatT w base v n vs Z) (hb : Below w.heap.size w w') : MatT w' base v n vs Z := h.below hb (Nat.le_refl _)
theorem MatT.alloc (h : MatT w base v n vs Z) (o : Obj) : MatT (w.alloc o) base v n vs Z := h.next ((Below.refl _ _).alloc (Nat.le_refl _) o)
theorem MatT.drew (h : MatT w base v n vs Z) : MatT w.drew base v n vs Z := ⟨h.row, h.rows.drew, h.out⟩
theorem MatT.drewN (h : MatT w base v n vs Z) (m : Nat) : MatT (w.drewN m) base v n vs Z := ⟨h.row, h.rows.drewN m, h.out⟩
theorem MatT.congr {Y : Nat → List ByteArray} (h : MatT w base v n vs Z) (hy : ∀ k, k < n → Y k = Z k) : MatT w base v n vs Y := ⟨h.row, h.rows.congr fun k hk => hy k (by rw [← h.len]; exact hk), h.out⟩
/-- A block that lies apart from all of it. -/
theorem MatT.apart {g : Nat} (h : MatT w base v n vs Z) (hg : g < base ∨ w.heap.size ≤ g) : (v.ownBlock = none ∨ v.ownBlock ≠ some g) ∧ ∀ (k : Nat) (u : Value), vs[k]? = some u → u.ownBlock = none ∨ u.ownBlock ≠ some g :=
  ⟨.inr fun e => by have := World.ownsRow.lt h.row g e; omega, fun k u hu => .inr fun e => by have := h.rows.lt hu e; omega⟩
theorem MatT.set_other {g : Nat} (h : MatT w base v n vs Z) (hg : g < base ∨ w.heap.size ≤ g) (j : Nat) (u : Value) : MatT (w.setCell ⟨g, j, none⟩ u) base v n vs Z :=
  h.grown (row := some g) ⟨rfl, rfl, rfl, by simp, fun k _ hk => heap_setCell_other w ⟨g, j, none⟩ k u (fun e => hk (by simp [e]))⟩ (h.apart hg).1 (h.apart hg).2
/-- The form of it when it has a row. -/
theorem MatT.form (h : MatT w base v n vs Z) (hn : 0 < n) : ∃ g c, v = .slice (some ⟨g, 0, none⟩) n c ∧ base ≤ g ∧ g < w.heap.size ∧ n ≤ c := by
  rcases h.row.2 with ⟨_, h0⟩ | ⟨g, cap, cur, hv, hb, hg, hnc, _⟩
  · omega
  · exact ⟨g, cap, hv, hb, (Array.getElem?_eq_some_iff.1 hg).1, hnc⟩
theorem MatT.form0 (h : MatT w base v n vs Z) : ∃ A c, v = .slice A n c ∧ n ≤ c := by
  rcases h.row.2 with ⟨rfl, rfl⟩ | ⟨g, cap, cur, hv, hb, hg, hnc, _⟩
  · exact ⟨none, 0, rfl, Nat.le_refl _⟩
  · exact ⟨_, cap, hv, hnc⟩
/-- A row's slice, read. -/
theorem MatT.at_ {g c k : Nat} (h : MatT w base (.slice (some ⟨g, 0, none⟩) n c) n vs Z) (hk : k < n) : ∃ (A : Option Addr) (m : Nat), vs[k]? = some (.slice A (Z k).length m) ∧ w.cell? ⟨g, k, none⟩ = some (.slice A (Z k).length m) ∧ OwnT w base (.slice A (Z k).length m) (Z k) ∧ (Z k).length ≤ m := by
  have hkl : k < vs.length := by rw [h.len]; exact hk
  obtain ⟨A, m, hu, hm⟩ := (h.rows.own k _ (List.getElem?_eq_getElem hkl)).form
  have hv : vs[k]? = some (.slice A (Z k).length m) := by rw [← hu]; exact List.getElem?_eq_getElem hkl
  exact ⟨A, m, hv, by rw [World.ownsRow.cellAt h.row k (by omega)]; exact hv, h.rows.own k _ hv, hm⟩
theorem MatT.frozen {g c : Nat} (h : MatT w base (.slice (some ⟨g, 0, none⟩) n c) n vs Z) (k : Nat) : w.frozen? ⟨g, k, none⟩ = false := World.ownsRow.frozenAt h.row k
/-- A row is replaced: first what the row itself has become, then the store into the slice. -/
theorem MatT.put {g c k : Nat} {u t : Value} {zs : List ByteArray} (h : MatT w base (.slice (some ⟨g, 0, none⟩) n c) n vs Z) (ht : vs[k]? = some t) (hg : w.grownBy w' t.ownBlock) (hu : OwnT w' base u zs)
    (hl : u.ownBlock = none ∨ u.ownBlock = t.ownBlock ∨ ∃ b, u.ownBlock = some b ∧ w.heap.size ≤ b) :
    MatT (w'.setCell ⟨g, k, none⟩ u) base (.slice (some ⟨g, 0, none⟩) n c) n (vs.set k u) (fun i => if i = k then zs else Z i) ∧ w'.grownBy (w'.setCell ⟨g, k, none⟩ u) (some g) := by
  have hgl := World.ownsRow.lt h.row g rfl
  have ho := h.out k t ht
  have hrow := World.ownsRow.kept h.row hg (by rcases ho.2 with h1 | h1; exact .inl h1; exact .inr h1)
  obtain ⟨hs, hgg⟩ := World.ownsRow.stored hrow k u
  have hrz := h.rows.put ht hg hu hl
  have hk : k < vs.length := (List.getElem?_eq_some_iff.1 ht).1
  have hug : u.ownBlock ≠ some g := by
    intro e
    rcases hl with h1 | h1 | ⟨b, h1, h2⟩
    · rw [h1] at e; cases e
    · rw [h1] at e
      rcases ho.1 with h3 | h3
      · rw [h3] at e; cases e
      · exact h3 e
    · rw [h1] at e; injection e with e; omega
  have hout : ∀ (i : Nat) (s : Value), (vs.set k u)[i]? = some s → s.ownBlock ≠ some g := by
    intro i s hs'
    by_cases hi : i = k
    · subst hi
      rw [List.getElem?_set_self hk] at hs'
      injection hs' with hs'
      subst hs'; exact hug
    · rw [List.getElem?_set_ne (Ne.symm hi)] at hs'
      rcases (h.out i s hs').1 with h1 | h1
      · rw [h1]; simp
      · exact h1
  exact ⟨⟨hs, hrz.grown hgg fun i s hs' => .inr (hout i s hs'), fun i s hs' => ⟨.inr (hout i s hs'), .inr fun e => hout i s hs' e.symm⟩⟩, hgg⟩
end

/-- make([][]string, n). -/
theorem make_matT (w : World) (n : Nat) (hn : n ≤ 1000) :
    ∃ w1, (Instr.makeSlice 87 (.int .i64 n) (.int .i64 n)).run Try.prog w = .ok (.slice (some ⟨w.heap.size, 0, none⟩) n n) w1 ∧ MatT w1 w.heap.size (.slice (some ⟨w.heap.size, 0, none⟩) n n) n (List.replicate n (.slice none 0 0)) (fun _ => []) ∧ Below w.heap.size w w1 := by
  obtain ⟨ti, hi, hz0, hz1, hz2⟩ := info_parts elemTT
  obtain ⟨w1, hrun, ho, hg⟩ := run_make_full (P := Try.prog) w w.heap.size 87 81 ti _ 1 Try.underlying87 hi hz0 hz1 .i64 .i64 n (by rw [hz2]; omega) (by simp only [maxLen]; omega) (by omega)
  have hrep : ∀ (k : Nat) (v : Value), (List.replicate n (Value.slice none 0 0))[k]? = some v → v = .slice none 0 0 := fun k v hv => by
    rw [List.getElem?_replicate] at hv
    split at hv
    · cases hv; rfl
    · cases hv
  refine ⟨w1, hrun, ⟨?_, ⟨fun k v hv => ?_, fun j k u v hu hv _ => ?_⟩, fun k u hu => ?_⟩, (Below.refl w.heap.size w).grown hg (Nat.le_refl _) (by simp)⟩
  · rw [show (List.replicate n (Value.slice none 0 0)) = (madeCells (Value.cells (.slice none 0 0)) (n * 1)).toList from ?_]
    · exact ho
    · rw [Nat.mul_one]; exact (toList_madeCells_one _ n).symm
  · rw [hrep k v hv]; exact OwnT.nil _ _
  · rw [hrep j u hu]; exact .inl rfl
  · rw [hrep k u hu]; exact ⟨.inl rfl, .inr (by simp [Value.ownBlock])⟩
end Go.Proofs.Ythbmfaogjaahoaa
