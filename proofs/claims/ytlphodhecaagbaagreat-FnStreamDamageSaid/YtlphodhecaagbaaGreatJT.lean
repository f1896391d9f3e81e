/-
  An array of slices of integers, each slice in a block of its own: what reads, grows and writes of it keep.
  The erasures of the words of a stream: the program's erasuresOf.
  Condition: as each statement says.
-/
import Derived.Test.YtlphodhecaagbaaGreatLay9
import Derived.Test.YtlphodhecaagbaaGreatLSpr
import Derived.Test.YtlphodhecaagbaaGreatLayE
namespace Go.Proofs.YtlphodhecaagbaaGreat
open Go.RowKit
set_option linter.unusedSimpArgs false
set_option linter.unusedVariables false

/-- An array of slices, as a slice of its block. -/
structure Arr (w : World) (base : Nat) (v : Value) (n : Nat) (vs : List Value) (Z : Nat → List Int) : Prop where
  row : w.ownsRow base 104 1 v n vs
  rows : Rowz w base vs Z
  out : ∀ (k : Nat) (u : Value), vs[k]? = some u → (u.ownBlock = none ∨ u.ownBlock ≠ v.ownBlock) ∧ (v.ownBlock = none ∨ v.ownBlock ≠ u.ownBlock)
section
variable {w w' : World} {base n : Nat} {v : Value} {vs : List Value} {Z : Nat → List Int}
theorem Arr.len (h : Arr w base v n vs Z) : vs.length = n := by have := h.row.1; omega
theorem Arr.grown {row : Option Nat} (h : Arr w base v n vs Z) (hg : w.grownBy w' row) (hv : v.ownBlock = none ∨ v.ownBlock ≠ row) (hne : ∀ (k : Nat) (v : Value), vs[k]? = some v → v.ownBlock = none ∨ v.ownBlock ≠ row) : Arr w' base v n vs Z :=
  ⟨World.ownsRow.kept h.row hg hv, h.rows.grown hg hne, h.out⟩
theorem Arr.below (h : Arr w base v n vs Z) {B : Nat} (hb : Below B w w') (hB : w.heap.size ≤ B) : Arr w' base v n vs Z :=
  h.grown (row := none) ⟨hb.os, hb.tape, hb.output, hb.size, fun i hi _ => hb.block i (by omega)⟩ (by rcases v.ownBlock with _ | g <;> simp) (fun k u _ => by rcases u.ownBlock with _ | g <;> simp)
theorem Arr.next (h : Arr w base v n vs Z) (hb : Below w.heap.size w w') : Arr w' base v n vs Z := h.below hb (Nat.le_refl _)
theorem Arr.alloc (h : Arr w base v n vs Z) (o : Obj) : Arr (w.alloc o) base v n vs Z := h.next ((Below.refl _ _).alloc (Nat.le_refl _) o)
theorem Arr.drew (h : Arr w base v n vs Z) : Arr w.drew base v n vs Z := ⟨h.row, h.rows.drew, h.out⟩
theorem Arr.drewN (h : Arr w base v n vs Z) (m : Nat) : Arr (w.drewN m) base v n vs Z := ⟨h.row, h.rows.drewN m, h.out⟩
theorem Arr.congr {Y : Nat → List Int} (h : Arr w base v n vs Z) (hy : ∀ k, k < n → Y k = Z k) : Arr w base v n vs Y := ⟨h.row, h.rows.congr fun k hk => hy k (by rw [← h.len]; exact hk), h.out⟩
/-- A block that lies apart from all of it. -/
theorem Arr.apart {g : Nat} (h : Arr w base v n vs Z) (hg : g < base ∨ w.heap.size ≤ g) : (v.ownBlock = none ∨ v.ownBlock ≠ some g) ∧ ∀ (k : Nat) (u : Value), vs[k]? = some u → u.ownBlock = none ∨ u.ownBlock ≠ some g :=
  ⟨.inr fun e => by have := World.ownsRow.lt h.row g e; omega, fun k u hu => .inr fun e => by have := h.rows.lt hu e; omega⟩
theorem Arr.set_other {g : Nat} (h : Arr w base v n vs Z) (hg : g < base ∨ w.heap.size ≤ g) (j : Nat) (u : Value) : Arr (w.setCell ⟨g, j, none⟩ u) base v n vs Z :=
  h.grown (row := some g) ⟨rfl, rfl, rfl, by simp, fun k _ hk => heap_setCell_other w ⟨g, j, none⟩ k u (fun e => hk (by simp [e]))⟩ (h.apart hg).1 (h.apart hg).2
/-- The form of it when it has a row. -/
theorem Arr.form (h : Arr w base v n vs Z) (hn : 0 < n) : ∃ g c, v = .slice (some ⟨g, 0, none⟩) n c ∧ base ≤ g ∧ g < w.heap.size ∧ n ≤ c := by
  rcases h.row.2 with ⟨_, h0⟩ | ⟨g, cap, cur, hv, hb, hg, hnc, _⟩
  · omega
  · exact ⟨g, cap, hv, hb, (Array.getElem?_eq_some_iff.1 hg).1, hnc⟩
theorem Arr.form0 (h : Arr w base v n vs Z) : ∃ A c, v = .slice A n c ∧ n ≤ c := by
  rcases h.row.2 with ⟨rfl, rfl⟩ | ⟨g, cap, cur, hv, hb, hg, hnc, _⟩
  · exact ⟨none, 0, rfl, Nat.le_refl _⟩
  · exact ⟨_, cap, hv, hnc⟩
/-- A row's slice, read. -/
theorem Arr.at_ {g c k : Nat} (h : Arr w base (.slice (some ⟨g, 0, none⟩) n c) n vs Z) (hk : k < n) : ∃ (A : Option Addr) (m : Nat), vs[k]? = some (.slice A (Z k).length m) ∧ w.cell? ⟨g, k, none⟩ = some (.slice A (Z k).length m) ∧ Own w base 2 .i64 (.slice A (Z k).length m) (Z k) ∧ (Z k).length ≤ m := by
  have hkl : k < vs.length := by rw [h.len]; exact hk
  obtain ⟨A, m, hu, hm⟩ := (h.rows.own k _ (List.getElem?_eq_getElem hkl)).form
  have hv : vs[k]? = some (.slice A (Z k).length m) := by rw [← hu]; exact List.getElem?_eq_getElem hkl
  exact ⟨A, m, hv, by rw [World.ownsRow.cellAt h.row k (by omega)]; exact hv, h.rows.own k _ hv, hm⟩
theorem Arr.frozen {g c : Nat} (h : Arr w base (.slice (some ⟨g, 0, none⟩) n c) n vs Z) (k : Nat) : w.frozen? ⟨g, k, none⟩ = false := World.ownsRow.frozenAt h.row k
/-- A row is replaced: first what the row itself has become, then the store into the slice. -/
theorem Arr.put {g c k : Nat} {u t : Value} {zs : List Int} (h : Arr w base (.slice (some ⟨g, 0, none⟩) n c) n vs Z) (ht : vs[k]? = some t) (hg : w.grownBy w' t.ownBlock) (hu : Own w' base 2 .i64 u zs)
    (hl : u.ownBlock = none ∨ u.ownBlock = t.ownBlock ∨ ∃ b, u.ownBlock = some b ∧ w.heap.size ≤ b) :
    Arr (w'.setCell ⟨g, k, none⟩ u) base (.slice (some ⟨g, 0, none⟩) n c) n (vs.set k u) (fun i => if i = k then zs else Z i) ∧ w'.grownBy (w'.setCell ⟨g, k, none⟩ u) (some g) := by
  have hgl := World.ownsRow.lt h.row g rfl
  have ho := h.out k t ht
  have hrow := World.ownsRow.kept h.row hg (by rcases ho.2 with h1 | h1; exact .inl h1; exact .inr h1)
  obtain ⟨hs, hgg⟩ := World.ownsRow.stored hrow k u
  have hrz := h.rows.put ht hg hu hl
  have hk : k < vs.length := (List.getElem?_eq_some_iff.1 ht).1
  have hug : u.ownBlock ≠ some g := by
    intro e
    rcases hl with h1 | h1 | ⟨b, h1, h2⟩
    · rw [h1] at e; cases e
    · rw [h1] at e
      rcases ho.1 with h3 | h3
      · rw [h3] at e; cases e
      · exact h3 e
    · rw [h1] at e; injection e with e; omega
  have hout : ∀ (i : Nat) (s : Value), (vs.set k u)[i]? = some s → s.ownBlock ≠ some g := by
    intro i s hs'
    by_cases hi : i = k
    · subst hi
      rw [List.getElem?_set_self hk] at hs'
      injection hs' with hs'
      subst hs'; exact hug
    · rw [List.getElem?_set_ne (Ne.symm hi)] at hs'
      rcases (h.out i s hs').1 with h1 | h1
      · rw [h1]; simp
      · exact h1
  exact ⟨⟨hs, hrz.grown hgg fun i s hs' => .inr (hout i s hs'), fun i s hs' => ⟨.inr (hout i s hs'), .inr fun e => hout i s hs' e.symm⟩⟩, hgg⟩
/-- An integer is stored into a row. -/
theorem Arr.write {g c k b m : Nat} (h : Arr w base (.slice (some ⟨g, 0, none⟩) n c) n vs Z) (ht : vs[k]? = some (.slice (some ⟨b, 0, none⟩) (Z k).length m)) (j : Nat) (x : Int) :
    Arr (w.setCell ⟨b, j, none⟩ (.int .i64 x)) base (.slice (some ⟨g, 0, none⟩) n c) n vs (fun i => if i = k then (Z k).set j x else Z i) ∧ w.grownBy (w.setCell ⟨b, j, none⟩ (.int .i64 x)) (some b) := by
  obtain ⟨h1, h2⟩ := (h.rows.own k _ ht).stored j x
  refine ⟨⟨World.ownsRow.kept h.row h2 (h.out k _ ht).2, ?_, h.out⟩, h2⟩
  have hk : k < vs.length := (List.getElem?_eq_some_iff.1 ht).1
  have h3 := h.rows.put ht h2 (u := .slice (some ⟨b, 0, none⟩) (Z k).length m) (zs := (Z k).set j x) h1 (.inr (.inl rfl))
  have h4 : vs.set k (.slice (some ⟨b, 0, none⟩) (Z k).length m) = vs := by
    rw [List.getElem?_eq_some_iff] at ht
    obtain ⟨hh, e⟩ := ht
    rw [← e]; exact List.set_getElem_self hh
  rw [h4] at h3
  exact h3
end


theorem Turn.arr {B : Nat} {W W' : World} {base n : Nat} {v : Value} {vs : List Value} {Z : Nat → List Int} (h : Turn B W W') (hm : Arr W base v n vs Z) : Arr W' base v n vs Z :=
  ⟨h.owns hm.row, ⟨fun k u hu => h.own (hm.rows.own k u hu), hm.rows.dis⟩, hm.out⟩
theorem Arr.low {w : World} {base base' : Nat} {v : Value} {n : Nat} {vs : List Value} {Z : Nat → List Int} (h : Arr w base v n vs Z) (hb : base' ≤ base) : Arr w base' v n vs Z :=
  ⟨World.ownsRow.mono h.row hb, ⟨fun k u hu => World.ownsRow.mono (h.rows.own k u hu) hb, h.rows.dis⟩, h.out⟩
end Go.Proofs.YtlphodhecaagbaaGreat

namespace Go.Proofs.YtlphodhecaagbaaGreat
open Go Go.RowKit
set_option linter.unusedSimpArgs false
set_option linter.unusedVariables false
attribute [local go_sem] Oper.semAt_some

/-- The erasures that have come to a block. -/
def accE {N : Nat} (D C : Nat) (es : List Int) (pre : List (Fin N)) (k : Nat) : List Int := (pre.filter fun x => decide ((pairOf D C x.val).1 = k) && decide ((x.val : Int) ∈ es)).map fun x => ((pairOf D C x.val).2 : Int)
theorem accE_nil {N : Nat} (D C : Nat) (es : List Int) (k : Nat) : accE (N := N) D C es [] k = [] := rfl
theorem accE_yes {N D C : Nat} {es : List Int} {pre : List (Fin N)} {x : Fin N} {k : Nat} (h : (pairOf D C x.val).1 = k) (hx : (x.val : Int) ∈ es) : accE D C es (pre ++ [x]) k = accE D C es pre k ++ [((pairOf D C x.val).2 : Int)] := by
  unfold accE; rw [List.filter_append, List.map_append]; simp [h, hx]
theorem accE_no {N D C : Nat} {es : List Int} {pre : List (Fin N)} {x : Fin N} {k : Nat} (h : (pairOf D C x.val).1 ≠ k ∨ ¬ (x.val : Int) ∈ es) : accE D C es (pre ++ [x]) k = accE D C es pre k := by
  unfold accE; rw [List.filter_append, List.map_append]
  rcases h with h | h <;> simp [h]
theorem accE_len {N D C : Nat} (es : List Int) (pre : List (Fin N)) (k : Nat) : (accE D C es pre k).length ≤ pre.length := by
  unfold accE; rw [List.length_map]; exact List.length_filter_le _ _
theorem accE_all {D C K k : Nat} (hC : 0 < C) (hk : k < C) (es : List Int) : accE D C es (List.finRange (D + C * K)) k = nv (era D C K es k) := by
  have h1 : ((List.finRange (D + C * K)).filter fun x => decide ((pairOf D C x.val).1 = k) && decide ((x.val : Int) ∈ es)).map (fun x => x.val) = ((List.range (lsz D C k + K)).map (sidx D C k)).filter fun (i : Nat) => decide ((i : Int) ∈ es) := by
    rw [← ecnt_all (D := D) (K := K) hk, ← blk_filter hC hk, List.filter_filter, ← finRange_val, List.filter_map]
    congr 1
    refine List.filter_congr fun x _ => ?_
    simp only [Function.comp]
    rw [Bool.and_comm]
  unfold accE nv era
  rw [show (fun x : Fin (D + C * K) => ((pairOf D C x.val).2 : Int)) = (fun j : Nat => ((pairOf D C j).2 : Int)) ∘ (fun x : Fin (D + C * K) => x.val) from rfl, ← List.map_map, h1, List.filter_map, List.map_map]
  have h2 : ∀ l : List Nat, l.map ((fun j : Nat => ((pairOf D C j).2 : Int)) ∘ sidx D C k) = l.map (fun e : Nat => (e : Int)) := fun l => List.map_congr_left fun e _ => by
    simp only [Function.comp]; rw [pair_sidx hk]
  rw [h2]
  rfl
theorem accE_far {N D C : Nat} (hC : 0 < C) {k : Nat} (h : C ≤ k) (es : List Int) (pre : List (Fin N)) : accE D C es pre k = [] := by
  unfold accE
  have : (pre.filter fun x => decide ((pairOf D C x.val).1 = k) && decide ((x.val : Int) ∈ es)) = [] := List.filter_eq_nil_iff.2 fun a _ => by
    have := pair_lt (D := D) hC a.val
    simp; omega
  rw [this]; rfl
theorem arr_made (w : World) (base : Nat) (hb : base ≤ w.heap.size) : Arr (w.alloc (.cells #[.slice none 0 0, .slice none 0 0, .slice none 0 0, .slice none 0 0, .slice none 0 0, .slice none 0 0, .slice none 0 0, .slice none 0 0, .slice none 0 0, .slice none 0 0, .slice none 0 0, .slice none 0 0, .slice none 0 0, .slice none 0 0, .slice none 0 0, .slice none 0 0] 104)) base (.slice (some ⟨w.heap.size, 0, none⟩) 16 16) 16 (List.replicate 16 (.slice none 0 0)) (fun _ => []) := by
  have hz : ∀ (k : Nat) (u : Value), (List.replicate 16 (Value.slice none 0 0))[k]? = some u → u = .slice none 0 0 := by
    intro k u hu
    rw [List.getElem?_replicate] at hu
    split at hu
    · injection hu with hu; exact hu.symm
    · cases hu
  refine ⟨World.ownsRow_lit (base := base) (size := 1) w #[.slice none 0 0, .slice none 0 0, .slice none 0 0, .slice none 0 0, .slice none 0 0, .slice none 0 0, .slice none 0 0, .slice none 0 0, .slice none 0 0, .slice none 0 0, .slice none 0 0, .slice none 0 0, .slice none 0 0, .slice none 0 0, .slice none 0 0, .slice none 0 0] 16 hb (by decide) rfl, ⟨fun k u hu => ?_, fun j k u v hu hv _ => ?_⟩, fun k u hu => ?_⟩
  · rw [hz k u hu]; exact World.ownsRow_nil _ _ _ _
  · rw [hz j u hu]; exact .inl rfl
  · rw [hz k u hu]; exact ⟨.inl rfl, .inr (by simp [Value.ownBlock])⟩
/-- An array's sixteen slices are stored. -/
def set16 (w : World) (N : Nat) (v0 v1 v2 v3 v4 v5 v6 v7 v8 v9 v10 v11 v12 v13 v14 v15 : Value) : World := ((((((((((((((((w.setCell ⟨N, 0, none⟩ v0).setCell ⟨N, 1, none⟩ v1).setCell ⟨N, 2, none⟩ v2).setCell ⟨N, 3, none⟩ v3).setCell ⟨N, 4, none⟩ v4).setCell ⟨N, 5, none⟩ v5).setCell ⟨N, 6, none⟩ v6).setCell ⟨N, 7, none⟩ v7).setCell ⟨N, 8, none⟩ v8).setCell ⟨N, 9, none⟩ v9).setCell ⟨N, 10, none⟩ v10).setCell ⟨N, 11, none⟩ v11).setCell ⟨N, 12, none⟩ v12).setCell ⟨N, 13, none⟩ v13).setCell ⟨N, 14, none⟩ v14).setCell ⟨N, 15, none⟩ v15)
theorem row_set16 {w : World} {N : Nat} {u0 u1 u2 u3 u4 u5 u6 u7 u8 u9 u10 u11 u12 u13 u14 u15 : Value} {t : TypeId} (h : w.heap[N]? = some (.cells #[u0, u1, u2, u3, u4, u5, u6, u7, u8, u9, u10, u11, u12, u13, u14, u15] t (0, 0))) (v0 v1 v2 v3 v4 v5 v6 v7 v8 v9 v10 v11 v12 v13 v14 v15 : Value) : (set16 w N v0 v1 v2 v3 v4 v5 v6 v7 v8 v9 v10 v11 v12 v13 v14 v15).heap[N]? = some (.cells #[v0, v1, v2, v3, v4, v5, v6, v7, v8, v9, v10, v11, v12, v13, v14, v15] t (0, 0)) := by
  unfold set16
  have h0 : (w.setCell ⟨N, 0, none⟩ v0).heap[N]? = some (.cells #[v0, u1, u2, u3, u4, u5, u6, u7, u8, u9, u10, u11, u12, u13, u14, u15] t (0, 0)) := heap_setCell_same _ N 0 _ _ _ h
  have h1 : ((w.setCell ⟨N, 0, none⟩ v0).setCell ⟨N, 1, none⟩ v1).heap[N]? = some (.cells #[v0, v1, u2, u3, u4, u5, u6, u7, u8, u9, u10, u11, u12, u13, u14, u15] t (0, 0)) := heap_setCell_same _ N 1 _ _ _ h0
  have h2 : (((w.setCell ⟨N, 0, none⟩ v0).setCell ⟨N, 1, none⟩ v1).setCell ⟨N, 2, none⟩ v2).heap[N]? = some (.cells #[v0, v1, v2, u3, u4, u5, u6, u7, u8, u9, u10, u11, u12, u13, u14, u15] t (0, 0)) := heap_setCell_same _ N 2 _ _ _ h1
  have h3 : ((((w.setCell ⟨N, 0, none⟩ v0).setCell ⟨N, 1, none⟩ v1).setCell ⟨N, 2, none⟩ v2).setCell ⟨N, 3, none⟩ v3).heap[N]? = some (.cells #[v0, v1, v2, v3, u4, u5, u6, u7, u8, u9, u10, u11, u12, u13, u14, u15] t (0, 0)) := heap_setCell_same _ N 3 _ _ _ h2
  have h4 : (((((w.setCell ⟨N, 0, none⟩ v0).setCell ⟨N, 1, none⟩ v1).setCell ⟨N, 2, none⟩ v2).setCell ⟨N, 3, none⟩ v3).setCell ⟨N, 4, none⟩ v4).heap[N]? = some (.cells #[v0, v1, v2, v3, v4, u5, u6, u7, u8, u9, u10, u11, u12, u13, u14, u15] t (0, 0)) := heap_setCell_same _ N 4 _ _ _ h3
  have h5 : ((((((w.setCell ⟨N, 0, none⟩ v0).setCell ⟨N, 1, none⟩ v1).setCell ⟨N, 2, none⟩ v2).setCell ⟨N, 3, none⟩ v3).setCell ⟨N, 4, none⟩ v4).setCell ⟨N, 5, none⟩ v5).heap[N]? = some (.cells #[v0, v1, v2, v3, v4, v5, u6, u7, u8, u9, u10, u11, u12, u13, u14, u15] t (0, 0)) := heap_setCell_same _ N 5 _ _ _ h4
  have h6 : (((((((w.setCell ⟨N, 0, none⟩ v0).setCell ⟨N, 1, none⟩ v1).setCell ⟨N, 2, none⟩ v2).setCell ⟨N, 3, none⟩ v3).setCell ⟨N, 4, none⟩ v4).setCell ⟨N, 5, none⟩ v5).setCell ⟨N, 6, none⟩ v6).heap[N]? = some (.cells #[v0, v1, v2, v3, v4, v5, v6, u7, u8, u9, u10, u11, u12, u13, u14, u15] t (0, 0)) := heap_setCell_same _ N 6 _ _ _ h5
  have h7 : ((((((((w.setCell ⟨N, 0, none⟩ v0).setCell ⟨N, 1, none⟩ v1).setCell ⟨N, 2, none⟩ v2).setCell ⟨N, 3, none⟩ v3).setCell ⟨N, 4, none⟩ v4).setCell ⟨N, 5, none⟩ v5).setCell ⟨N, 6, none⟩ v6).setCell ⟨N, 7, none⟩ v7).heap[N]? = some (.cells #[v0, v1, v2, v3, v4, v5, v6, v7, u8, u9, u10, u11, u12, u13, u14, u15] t (0, 0)) := heap_setCell_same _ N 7 _ _ _ h6
  have h8 : (((((((((w.setCell ⟨N, 0, none⟩ v0).setCell ⟨N, 1, none⟩ v1).setCell ⟨N, 2, none⟩ v2).setCell ⟨N, 3, none⟩ v3).setCell ⟨N, 4, none⟩ v4).setCell ⟨N, 5, none⟩ v5).setCell ⟨N, 6, none⟩ v6).setCell ⟨N, 7, none⟩ v7).setCell ⟨N, 8, none⟩ v8).heap[N]? = some (.cells #[v0, v1, v2, v3, v4, v5, v6, v7, v8, u9, u10, u11, u12, u13, u14, u15] t (0, 0)) := heap_setCell_same _ N 8 _ _ _ h7
  have h9 : ((((((((((w.setCell ⟨N, 0, none⟩ v0).setCell ⟨N, 1, none⟩ v1).setCell ⟨N, 2, none⟩ v2).setCell ⟨N, 3, none⟩ v3).setCell ⟨N, 4, none⟩ v4).setCell ⟨N, 5, none⟩ v5).setCell ⟨N, 6, none⟩ v6).setCell ⟨N, 7, none⟩ v7).setCell ⟨N, 8, none⟩ v8).setCell ⟨N, 9, none⟩ v9).heap[N]? = some (.cells #[v0, v1, v2, v3, v4, v5, v6, v7, v8, v9, u10, u11, u12, u13, u14, u15] t (0, 0)) := heap_setCell_same _ N 9 _ _ _ h8
  have h10 : (((((((((((w.setCell ⟨N, 0, none⟩ v0).setCell ⟨N, 1, none⟩ v1).setCell ⟨N, 2, none⟩ v2).setCell ⟨N, 3, none⟩ v3).setCell ⟨N, 4, none⟩ v4).setCell ⟨N, 5, none⟩ v5).setCell ⟨N, 6, none⟩ v6).setCell ⟨N, 7, none⟩ v7).setCell ⟨N, 8, none⟩ v8).setCell ⟨N, 9, none⟩ v9).setCell ⟨N, 10, none⟩ v10).heap[N]? = some (.cells #[v0, v1, v2, v3, v4, v5, v6, v7, v8, v9, v10, u11, u12, u13, u14, u15] t (0, 0)) := heap_setCell_same _ N 10 _ _ _ h9
  have h11 : ((((((((((((w.setCell ⟨N, 0, none⟩ v0).setCell ⟨N, 1, none⟩ v1).setCell ⟨N, 2, none⟩ v2).setCell ⟨N, 3, none⟩ v3).setCell ⟨N, 4, none⟩ v4).setCell ⟨N, 5, none⟩ v5).setCell ⟨N, 6, none⟩ v6).setCell ⟨N, 7, none⟩ v7).setCell ⟨N, 8, none⟩ v8).setCell ⟨N, 9, none⟩ v9).setCell ⟨N, 10, none⟩ v10).setCell ⟨N, 11, none⟩ v11).heap[N]? = some (.cells #[v0, v1, v2, v3, v4, v5, v6, v7, v8, v9, v10, v11, u12, u13, u14, u15] t (0, 0)) := heap_setCell_same _ N 11 _ _ _ h10
  have h12 : (((((((((((((w.setCell ⟨N, 0, none⟩ v0).setCell ⟨N, 1, none⟩ v1).setCell ⟨N, 2, none⟩ v2).setCell ⟨N, 3, none⟩ v3).setCell ⟨N, 4, none⟩ v4).setCell ⟨N, 5, none⟩ v5).setCell ⟨N, 6, none⟩ v6).setCell ⟨N, 7, none⟩ v7).setCell ⟨N, 8, none⟩ v8).setCell ⟨N, 9, none⟩ v9).setCell ⟨N, 10, none⟩ v10).setCell ⟨N, 11, none⟩ v11).setCell ⟨N, 12, none⟩ v12).heap[N]? = some (.cells #[v0, v1, v2, v3, v4, v5, v6, v7, v8, v9, v10, v11, v12, u13, u14, u15] t (0, 0)) := heap_setCell_same _ N 12 _ _ _ h11
  have h13 : ((((((((((((((w.setCell ⟨N, 0, none⟩ v0).setCell ⟨N, 1, none⟩ v1).setCell ⟨N, 2, none⟩ v2).setCell ⟨N, 3, none⟩ v3).setCell ⟨N, 4, none⟩ v4).setCell ⟨N, 5, none⟩ v5).setCell ⟨N, 6, none⟩ v6).setCell ⟨N, 7, none⟩ v7).setCell ⟨N, 8, none⟩ v8).setCell ⟨N, 9, none⟩ v9).setCell ⟨N, 10, none⟩ v10).setCell ⟨N, 11, none⟩ v11).setCell ⟨N, 12, none⟩ v12).setCell ⟨N, 13, none⟩ v13).heap[N]? = some (.cells #[v0, v1, v2, v3, v4, v5, v6, v7, v8, v9, v10, v11, v12, v13, u14, u15] t (0, 0)) := heap_setCell_same _ N 13 _ _ _ h12
  have h14 : (((((((((((((((w.setCell ⟨N, 0, none⟩ v0).setCell ⟨N, 1, none⟩ v1).setCell ⟨N, 2, none⟩ v2).setCell ⟨N, 3, none⟩ v3).setCell ⟨N, 4, none⟩ v4).setCell ⟨N, 5, none⟩ v5).setCell ⟨N, 6, none⟩ v6).setCell ⟨N, 7, none⟩ v7).setCell ⟨N, 8, none⟩ v8).setCell ⟨N, 9, none⟩ v9).setCell ⟨N, 10, none⟩ v10).setCell ⟨N, 11, none⟩ v11).setCell ⟨N, 12, none⟩ v12).setCell ⟨N, 13, none⟩ v13).setCell ⟨N, 14, none⟩ v14).heap[N]? = some (.cells #[v0, v1, v2, v3, v4, v5, v6, v7, v8, v9, v10, v11, v12, v13, v14, u15] t (0, 0)) := heap_setCell_same _ N 14 _ _ _ h13
  have h15 : ((((((((((((((((w.setCell ⟨N, 0, none⟩ v0).setCell ⟨N, 1, none⟩ v1).setCell ⟨N, 2, none⟩ v2).setCell ⟨N, 3, none⟩ v3).setCell ⟨N, 4, none⟩ v4).setCell ⟨N, 5, none⟩ v5).setCell ⟨N, 6, none⟩ v6).setCell ⟨N, 7, none⟩ v7).setCell ⟨N, 8, none⟩ v8).setCell ⟨N, 9, none⟩ v9).setCell ⟨N, 10, none⟩ v10).setCell ⟨N, 11, none⟩ v11).setCell ⟨N, 12, none⟩ v12).setCell ⟨N, 13, none⟩ v13).setCell ⟨N, 14, none⟩ v14).setCell ⟨N, 15, none⟩ v15).heap[N]? = some (.cells #[v0, v1, v2, v3, v4, v5, v6, v7, v8, v9, v10, v11, v12, v13, v14, v15] t (0, 0)) := heap_setCell_same _ N 15 _ _ _ h14
  exact h15
theorem grown_set16 {a w : World} {N : Nat} (h : a.grownBy w (some N)) (v0 v1 v2 v3 v4 v5 v6 v7 v8 v9 v10 v11 v12 v13 v14 v15 : Value) : a.grownBy (set16 w N v0 v1 v2 v3 v4 v5 v6 v7 v8 v9 v10 v11 v12 v13 v14 v15) (some N) := by
  unfold set16
  have g0 := grown_trans h (set_grown _ N 0 v0)
  have g1 := grown_trans g0 (set_grown _ N 1 v1)
  have g2 := grown_trans g1 (set_grown _ N 2 v2)
  have g3 := grown_trans g2 (set_grown _ N 3 v3)
  have g4 := grown_trans g3 (set_grown _ N 4 v4)
  have g5 := grown_trans g4 (set_grown _ N 5 v5)
  have g6 := grown_trans g5 (set_grown _ N 6 v6)
  have g7 := grown_trans g6 (set_grown _ N 7 v7)
  have g8 := grown_trans g7 (set_grown _ N 8 v8)
  have g9 := grown_trans g8 (set_grown _ N 9 v9)
  have g10 := grown_trans g9 (set_grown _ N 10 v10)
  have g11 := grown_trans g10 (set_grown _ N 11 v11)
  have g12 := grown_trans g11 (set_grown _ N 12 v12)
  have g13 := grown_trans g12 (set_grown _ N 13 v13)
  have g14 := grown_trans g13 (set_grown _ N 14 v14)
  have g15 := grown_trans g14 (set_grown _ N 15 v15)
  exact g15
theorem own_slice {w : World} {base : Nat} {e : TypeId} {k : IntKind} {v : Value} {zs : List Int} (h : Own w base e k v zs) : ∃ (A : Option Addr) (n c : Nat), v = .slice A n c := by
  obtain ⟨A, c, rfl, _⟩ := h.form
  exact ⟨A, _, c, rfl⟩
theorem list16 (vs : List Value) (h : vs.length = 16) : ∃ v0 v1 v2 v3 v4 v5 v6 v7 v8 v9 v10 v11 v12 v13 v14 v15 : Value, vs = [v0, v1, v2, v3, v4, v5, v6, v7, v8, v9, v10, v11, v12, v13, v14, v15] :=
  match vs, h with
  | [v0, v1, v2, v3, v4, v5, v6, v7, v8, v9, v10, v11, v12, v13, v14, v15], _ => ⟨v0, v1, v2, v3, v4, v5, v6, v7, v8, v9, v10, v11, v12, v13, v14, v15, rfl⟩
/-- What erasuresOf holds while it goes through the order. -/
structure EaI (w : World) (A : Option Addr) (n c : Nat) (p k g D K C : Int) (Bn : Nat) (Z : Nat → List Int) (W : World) : Prop where
  dbox : W.heap[w.heap.size + 1]? = some (.cells #[.slice A n c] 28 (0, 0))
  res : W.heap[w.heap.size + 1 + 1]? = some (.cells #[.slice none 0 0, .slice none 0 0, .slice none 0 0, .slice none 0 0, .slice none 0 0, .slice none 0 0, .slice none 0 0, .slice none 0 0, .slice none 0 0, .slice none 0 0, .slice none 0 0, .slice none 0 0, .slice none 0 0, .slice none 0 0, .slice none 0 0, .slice none 0 0] 104 (0, 0))
  arr : ∃ vs, Arr W (w.heap.size + 1 + 1 + 1) (.slice (some ⟨w.heap.size + 1 + 1 + 1, 0, none⟩) 16 16) 16 vs Z
  lay : W.heap[Bn]? = some (.cells #[.int .i64 p, .int .i64 k, .int .i64 g, .int .i64 D, .int .i64 K, .int .i64 C] 27 (0, 0))
  bel : Below w.heap.size w W
theorem EaI.turn {w W W' : World} {A : Option Addr} {n c Bn B : Nat} {p k g D K C : Int} {Z : Nat → List Int} (h : EaI w A n c p k g D K C Bn Z W) (ht : Turn B W W') (hB : w.heap.size ≤ B) : EaI w A n c p k g D K C Bn Z W' :=
  ⟨ht.row h.dbox, ht.row h.res, h.arr.imp fun vs hm => ht.arr hm, ht.row h.lay, ht.below h.bel (Nat.le_refl _) hB⟩
/-- A new array of slices. -/
def NewA (Z : Nat → List Int) (w : World) (x : Ending) (w' : World) : Prop := ∃ vs : List Value, vs.length = 16 ∧ x = .returned (.agg vs.toArray) ∧ Rowz w' (w.heap.size + 1) vs Z ∧ Below w.heap.size w w'

set_option maxRecDepth 100000 in
set_option maxHeartbeats 4000000 in
theorem implErasures {R : Fld} {γ : El R} {p k g : Int} {D K C : Nat} (h : LayIs R γ p k g D K C) (A : Option Addr) (n c B : Nat) (es : List Int) (w : World) (hI : Ints .i64 w B A n es) (hB : B ≤ w.heap.size) (hn : n ≤ 1099511627776) (hes : es.Pairwise (· < ·)) :
    Calls Tryz.prog 71 #[.agg #[.int .i64 p, .int .i64 k, .int .i64 g, .int .i64 D, .int .i64 K, .int .i64 C], .slice A n c] w (NewA (fun k => if k < C then nv (era D C K es k) else []) w) := by
  have h1 := h.c1; have h2 := h.c16; have h3 := h.cd; have h4 := h.tot; have h5 := h.k1; have h6 := h.d1500
  have HI := hide hI
  clear h hI
  have hr0 := heap_alloc_new w (.cells #[.int .i64 p, .int .i64 k, .int .i64 g, .int .i64 D, .int .i64 K, .int .i64 C] 27)
  obtain ⟨c0, c1, c2, c3, c4, c5⟩ := YRow.cells (W := (((w.alloc (.cells #[.int .i64 p, .int .i64 k, .int .i64 g, .int .i64 D, .int .i64 K, .int .i64 C] 27)).alloc (.cells #[.slice A n c] 28)).alloc (.cells #[.slice none 0 0, .slice none 0 0, .slice none 0 0, .slice none 0 0, .slice none 0 0, .slice none 0 0, .slice none 0 0, .slice none 0 0, .slice none 0 0, .slice none 0 0, .slice none 0 0, .slice none 0 0, .slice none 0 0, .slice none 0 0, .slice none 0 0, .slice none 0 0] 104)).alloc (.cells #[.slice none 0 0, .slice none 0 0, .slice none 0 0, .slice none 0 0, .slice none 0 0, .slice none 0 0, .slice none 0 0, .slice none 0 0, .slice none 0 0, .slice none 0 0, .slice none 0 0, .slice none 0 0, .slice none 0 0, .slice none 0 0, .slice none 0 0, .slice none 0 0] 104)) (b := w.heap.size) (p := p) (k := k) (g := g) (D := D) (K := K) (C := C) (row_old (row_old (row_old hr0 _) _) _)
  refine (callsIn_wide (n := 6)).1 ?_
  refine callsIn_of_wp_marks Tryz.func71 rfl trivial ?_ rfl
  simp only [Tryz.ntmps71, List.size_toArray, List.length_cons, List.length_nil, Nat.reduceAdd, Nat.reduceSub, Array.replicate_succ, Array.replicate_zero, List.push_toArray, List.append_toArray, List.nil_append, List.cons_append]
  gi_wp2_with fail
  obtain ⟨w4, hw4⟩ : ∃ w4, w4 = (((w.alloc (.cells #[.int .i64 p, .int .i64 k, .int .i64 g, .int .i64 D, .int .i64 K, .int .i64 C] 27)).alloc (.cells #[.slice A n c] 28)).alloc (.cells #[.slice none 0 0, .slice none 0 0, .slice none 0 0, .slice none 0 0, .slice none 0 0, .slice none 0 0, .slice none 0 0, .slice none 0 0, .slice none 0 0, .slice none 0 0, .slice none 0 0, .slice none 0 0, .slice none 0 0, .slice none 0 0, .slice none 0 0, .slice none 0 0] 104)).alloc (.cells #[.slice none 0 0, .slice none 0 0, .slice none 0 0, .slice none 0 0, .slice none 0 0, .slice none 0 0, .slice none 0 0, .slice none 0 0, .slice none 0 0, .slice none 0 0, .slice none 0 0, .slice none 0 0, .slice none 0 0, .slice none 0 0, .slice none 0 0, .slice none 0 0] 104) := ⟨_, rfl⟩
  have hs4 : w4.heap.size = w.heap.size + 1 + 1 + 1 + 1 := by rw [hw4]; simp only [alloc_size]
  rw [← hw4]
  have HS4 := hide (show EaI w A n c p k g D K C (w.heap.size + 1 + 1 + 1 + 1) (accE (N := D + C * K) D C es []) (w4.alloc (.cells #[.int .i64 p, .int .i64 k, .int .i64 g, .int .i64 D, .int .i64 K, .int .i64 C] 27)) by
    have q1 := heap_alloc_new (w.alloc (.cells #[.int .i64 p, .int .i64 k, .int .i64 g, .int .i64 D, .int .i64 K, .int .i64 C] 27)) (.cells #[.slice A n c] 28)
    have q2 := heap_alloc_new ((w.alloc (.cells #[.int .i64 p, .int .i64 k, .int .i64 g, .int .i64 D, .int .i64 K, .int .i64 C] 27)).alloc (.cells #[.slice A n c] 28)) (.cells #[.slice none 0 0, .slice none 0 0, .slice none 0 0, .slice none 0 0, .slice none 0 0, .slice none 0 0, .slice none 0 0, .slice none 0 0, .slice none 0 0, .slice none 0 0, .slice none 0 0, .slice none 0 0, .slice none 0 0, .slice none 0 0, .slice none 0 0, .slice none 0 0] 104)
    have q3 := arr_made (((w.alloc (.cells #[.int .i64 p, .int .i64 k, .int .i64 g, .int .i64 D, .int .i64 K, .int .i64 C] 27)).alloc (.cells #[.slice A n c] 28)).alloc (.cells #[.slice none 0 0, .slice none 0 0, .slice none 0 0, .slice none 0 0, .slice none 0 0, .slice none 0 0, .slice none 0 0, .slice none 0 0, .slice none 0 0, .slice none 0 0, .slice none 0 0, .slice none 0 0, .slice none 0 0, .slice none 0 0, .slice none 0 0, .slice none 0 0] 104)) (w.heap.size + 1 + 1 + 1) (by simp only [alloc_size]; omega)
    simp only [alloc_size] at q1 q2 q3
    have r1 : w4.heap[w.heap.size + 1]? = some (.cells #[.slice A n c] 28 (0, 0)) := by rw [hw4]; exact row_old (row_old q1 _) _
    have r2 : w4.heap[w.heap.size + 1 + 1]? = some (.cells #[.slice none 0 0, .slice none 0 0, .slice none 0 0, .slice none 0 0, .slice none 0 0, .slice none 0 0, .slice none 0 0, .slice none 0 0, .slice none 0 0, .slice none 0 0, .slice none 0 0, .slice none 0 0, .slice none 0 0, .slice none 0 0, .slice none 0 0, .slice none 0 0] 104 (0, 0)) := by rw [hw4]; exact row_old q2 _
    refine ⟨row_old r1 _, row_old r2 _, ⟨_, Arr.alloc (by rw [hw4]; exact q3) _⟩, (by have := heap_alloc_new w4 (.cells #[.int .i64 p, .int .i64 k, .int .i64 g, .int .i64 D, .int .i64 K, .int .i64 C] 27); rw [hs4] at this; exact this), ?_⟩
    have hb4 : Below w.heap.size w w4 := by
      rw [hw4]
      exact (((Below.refl w.heap.size w).alloc (Nat.le_refl _) _).alloc (by simp only [alloc_size]; omega) _).alloc (by simp only [alloc_size]; omega) _ |>.alloc (by simp only [alloc_size]; omega) _
    exact hb4.alloc (by omega) _)
  refine ⟨trivial, (callsIn_wide.2 (implOrder p k g D K C w4)).mono ?_⟩
  rintro x w5 ⟨rfl, hw5⟩
  rw [← hw5] at HS4
  have hs5 : w5.heap.size = w4.heap.size + 1 := by rw [hw5, alloc_size]
  clear hw4 hw5 c0 c1 c2 c3 c4 c5 hr0
  gi_wp2_with fail
  refine range_order h1 h2 h3 (by omega) h4 HS4.out.lay (by omega) rfl rfl
    (fun pre W => EaI w A n c p k g D K C (w.heap.size + 1 + 1 + 1 + 1) (accE D C es pre) W ∧ w5.heap.size ≤ W.heap.size)
    (fun _ _ _ => False) (fun s W h => h.2) (fun s W W' h ht => ⟨h.1.turn ht (by omega), Nat.le_trans h.2 ht.size⟩) (fun c s W W' h ht => h) ⟨HS4.out, Nat.le_refl _⟩
    (fun x Bx => { tmps := #[.agg #[.int .i64 p, .int .i64 k, .int .i64 g, .int .i64 D, .int .i64 K, .int .i64 C], .slice A n c, .pointer (some ⟨w.heap.size, 0, none⟩), .pointer (some ⟨w.heap.size + 1, 0, none⟩), .pointer (some ⟨w.heap.size + 1 + 1, 0, none⟩), .pointer (some ⟨w.heap.size + 1 + 1 + 1, 0, none⟩), .int .i64 (x.val : Nat), .pointer (some ⟨Bx, 0, none⟩), .agg #[.int .i64 p, .int .i64 k, .int .i64 g, .int .i64 D, .int .i64 K, .int .i64 C], .func (.func 92) #[] #[.pointer (some ⟨w.heap.size + 1 + 1 + 1 + 1, 0, none⟩)], .int .i64 (x.val : Nat), .agg #[.int .i64 ((pairOf D C x.val).1 : Nat), .int .i64 ((pairOf D C x.val).2 : Nat)], undef, undef, undef, undef, undef, undef, undef, undef, undef, undef, undef, undef, undef, undef, undef], defers := [] }) ?assign ?body ?done ?stop
  case assign =>
    intro l x W K' hK'
    gi_wp2_with fail
    exact hK'
  case body =>
    rintro l pre x W Bx hBx hE ⟨hsp, hsz⟩ hlen
    have HSW := hide hsp
    obtain ⟨d0, d1⟩ := hE.cells
    have hpk := pair_lt (D := D) h1 x.val
    obtain ⟨vs, hm⟩ := hsp.arr
    have hp16' : (pairOf D C x.val).1 < 16 := by omega
    obtain ⟨Ar, mr, hvs, hrc, hro, hmr⟩ := hm.at_ hp16'
    obtain ⟨px, hpx⟩ : ∃ q, (pairOf D C x.val).1 = q := ⟨_, rfl⟩
    obtain ⟨py, hpy⟩ : ∃ q, (pairOf D C x.val).2 = q := ⟨_, rfl⟩
    have HPX := hide hpx
    have HPY := hide hpy
    rw [hpx] at hpk d0 hvs hrc hro hp16' hmr
    rw [hpy] at d1
    have hE' : ERow W Bx px py := by rw [← hpx, ← hpy]; exact hE
    obtain ⟨db, _⟩ := one_cell hsp.dbox
    have HIW := hide (HI.out.below (hsp.bel.mono hB))
    have hal : (accE D C es pre px).length ≤ 100000 := by have := accE_len (D := D) (C := C) es pre px; omega
    simp only [hpx, hpy]
    rcases hm1 : decide (((x.val : Nat) : Int) ∈ es) with _ | _
    · have HZ := hide (show ∀ i, accE D C es (pre ++ [x]) i = accE D C es pre i from fun i => accE_no (.inr (of_decide_eq_false hm1)))
      clear hpx hpy hsp hE hE' hm hvs hro hrc
      gi_wp2_with fail
      refine ⟨trivial, (CallsIn.inRound l (callsIn_wide.2 (implAmong A n c B es x.val W HIW.out hn hes))).mono ?_⟩
      rw [hm1]
      rintro e' w6 ⟨rfl, rfl⟩
      gi_wp2_with fail
      refine ⟨KeepsFrom.refl _ _, rfl, ?_, hsz⟩
      have hsp := HSW.out
      exact ⟨hsp.dbox, hsp.res, hsp.arr.imp fun vs hm => hm.congr fun i _ => HZ.out i, hsp.lay, hsp.bel⟩
    · obtain ⟨zr, hzr⟩ : ∃ zr, accE D C es pre px = zr := ⟨_, rfl⟩
      rw [hzr] at hvs hrc hro hal hmr
      have HZ := hide (show ∀ i, accE D C es (pre ++ [x]) i = if i = px then zr ++ [(py : Int)] else accE D C es pre i from fun i => by
        by_cases hi : i = px
        · subst hi; rw [if_pos rfl, accE_yes hpx (of_decide_eq_true hm1), hzr, hpy]
        · rw [if_neg hi, accE_no (.inl (by rw [hpx]; exact Ne.symm hi))])
      have n2 := type_ne hE' (by decide) hro
      have n3 := type_ne hsp.dbox (by decide) hro
      have n4 : (Value.slice Ar zr.length mr).ownBlock ≠ some (w.heap.size + 1 + 1 + 1) := by
        rcases (hm.out px _ hvs).1 with hh | hh
        · rw [hh]; simp
        · exact hh
      have n6 := type_ne hsp.lay (by decide) hro
      have n7 := type_ne hsp.res (by decide) hro
      have HM := hide hm
      have HVS := hide hvs
      have HRO := hide hro
      have l2 : Bx < W.heap.size := hE'.lt
      have l4 : w.heap.size + 1 + 1 + 1 < W.heap.size := (World.ownsRow.lt hm.row _ rfl).2
      have l6 : w.heap.size + 1 + 1 + 1 + 1 < W.heap.size := (Array.getElem?_eq_some_iff.1 hsp.lay).1
      have HF := hide (World.ownsRow.frozenAt hm.row px)
      have hp16i : (px : Int) < 16 := by omega
      have hp16d : decide ((px : Int) < 16) = true := decide_eq_true hp16i
      clear hzr hpx hpy hm hsp hE hE' hvs hro
      gi_wp2_with fail
      refine ⟨trivial, (CallsIn.inRound l (callsIn_wide.2 (implAmong A n c B es x.val W HIW.out hn hes))).mono ?_⟩
      rw [hm1]
      rintro e' w6 ⟨rfl, rfl⟩
      gi_wp2_with fail
      refine round_begin (fun w' => w'.cell? ⟨Bx, 0, none⟩ = some (.int .i64 px) ∧ w'.cell? ⟨Bx, 1, none⟩ = some (.int .i64 py) ∧ w'.cell? ⟨w.heap.size + 1 + 1 + 1, px, none⟩ = some (.slice Ar zr.length mr)) 11 (by kernel_rfl) (by kernel_rfl) (by rintro ⟨_, _, hq⟩; exact hq) ⟨d0, d1, hrc⟩ (fun hS' => ?_)
      clear d0 d1 hrc
      refine tail_take 0 rfl (by kernel_rfl) (by kernel_rfl) (by kernel_rfl) (by kernel_rfl) (fun _ _ _ h => h) (by rfl) (v := ?_) ?_ (by assumption) ?_
      rotate_left 1
      · intro w' hS'; obtain ⟨q0, q1, q2⟩ := hS'; go_simp; try with_reducible rfl
      try simp only [Act.put, List.setIfInBounds_toArray, List.set_cons_zero, List.set_cons_succ]
      refine tail_take 1 rfl (by kernel_rfl) (by kernel_rfl) (by kernel_rfl) (by kernel_rfl) (fun _ _ _ h => h) (by rfl) (v := ?_) ?_ (by assumption) ?_
      rotate_left 1
      · intro w' hS'; obtain ⟨q0, q1, q2⟩ := hS'; go_simp; try with_reducible rfl
      try simp only [Act.put, List.setIfInBounds_toArray, List.set_cons_zero, List.set_cons_succ]
      refine tail_take 2 rfl (by kernel_rfl) (by kernel_rfl) (by kernel_rfl) (by kernel_rfl) (fun _ _ _ h => h) (by rfl) (v := ?_) ?_ (by assumption) ?_
      rotate_left 1
      · intro w' hS'; obtain ⟨q0, q1, q2⟩ := hS'; go_simp; try with_reducible rfl
      try simp only [Act.put, List.setIfInBounds_toArray, List.set_cons_zero, List.set_cons_succ]
      refine tail_take 3 rfl (by kernel_rfl) (by kernel_rfl) (by kernel_rfl) (by kernel_rfl) (fun _ _ _ h => h) (by rfl) (v := ?_) ?_ (by assumption) ?_
      rotate_left 1
      · intro w' hS'; obtain ⟨q0, q1, q2⟩ := hS'; go_simp; try with_reducible rfl
      try simp only [Act.put, List.setIfInBounds_toArray, List.set_cons_zero, List.set_cons_succ]
      refine tail_take 4 rfl (by kernel_rfl) (by kernel_rfl) (by kernel_rfl) (by kernel_rfl) (fun _ _ _ h => h) (by rfl) (v := ?_) ?_ (by assumption) ?_
      rotate_left 1
      · intro w' hS'; obtain ⟨q0, q1, q2⟩ := hS'; go_simp; try with_reducible rfl
      try simp only [Act.put, List.setIfInBounds_toArray, List.set_cons_zero, List.set_cons_succ]
      refine tail_take 5 rfl (by kernel_rfl) (by kernel_rfl) (by kernel_rfl) (by kernel_rfl) (fun _ _ _ h => h) (by rfl) (v := ?_) ?_ (by assumption) ?_
      rotate_left 1
      · intro w' hS'; obtain ⟨q0, q1, q2⟩ := hS'; go_simp; try with_reducible rfl
      try simp only [Act.put, List.setIfInBounds_toArray, List.set_cons_zero, List.set_cons_succ]
      refine tail_take 6 rfl (by kernel_rfl) (by kernel_rfl) (by kernel_rfl) (by kernel_rfl) (fun _ _ _ h => h) (by rfl) (v := ?_) ?_ (by assumption) ?_
      rotate_left 1
      · intro w' hS'; obtain ⟨q0, q1, q2⟩ := hS'; go_simp; try with_reducible rfl
      try simp only [Act.put, List.setIfInBounds_toArray, List.set_cons_zero, List.set_cons_succ]
      refine tail_take 7 rfl (by kernel_rfl) (by kernel_rfl) (by kernel_rfl) (by kernel_rfl) (fun _ _ _ h => h) (by rfl) (v := ?_) ?_ (by assumption) ?_
      rotate_left 1
      · intro w' hS'; obtain ⟨q0, q1, q2⟩ := hS'; go_simp; try with_reducible rfl
      try simp only [Act.put, List.setIfInBounds_toArray, List.set_cons_zero, List.set_cons_succ]
      refine tail_call 8 rfl (by kernel_rfl) rfl (fun K hK => ?_)
      go_simp
      obtain ⟨q0, q1, q2⟩ := hS'
      refine hK.out _ _ (by (try dsimp only); exact ⟨cell_up q0 _, cell_up q1 _, cell_up q2 _⟩) (fun hS' => ?_)
      clear hK K
      try simp only [Act.put, List.setIfInBounds_toArray, List.set_cons_zero, List.set_cons_succ]
      refine tail_call 9 rfl (by kernel_rfl) rfl (fun K hK => ?_)
      refine wp_app1L W.drew (.tmp 20) (.tmp 23) 28 rfl elem64 (w.heap.size + 1 + 1 + 1) (.slice Ar zr.length mr) zr rfl HRO.out (py : Int) rfl (by omega) (Nat.le_of_lt l4) ?_
      intro b cap w4' ho4 hg4 hl4
      have HG4 := hide (show W.grownBy w4' (Value.slice Ar zr.length mr).ownBlock from ⟨hg4.os, hg4.tape, hg4.output, hg4.size, hg4.block⟩)
      have k0 := grown_cell HG4.out (p := ⟨Bx, 0, none⟩) l2 n2
      have k1 := grown_cell HG4.out (p := ⟨Bx, 1, none⟩) l2 n2
      have k2 := grown_cell HG4.out (p := ⟨w.heap.size + 1 + 1 + 1, px, none⟩) l4 n4
      have HO4 := hide ho4
      have HL4 := hide hl4
      clear ho4 hg4 hl4
      refine hK.out _ _ ⟨k0.trans q0, k1.trans q1, k2.trans q2⟩ (fun hS' => ?_)
      clear hK K k0 k1 k2 q0 q1 q2
      try simp only [Act.put, List.setIfInBounds_toArray, List.set_cons_zero, List.set_cons_succ]
      refine tail_take 10 rfl (by kernel_rfl) (by kernel_rfl) (by kernel_rfl) (by kernel_rfl) (fun _ _ _ h => h) (by rfl) (v := ?_) ?_ (by assumption) ?_
      rotate_left 1
      · intro w' hS'; obtain ⟨q0, q1, q2⟩ := hS'; go_simp; try with_reducible rfl
      try simp only [Act.put, List.setIfInBounds_toArray, List.set_cons_zero, List.set_cons_succ]
      have hf4 := (frozen_grown HG4.out l4 n4 px).trans HF.out
      obtain ⟨q0, q1, q2⟩ := hS'
      refine tail_last 11 rfl (by kernel_rfl) (by kernel_rfl) rfl rfl (fun K hK => ?_)
      go_simp
      refine hK.out _ _ ?_
      clear hK K
      try simp only [Act.put, List.setIfInBounds_toArray, List.set_cons_zero, List.set_cons_succ]
      clear q0 q1 q2 hf4
      obtain ⟨hm5, hg5⟩ := HM.out.put HVS.out HG4.out HO4.out (by
        rcases HL4.out with hh | hh
        · exact .inr (.inl hh.symm)
        · exact .inr (.inr ⟨b, rfl, by rw [hh]; exact Nat.le_succ _⟩))
      have hsp := HSW.out
      have hb5 : Below w.heap.size w (w4'.setCell ⟨w.heap.size + 1 + 1 + 1, px, none⟩ (.slice (some ⟨b, 0, none⟩) (zr.length + 1) cap)) := (hsp.bel.grown HG4.out hsp.bel.size (fun r e => by have := (HRO.out.lt e).1; omega)).setCell (by show w.heap.size ≤ w.heap.size + 1 + 1 + 1; omega) _
      refine And.intro ((keeps_owned HG4.out HRO.out).trans ((KeepsOthers.setCell _ _ _).from _)) (And.intro ?_ (And.intro (EaI.mk (row_set (grown_row HG4.out hsp.dbox n3) (by omega)) (row_set (grown_row HG4.out hsp.res n7) (by omega)) ⟨_, hm5.congr fun i _ => HZ.out i⟩ (row_set (grown_row HG4.out hsp.lay n6) (by omega)) hb5) ?_))
      · show (w4'.setCell ⟨w.heap.size + 1 + 1 + 1, px, none⟩ _).heap[w.heap.size + 1 + 1 + 1 + 1]? = W.heap[w.heap.size + 1 + 1 + 1 + 1]?
        rw [heap_setCell_other w4' ⟨w.heap.size + 1 + 1 + 1, px, none⟩ (w.heap.size + 1 + 1 + 1 + 1) _ (by show w.heap.size + 1 + 1 + 1 + 1 ≠ w.heap.size + 1 + 1 + 1; omega)]
        exact HG4.out.block _ l6 (Ne.symm n6)
      · have := HG4.out.size
        show _ ≤ (World.setCell _ _ _).heap.size
        rw [size_set]
        omega
  case done =>
    rintro Dd W hDd ⟨hsp, hsz⟩ hK
    have HSW := hide hsp
    obtain ⟨vs, hm⟩ := hsp.arr
    obtain ⟨v0, v1, v2, v3, v4, v5, v6, v7, v8, v9, v10, v11, v12, v13, v14, v15, rfl⟩ := list16 vs hm.len
    have hres := hsp.res
    have s0 : W.cell? ⟨w.heap.size + 1 + 1 + 1, 0, none⟩ = some v0 := (World.ownsRow.cellAt hm.row 0 (by omega)).trans rfl
    have s1 : W.cell? ⟨w.heap.size + 1 + 1 + 1, 1, none⟩ = some v1 := (World.ownsRow.cellAt hm.row 1 (by omega)).trans rfl
    have s2 : W.cell? ⟨w.heap.size + 1 + 1 + 1, 2, none⟩ = some v2 := (World.ownsRow.cellAt hm.row 2 (by omega)).trans rfl
    have s3 : W.cell? ⟨w.heap.size + 1 + 1 + 1, 3, none⟩ = some v3 := (World.ownsRow.cellAt hm.row 3 (by omega)).trans rfl
    have s4 : W.cell? ⟨w.heap.size + 1 + 1 + 1, 4, none⟩ = some v4 := (World.ownsRow.cellAt hm.row 4 (by omega)).trans rfl
    have s5 : W.cell? ⟨w.heap.size + 1 + 1 + 1, 5, none⟩ = some v5 := (World.ownsRow.cellAt hm.row 5 (by omega)).trans rfl
    have s6 : W.cell? ⟨w.heap.size + 1 + 1 + 1, 6, none⟩ = some v6 := (World.ownsRow.cellAt hm.row 6 (by omega)).trans rfl
    have s7 : W.cell? ⟨w.heap.size + 1 + 1 + 1, 7, none⟩ = some v7 := (World.ownsRow.cellAt hm.row 7 (by omega)).trans rfl
    have s8 : W.cell? ⟨w.heap.size + 1 + 1 + 1, 8, none⟩ = some v8 := (World.ownsRow.cellAt hm.row 8 (by omega)).trans rfl
    have s9 : W.cell? ⟨w.heap.size + 1 + 1 + 1, 9, none⟩ = some v9 := (World.ownsRow.cellAt hm.row 9 (by omega)).trans rfl
    have s10 : W.cell? ⟨w.heap.size + 1 + 1 + 1, 10, none⟩ = some v10 := (World.ownsRow.cellAt hm.row 10 (by omega)).trans rfl
    have s11 : W.cell? ⟨w.heap.size + 1 + 1 + 1, 11, none⟩ = some v11 := (World.ownsRow.cellAt hm.row 11 (by omega)).trans rfl
    have s12 : W.cell? ⟨w.heap.size + 1 + 1 + 1, 12, none⟩ = some v12 := (World.ownsRow.cellAt hm.row 12 (by omega)).trans rfl
    have s13 : W.cell? ⟨w.heap.size + 1 + 1 + 1, 13, none⟩ = some v13 := (World.ownsRow.cellAt hm.row 13 (by omega)).trans rfl
    have s14 : W.cell? ⟨w.heap.size + 1 + 1 + 1, 14, none⟩ = some v14 := (World.ownsRow.cellAt hm.row 14 (by omega)).trans rfl
    have s15 : W.cell? ⟨w.heap.size + 1 + 1 + 1, 15, none⟩ = some v15 := (World.ownsRow.cellAt hm.row 15 (by omega)).trans rfl
    have r0 := cell_of_row W (w.heap.size + 1 + 1) 0 _ _ _ hres
    have f0 := frozen_of_row W (w.heap.size + 1 + 1) 0 _ _ hres
    have r1 := cell_of_row W (w.heap.size + 1 + 1) 1 _ _ _ hres
    have f1 := frozen_of_row W (w.heap.size + 1 + 1) 1 _ _ hres
    have r2 := cell_of_row W (w.heap.size + 1 + 1) 2 _ _ _ hres
    have f2 := frozen_of_row W (w.heap.size + 1 + 1) 2 _ _ hres
    have r3 := cell_of_row W (w.heap.size + 1 + 1) 3 _ _ _ hres
    have f3 := frozen_of_row W (w.heap.size + 1 + 1) 3 _ _ hres
    have r4 := cell_of_row W (w.heap.size + 1 + 1) 4 _ _ _ hres
    have f4 := frozen_of_row W (w.heap.size + 1 + 1) 4 _ _ hres
    have r5 := cell_of_row W (w.heap.size + 1 + 1) 5 _ _ _ hres
    have f5 := frozen_of_row W (w.heap.size + 1 + 1) 5 _ _ hres
    have r6 := cell_of_row W (w.heap.size + 1 + 1) 6 _ _ _ hres
    have f6 := frozen_of_row W (w.heap.size + 1 + 1) 6 _ _ hres
    have r7 := cell_of_row W (w.heap.size + 1 + 1) 7 _ _ _ hres
    have f7 := frozen_of_row W (w.heap.size + 1 + 1) 7 _ _ hres
    have r8 := cell_of_row W (w.heap.size + 1 + 1) 8 _ _ _ hres
    have f8 := frozen_of_row W (w.heap.size + 1 + 1) 8 _ _ hres
    have r9 := cell_of_row W (w.heap.size + 1 + 1) 9 _ _ _ hres
    have f9 := frozen_of_row W (w.heap.size + 1 + 1) 9 _ _ hres
    have r10 := cell_of_row W (w.heap.size + 1 + 1) 10 _ _ _ hres
    have f10 := frozen_of_row W (w.heap.size + 1 + 1) 10 _ _ hres
    have r11 := cell_of_row W (w.heap.size + 1 + 1) 11 _ _ _ hres
    have f11 := frozen_of_row W (w.heap.size + 1 + 1) 11 _ _ hres
    have r12 := cell_of_row W (w.heap.size + 1 + 1) 12 _ _ _ hres
    have f12 := frozen_of_row W (w.heap.size + 1 + 1) 12 _ _ hres
    have r13 := cell_of_row W (w.heap.size + 1 + 1) 13 _ _ _ hres
    have f13 := frozen_of_row W (w.heap.size + 1 + 1) 13 _ _ hres
    have r14 := cell_of_row W (w.heap.size + 1 + 1) 14 _ _ _ hres
    have f14 := frozen_of_row W (w.heap.size + 1 + 1) 14 _ _ hres
    have r15 := cell_of_row W (w.heap.size + 1 + 1) 15 _ _ _ hres
    have f15 := frozen_of_row W (w.heap.size + 1 + 1) 15 _ _ hres
    have HM := hide hm
    have HR16 := hide (row_set16 hres v0 v1 v2 v3 v4 v5 v6 v7 v8 v9 v10 v11 v12 v13 v14 v15)
    have HG16 := hide (grown_set16 (World.grownBy.refl W (some (w.heap.size + 1 + 1))) v0 v1 v2 v3 v4 v5 v6 v7 v8 v9 v10 v11 v12 v13 v14 v15)
    have hfold : ((((((((((((((((W.setCell ⟨w.heap.size + 1 + 1, 0, none⟩ v0).setCell ⟨w.heap.size + 1 + 1, 1, none⟩ v1).setCell ⟨w.heap.size + 1 + 1, 2, none⟩ v2).setCell ⟨w.heap.size + 1 + 1, 3, none⟩ v3).setCell ⟨w.heap.size + 1 + 1, 4, none⟩ v4).setCell ⟨w.heap.size + 1 + 1, 5, none⟩ v5).setCell ⟨w.heap.size + 1 + 1, 6, none⟩ v6).setCell ⟨w.heap.size + 1 + 1, 7, none⟩ v7).setCell ⟨w.heap.size + 1 + 1, 8, none⟩ v8).setCell ⟨w.heap.size + 1 + 1, 9, none⟩ v9).setCell ⟨w.heap.size + 1 + 1, 10, none⟩ v10).setCell ⟨w.heap.size + 1 + 1, 11, none⟩ v11).setCell ⟨w.heap.size + 1 + 1, 12, none⟩ v12).setCell ⟨w.heap.size + 1 + 1, 13, none⟩ v13).setCell ⟨w.heap.size + 1 + 1, 14, none⟩ v14).setCell ⟨w.heap.size + 1 + 1, 15, none⟩ v15) = set16 W (w.heap.size + 1 + 1) v0 v1 v2 v3 v4 v5 v6 v7 v8 v9 v10 v11 v12 v13 v14 v15 := rfl
    have l7 : w.heap.size + 1 + 1 + 1 < W.heap.size := (World.ownsRow.lt hm.row _ rfl).2
    obtain ⟨A0, n0, m0, e0⟩ := own_slice (hm.rows.own 0 _ rfl)
    obtain ⟨A1, n1, m1, e1⟩ := own_slice (hm.rows.own 1 _ rfl)
    obtain ⟨A2, n2, m2, e2⟩ := own_slice (hm.rows.own 2 _ rfl)
    obtain ⟨A3, n3, m3, e3⟩ := own_slice (hm.rows.own 3 _ rfl)
    obtain ⟨A4, n4, m4, e4⟩ := own_slice (hm.rows.own 4 _ rfl)
    obtain ⟨A5, n5, m5, e5⟩ := own_slice (hm.rows.own 5 _ rfl)
    obtain ⟨A6, n6, m6, e6⟩ := own_slice (hm.rows.own 6 _ rfl)
    obtain ⟨A7, n7, m7, e7⟩ := own_slice (hm.rows.own 7 _ rfl)
    obtain ⟨A8, n8, m8, e8⟩ := own_slice (hm.rows.own 8 _ rfl)
    obtain ⟨A9, n9, m9, e9⟩ := own_slice (hm.rows.own 9 _ rfl)
    obtain ⟨A10, n10, m10, e10⟩ := own_slice (hm.rows.own 10 _ rfl)
    obtain ⟨A11, n11, m11, e11⟩ := own_slice (hm.rows.own 11 _ rfl)
    obtain ⟨A12, n12, m12, e12⟩ := own_slice (hm.rows.own 12 _ rfl)
    obtain ⟨A13, n13, m13, e13⟩ := own_slice (hm.rows.own 13 _ rfl)
    obtain ⟨A14, n14, m14, e14⟩ := own_slice (hm.rows.own 14 _ rfl)
    obtain ⟨A15, n15, m15, e15⟩ := own_slice (hm.rows.own 15 _ rfl)
    subst e0
    subst e1
    subst e2
    subst e3
    subst e4
    subst e5
    subst e6
    subst e7
    subst e8
    subst e9
    subst e10
    subst e11
    subst e12
    subst e13
    subst e14
    subst e15
    clear hsp hres hm
    gi_wp2_with fail
    have hw16 : ∃ w16, w16 = set16 W (w.heap.size + 1 + 1) (.slice A0 n0 m0) (.slice A1 n1 m1) (.slice A2 n2 m2) (.slice A3 n3 m3) (.slice A4 n4 m4) (.slice A5 n5 m5) (.slice A6 n6 m6) (.slice A7 n7 m7) (.slice A8 n8 m8) (.slice A9 n9 m9) (.slice A10 n10 m10) (.slice A11 n11 m11) (.slice A12 n12 m12) (.slice A13 n13 m13) (.slice A14 n14 m14) (.slice A15 n15 m15) := ⟨_, rfl⟩
    obtain ⟨w16, hw16⟩ := hw16
    rw [← hw16] at HR16 HG16 ⊢
    clear hw16 hfold s0 r0 f0 s1 r1 f1 s2 r2 f2 s3 r3 f3 s4 r4 f4 s5 r5 f5 s6 r6 f6 s7 r7 f7 s8 r8 f8 s9 r9 f9 s10 r10 f10 s11 r11 f11 s12 r12 f12 s13 r13 f13 s14 r14 f14 s15 r15 f15
    have hkd := (HG16.out.block Dd (Array.getElem?_eq_some_iff.1 hK).1 (by intro e; injection e with e; omega)).trans hK
    refine ⟨by simp, .inl ⟨_, _, rfl, run_takeDeferred hkd, ?_⟩⟩
    have ht : Turn w5.heap.size w16 _ := turn_put (.deferred none) hkd rfl hDd
    have hR := ht.row HR16.out
    have y0 := cell_of_row _ (w.heap.size + 1 + 1) 0 _ _ _ hR
    have y1 := cell_of_row _ (w.heap.size + 1 + 1) 1 _ _ _ hR
    have y2 := cell_of_row _ (w.heap.size + 1 + 1) 2 _ _ _ hR
    have y3 := cell_of_row _ (w.heap.size + 1 + 1) 3 _ _ _ hR
    have y4 := cell_of_row _ (w.heap.size + 1 + 1) 4 _ _ _ hR
    have y5 := cell_of_row _ (w.heap.size + 1 + 1) 5 _ _ _ hR
    have y6 := cell_of_row _ (w.heap.size + 1 + 1) 6 _ _ _ hR
    have y7 := cell_of_row _ (w.heap.size + 1 + 1) 7 _ _ _ hR
    have y8 := cell_of_row _ (w.heap.size + 1 + 1) 8 _ _ _ hR
    have y9 := cell_of_row _ (w.heap.size + 1 + 1) 9 _ _ _ hR
    have y10 := cell_of_row _ (w.heap.size + 1 + 1) 10 _ _ _ hR
    have y11 := cell_of_row _ (w.heap.size + 1 + 1) 11 _ _ _ hR
    have y12 := cell_of_row _ (w.heap.size + 1 + 1) 12 _ _ _ hR
    have y13 := cell_of_row _ (w.heap.size + 1 + 1) 13 _ _ _ hR
    have y14 := cell_of_row _ (w.heap.size + 1 + 1) 14 _ _ _ hR
    have y15 := cell_of_row _ (w.heap.size + 1 + 1) 15 _ _ _ hR
    have hrz : Rowz w16 (w.heap.size + 1 + 1 + 1) [.slice A0 n0 m0, .slice A1 n1 m1, .slice A2 n2 m2, .slice A3 n3 m3, .slice A4 n4 m4, .slice A5 n5 m5, .slice A6 n6 m6, .slice A7 n7 m7, .slice A8 n8 m8, .slice A9 n9 m9, .slice A10 n10 m10, .slice A11 n11 m11, .slice A12 n12 m12, .slice A13 n13 m13, .slice A14 n14 m14, .slice A15 n15 m15] (accE D C es (List.finRange (D + C * K))) := HM.out.rows.grown HG16.out (fun k u hu => .inr fun e => by have := (HM.out.rows.lt hu e).1; omega)
    have hb16 : Below w.heap.size w w16 := HSW.out.bel.grown HG16.out HSW.out.bel.size (fun r e => by injection e with e; omega)
    refine ⟨.agg #[.slice A0 n0 m0, .slice A1 n1 m1, .slice A2 n2 m2, .slice A3 n3 m3, .slice A4 n4 m4, .slice A5 n5 m5, .slice A6 n6 m6, .slice A7 n7 m7, .slice A8 n8 m8, .slice A9 n9 m9, .slice A10 n10 m10, .slice A11 n11 m11, .slice A12 n12 m12, .slice A13 n13 m13, .slice A14 n14 m14, .slice A15 n15 m15], by simp [results, Tryz.results71, go_sem, y0, y1, y2, y3, y4, y5, y6, y7, y8, y9, y10, y11, y12, y13, y14, y15], [.slice A0 n0 m0, .slice A1 n1 m1, .slice A2 n2 m2, .slice A3 n3 m3, .slice A4 n4 m4, .slice A5 n5 m5, .slice A6 n6 m6, .slice A7 n7 m7, .slice A8 n8 m8, .slice A9 n9 m9, .slice A10 n10 m10, .slice A11 n11 m11, .slice A12 n12 m12, .slice A13 n13 m13, .slice A14 n14 m14, .slice A15 n15 m15], rfl, rfl, ⟨fun k u hu => ?_, hrz.dis⟩, ht.below hb16 (Nat.le_refl _) (by omega)⟩
    have hk16 := (List.getElem?_eq_some_iff.1 hu).1
    have ho := (ht.own (hrz.own k u hu)).low (base' := w.heap.size + 1) (by omega)
    by_cases hkC : k < C
    · rw [accE_all h1 hkC] at ho
      show Own _ _ _ _ _ (if k < C then _ else _)
      rw [if_pos hkC]; exact ho
    · rw [accE_far h1 (by omega)] at ho
      show Own _ _ _ _ _ (if k < C then _ else _)
      rw [if_neg hkC]; exact ho
  case stop =>
    rintro Dd c pre W hDd hpre h hK
    exact h.elim
end Go.Proofs.YtlphodhecaagbaaGreat
