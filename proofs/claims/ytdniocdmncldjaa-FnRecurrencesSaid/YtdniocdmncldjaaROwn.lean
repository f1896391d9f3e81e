/-
  A slice that a call owns, wherever in its block it begins: what is left of it by what other calls do, and the marks that the laws write into it.
  Condition: slices shorter than 2^40.
-/
import Derived.Test.YtdniocdmncldjaaRSat
import Derived.Test.YtdniocdmncldjaaJH
namespace Go.Proofs.Ytdniocdmncldjaa
open Go.RowKit
set_option linter.unusedSimpArgs false
set_option linter.unusedVariables false

/-- v is a slice of integers in a block from 'base' on: it reads as zs, and it may be written. -/
def OwnR (w : World) (base : Nat) (v : Value) (zs : List Int) : Prop :=
  (∃ A c, v = .slice A zs.length c ∧ zs.length ≤ c) ∧ (∀ g, v.ownBlock = some g → base ≤ g ∧ g < w.heap.size) ∧
  (0 < zs.length → ∃ g off cs c, v = .slice (some ⟨g, off, none⟩) zs.length c ∧ w.heap[g]? = some (.cells cs 2 (0, 0)) ∧ ∀ (j : Nat) (x : Int), zs[j]? = some x → cs[off + j]? = some (.int .i64 x))
section
variable {w w' w1 : World} {base base1 B n c : Nat} {v v1 : Value} {zs zs1 : List Int} {A : Option Addr}
theorem OwnR.form (h : OwnR w base v zs) : ∃ A c, v = .slice A zs.length c ∧ zs.length ≤ c := h.1
theorem OwnR.lt (h : OwnR w base v zs) {g : Nat} (hg : v.ownBlock = some g) : base ≤ g ∧ g < w.heap.size := h.2.1 g hg
theorem OwnR.len (h : OwnR w base (.slice A n c) zs) : n = zs.length := by
  obtain ⟨A', c', e, _⟩ := h.1
  simp only [Value.slice.injEq] at e
  exact e.2.1
theorem OwnR.low (h : OwnR w base v zs) (hb : base1 ≤ base) : OwnR w base1 v zs := ⟨h.1, fun g hg => by have := h.2.1 g hg; omega, h.2.2⟩
theorem OwnR.ints (h : OwnR w base (.slice A n c) zs) : Ints .i64 w w.heap.size A zs.length zs := by
  refine ⟨rfl, fun hn => ?_⟩
  obtain ⟨g, off, cs, c', e, hg, hc⟩ := h.2.2 hn
  simp only [Value.slice.injEq] at e
  obtain ⟨rfl, _, _⟩ := e
  exact ⟨g, off, rfl, (Array.getElem?_eq_some_iff.1 hg).1, fun j x hx => by rw [cell_of_row w g (off + j) _ _ _ hg]; exact hc j x hx⟩
theorem OwnR.ints' (h : OwnR w base (.slice A n c) zs) (hl : zs.length = n) : Ints .i64 w w.heap.size A n zs := by subst hl; exact h.ints
theorem OwnR.grown {row : Option Nat} (h : OwnR w base v zs) (hg : w.grownBy w' row) (hne : v.ownBlock = none ∨ v.ownBlock ≠ row) : OwnR w' base v zs := by
  refine ⟨h.1, fun g hg' => ?_, fun hn => ?_⟩
  · have := h.2.1 g hg'
    have := hg.size
    omega
  · obtain ⟨g, off, cs, c', e, hh, hc⟩ := h.2.2 hn
    refine ⟨g, off, cs, c', e, ?_, hc⟩
    rw [hg.block g (Array.getElem?_eq_some_iff.1 hh).1 ?_]; exact hh
    subst e
    rcases hne with h0 | h0
    · cases h0
    · exact h0
theorem OwnR.below (h : OwnR w base v zs) (hb : Below B w w') (hB : w.heap.size ≤ B) : OwnR w' base v zs := by
  refine h.grown (row := none) ⟨hb.os, hb.tape, hb.output, hb.size, fun i hi _ => hb.block i (by omega)⟩ ?_
  rcases hv : v.ownBlock with _ | g
  · exact .inl rfl
  · exact .inr (by simp)
theorem OwnR.drew (h : OwnR w base v zs) : OwnR w.drew base v zs := h
theorem OwnR.drewN (h : OwnR w base v zs) (m : Nat) : OwnR (w.drewN m) base v zs := h
theorem blk_ne {a a' b b' : Nat} {v v1 : Value} (h : ∀ g, v.ownBlock = some g → a ≤ g ∧ g < a') (h1 : ∀ g, v1.ownBlock = some g → b ≤ g ∧ g < b') (hle : a' ≤ b) : v.ownBlock = none ∨ v.ownBlock ≠ v1.ownBlock := by
  rcases hv : v.ownBlock with _ | g
  · exact .inl rfl
  · refine .inr fun heq => ?_
    have a := h g hv
    have b := h1 g heq.symm
    omega
theorem blk_ne' {a a' b b' : Nat} {v v1 : Value} (h : ∀ g, v.ownBlock = some g → a ≤ g ∧ g < a') (h1 : ∀ g, v1.ownBlock = some g → b ≤ g ∧ g < b') (hle : a' ≤ b) : v1.ownBlock = none ∨ v1.ownBlock ≠ v.ownBlock := by
  rcases hv : v1.ownBlock with _ | g
  · exact .inl rfl
  · refine .inr fun heq => ?_
    have a := h1 g hv
    have b := h g heq.symm
    omega
section
variable {e e1 : TypeId} {k k1 : IntKind}
theorem OwnR.ne (h : OwnR w base v zs) (h1 : Own w1 base1 e1 k1 v1 zs1) (hle : w.heap.size ≤ base1) : v.ownBlock = none ∨ v.ownBlock ≠ v1.ownBlock := blk_ne h.2.1 (fun _ hg => h1.lt hg) hle
theorem OwnR.ne' (h : OwnR w base v zs) (h1 : Own w1 base1 e1 k1 v1 zs1) (hle : w.heap.size ≤ base1) : v1.ownBlock = none ∨ v1.ownBlock ≠ v.ownBlock := blk_ne' h.2.1 (fun _ hg => h1.lt hg) hle
theorem OwnR.neR (h : OwnR w base v zs) (h1 : OwnR w1 base1 v1 zs1) (hle : w.heap.size ≤ base1) : v.ownBlock = none ∨ v.ownBlock ≠ v1.ownBlock := blk_ne h.2.1 h1.2.1 hle
theorem OwnR.neR' (h : OwnR w base v zs) (h1 : OwnR w1 base1 v1 zs1) (hle : w.heap.size ≤ base1) : v1.ownBlock = none ∨ v1.ownBlock ≠ v.ownBlock := blk_ne' h.2.1 h1.2.1 hle
theorem Own.neR (h : Own w base e k v zs) (h1 : OwnR w1 base1 v1 zs1) (hle : w.heap.size ≤ base1) : v.ownBlock = none ∨ v.ownBlock ≠ v1.ownBlock := blk_ne (fun _ hg => h.lt hg) h1.2.1 hle
theorem Own.neR' (h : Own w base e k v zs) (h1 : OwnR w1 base1 v1 zs1) (hle : w.heap.size ≤ base1) : v1.ownBlock = none ∨ v1.ownBlock ≠ v.ownBlock := blk_ne' (fun _ hg => h.lt hg) h1.2.1 hle
end
/-- What is left of an owned list from an index on. -/
theorem Own.rest {lo g N : Nat} {pre : List Int} (h : Own w base 2 .i64 (.slice (some ⟨g, 0, none⟩) N c) (pre ++ zs)) (hp : pre.length = lo) (hc : N ≤ c) : OwnR w base (.slice (subA (some ⟨g, 0, none⟩) c lo) zs.length (c - lo)) zs := by
  have hN := h.len
  rw [List.length_append] at hN
  have hb := h.lt (g := g) rfl
  refine ⟨⟨_, _, rfl, by omega⟩, fun g' hg' => ?_, fun hn => ?_⟩
  · obtain rfl : g' = g := by
      unfold subA at hg'
      split at hg'
      · simpa [Value.ownBlock] using hg'.symm
      · rw [Option.map_some, addr_add] at hg'
        simpa [Value.ownBlock] using hg'.symm
    exact hb
  · rcases h.2 with ⟨h0, _⟩ | ⟨g', cap, cur, hv, hbs, hg, hnc, hmx, hs, ht⟩
    · cases h0
    · simp only [Value.slice.injEq, Option.some.injEq, Addr.mk.injEq, and_true] at hv
      obtain ⟨⟨rfl, _⟩, _, rfl⟩ := hv
      refine ⟨g, lo, cur, c - lo, ?_, hg, fun j x hx => ?_⟩
      · rw [subA, if_neg (by omega)]
        have : (⟨g, 0, none⟩ : Addr).add lo = ⟨g, lo, none⟩ := by rw [addr_add, Nat.zero_add]
        rw [Option.map_some, this]
      · have := h.cellAt (j := lo + j) (x := x) (by rw [List.getElem?_append_right (by omega), show lo + j - pre.length = j by omega, hx])
        rw [cell_of_row w g (lo + j) _ _ _ hg] at this
        exact this
theorem OwnR.stored {g off j : Nat} (h : OwnR w base (.slice (some ⟨g, off, none⟩) n c) zs) (hj : j < n) (x : Int) :
    w.frozen? ⟨g, off + j, none⟩ = false ∧ OwnR (w.setCell ⟨g, off + j, none⟩ (.int .i64 x)) base (.slice (some ⟨g, off, none⟩) n c) (zs.set j x) ∧ w.grownBy (w.setCell ⟨g, off + j, none⟩ (.int .i64 x)) (some g) := by
  have hl := h.len
  obtain ⟨g', off', cs, c', e, hg, hc⟩ := h.2.2 (by omega)
  simp only [Value.slice.injEq, Option.some.injEq, Addr.mk.injEq, and_true] at e
  obtain ⟨⟨rfl, rfl⟩, _, rfl⟩ := e
  refine ⟨by simp [World.frozen?, hg], ⟨⟨some ⟨g, off, none⟩, c, by rw [List.length_set, hl], ?_⟩, fun g' hg' => ?_, fun _ => ?_⟩, set_grown w g (off + j) _⟩
  · rw [List.length_set]
    obtain ⟨A', c'', e', h'⟩ := h.1
    simp only [Value.slice.injEq] at e'
    omega
  · have := h.2.1 g' hg'
    exact ⟨this.1, by simp [World.setCell]; exact this.2⟩
  · refine ⟨g, off, cs.setIfInBounds (off + j) (.int .i64 x), c, by rw [List.length_set, hl], heap_setCell_same w g (off + j) cs _ _ hg, fun t y hy => ?_⟩
    have hlt : j < zs.length := by omega
    have hin : off + j < cs.size := by
      have := hc j zs[j] (List.getElem?_eq_getElem hlt)
      exact (Array.getElem?_eq_some_iff.1 this).1
    rw [List.getElem?_set] at hy
    rw [Array.getElem?_setIfInBounds]
    by_cases e : j = t
    · subst e
      rw [if_pos rfl, if_pos hlt] at hy
      simp only [Option.some.injEq] at hy
      rw [if_pos rfl, if_pos hin, hy]
    · rw [if_neg e] at hy
      rw [if_neg (by omega)]
      exact hc t y hy
end

/-! Marks. -/
def MarkRelR (base k0 n : Nat) (zs : List Int) (v : Value) (w : World) (kk i : Value) (wr : World) : Prop :=
  ∃ j : Nat, j ≤ n ∧ i = .int .i64 j ∧ kk = .int .i64 ((k0 : Int) + (j : Int)) ∧ OwnR wr base v ((marks k0 n).take j ++ zs.drop j) ∧ w.grownBy wr v.ownBlock
set_option maxHeartbeats 400000 in
theorem markR (A : Option Addr) (n c base k0 : Nat) (zs : List Int) (w : World) (hO : OwnR w base (.slice A n c) zs) (hn : n ≤ 1099511627776) (hk0 : k0 ≤ 1099511627776) :
    Calls Try.prog 23 #[.slice A n c, .int .i64 (k0 : Int)] w fun x w' => x = .returned (.int .i64 ((k0 : Int) + (n : Int))) ∧ OwnR w' base (.slice A n c) (marks k0 n) ∧ w.grownBy w' (Value.slice A n c).ownBlock := by
  have hl := hide hO.len
  have HI := hide hO
  clear hO
  go_enter Try.func23, Try.ntmps23
  go_wp2
  go_loopw [1, 5] (fun kk i wr => MarkRelR base k0 n zs (.slice A n c) w kk i wr) (fun _ i _ => n - (intOf i).toNat)
  case atStart => exact ⟨0, by omega, rfl, by simp, by simpa using HI.out, World.grownBy.refl _ _⟩
  case round =>
    obtain ⟨j, hj, rfl, rfl, hOwn, hgr⟩ := hrel
    have HO := hide hOwn
    have HG := hide hgr
    by_cases hlt : j < n
    · obtain ⟨g, off, cs, c', e, _, _⟩ := hOwn.2.2 (by rw [← hOwn.len]; omega)
      have hnl := hOwn.len
      rw [← hnl] at e
      simp only [Value.slice.injEq, true_and] at e
      obtain ⟨rfl, rfl⟩ := e
      clear hOwn hgr hnl
      obtain ⟨b2, o2, y, he, _, hy, hc2⟩ := (HO.out.ints' (by rw [← HO.out.len])).at_ hlt
      simp only [Option.some.injEq, Addr.mk.injEq, and_true] at he
      obtain ⟨rfl, rfl⟩ := he
      have hf2 : wr.frozen? ⟨g, off + j, none⟩ = false := (HO.out.stored hlt 0).1
      have HD := hide (List.drop_eq_getElem_cons (l := zs) (i := j) (by rw [← hl.out]; exact hlt))
      generalize zs[j]'(by rw [← hl.out]; exact hlt) = y2 at HD
      clear hy
      go_wp2
      go_roundw
      case rel =>
        refine ⟨j + 1, by omega, by go_num, by go_num, ?_, grown_trans HG (HO.out.stored hlt _).2.2⟩
        have := (HO.out.stored hlt ((k0 : Int) + (j : Int))).2.1
        rw [HD.out, set_snoc (marks_at hlt)] at this
        exact this
      case measure => simp [intOf]; omega
    · have HE := hide (show n = j by omega)
      clear hOwn hgr
      go_wp2
      go_ret
      have hz : (marks k0 n).take j ++ zs.drop j = marks k0 n := by
        rw [List.take_of_length_le (by rw [marks_len]; omega), List.drop_of_length_le (by rw [← hl.out]; omega), List.append_nil]
      rw [hz] at HO
      exact ⟨ret_int (by rw [HE.out]), HO, HG⟩
theorem markR' (A : Option Addr) (n c base : Nat) (k : Int) (k0 : Nat) (zs : List Int) (w : World) (hO : OwnR w base (.slice A n c) zs) (hn : zs.length ≤ 1099511627776) (hk0 : k0 ≤ 1099511627776) (hk : k = (k0 : Int)) :
    Calls Try.prog 23 #[.slice A n c, .int .i64 k] w fun x w' => x = .returned (.int .i64 (k + (n : Int))) ∧ OwnR w' base (.slice A n c) (marks k0 n) ∧ w.grownBy w' (Value.slice A n c).ownBlock := by
  subst hk
  exact markR A n c base k0 zs w hO (by rw [hO.len]; exact hn) hk0
end Go.Proofs.Ytdniocdmncldjaa
