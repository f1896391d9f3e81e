/-
  Words for memory that a function writes into; the contract of the program's sum of a polynomial and a multiple of another one.
  Condition: the field is valid, and the written list is long enough and lies behind the other one.
-/
import Derived.Test.YthafkohopkgckaaFld
import Derived.Test.YthafkohopkgckaaMarks
import Derived.Deep.RegionHeld3
import Derived.Deep.RegionLaw
namespace Go.Proofs.Ythafkohopkgckaa
open Go.RowKit
set_option linter.unusedSimpArgs false

theorem elemP : IsElem Try.prog 70 2 .i64 8 := ⟨Try.underlying70, info64, by omega⟩

theorem Ints.grown {k : IntKind} {w w' : World} {B n : Nat} {A : Option Addr} {zs : List Int} {row : Option Nat} (h : Ints k w B A n zs) (hg : w.grownBy w' row) (hB : B ≤ w.heap.size) (hr : ∀ r, row = some r → B ≤ r) : Ints k w' B A n zs :=
  h.keep fun b o hb => grown_cell (p := ⟨b, o, none⟩) hg (show b < _ by omega) (fun e => by have := hr _ e; simp only at this; omega)
theorem grown_below' {a w w' : World} {row : Option Nat} {B : Nat} (h : a.grownBy w row) (hb : Below B w w') (hB : a.heap.size ≤ B) : a.grownBy w' row :=
  ⟨hb.os.trans h.os, hb.tape.trans h.tape, hb.output.trans h.output, Nat.le_trans h.size hb.size, fun i hi hne => (hb.block i (by omega)).trans (h.block i hi hne)⟩
theorem set_grown (w : World) (g j : Nat) (u : Value) : w.grownBy (w.setCell ⟨g, j, none⟩ u) (some g) :=
  ⟨rfl, rfl, rfl, by simp [World.setCell], fun i _ hne => Below.heap_setCell w ⟨g, j, none⟩ u i (fun e => hne (by simp [e]))⟩
theorem grown_set' {a w : World} {g : Nat} (h : a.grownBy w (some g)) (j : Nat) (u : Value) : a.grownBy (w.setCell ⟨g, j, none⟩ u) (some g) :=
  grown_trans h (set_grown w g j u)
/-- The struct that a call was given lies in the first block that it made; of the blocks before it at most one was written. -/
def Bx (w wr : World) (t : TypeId) (p k g : Int) (row : Option Nat) : Prop :=
  wr.heap[w.heap.size]? = some (.cells #[.int .i64 p, .int .i64 k, .int .i64 g] t (0, 0)) ∧ w.grownBy wr row
section
variable {w wr wr' : World} {t : TypeId} {p k g : Int} {row : Option Nat}
theorem Bx.start (w : World) (t : TypeId) (p k g : Int) (row : Option Nat) : Bx w (w.alloc (.cells #[.int .i64 p, .int .i64 k, .int .i64 g] t)) t p k g row :=
  ⟨heap_alloc_new w _, World.grownBy_alloc w _ _⟩
theorem Bx.lt (h : Bx w wr t p k g row) : w.heap.size < wr.heap.size := (Array.getElem?_eq_some_iff.1 h.1).1
theorem Bx.next (h : Bx w wr t p k g row) (hb : Below wr.heap.size wr wr') : Bx w wr' t p k g row :=
  ⟨by rw [hb.block _ h.lt]; exact h.1, grown_below' h.2 hb (Nat.le_of_lt h.lt)⟩
theorem Bx.drew (h : Bx w wr t p k g row) : Bx w wr.drew t p k g row := ⟨h.1, ⟨h.2.os, h.2.tape, h.2.output, h.2.size, h.2.block⟩⟩
theorem Bx.cells (h : Bx w wr t p k g row) : wr.cell? ⟨w.heap.size, 0, none⟩ = some (.int .i64 p) ∧ wr.cell? ⟨w.heap.size, 1, none⟩ = some (.int .i64 k) ∧ wr.cell? ⟨w.heap.size, 2, none⟩ = some (.int .i64 g) := cells3 h.1
theorem Bx.set {b : Nat} (h : Bx w wr t p k g (some b)) (hb : b ≠ w.heap.size) (j : Nat) (u : Value) : Bx w (wr.setCell ⟨b, j, none⟩ u) t p k g (some b) :=
  ⟨by rw [(set_grown wr b j u).block _ h.lt (by simpa using Ne.symm hb)]; exact h.1, grown_set' h.2 j u⟩
end

section
variable {R : Fld}
/-- One more coefficient is added. -/
theorem add_snoc {n s j : Nat} {a : El R} {f : Nat → El R} {qs : List (El R)} :
    (tab n fun i => f i + up s a (cf (qs.take j)) i).set (s + j) (f (s + j) + a * cf qs j) = tab n fun i => f i + up s a (cf (qs.take (j + 1))) i := by
  rw [tab_set]
  refine tab_congr fun i _ => ?_
  have hc : ∀ m l : Nat, cf (qs.take m) l = if l < m then cf qs l else 0 := fun m l => by
    unfold cf; simp only [List.getD_eq_getElem?_getD, List.getElem?_take]; split <;> simp
  by_cases hi : i = s + j
  · subst hi; rw [if_pos rfl, up_add, hc, if_pos (by omega)]
  · rw [if_neg hi]
    unfold up; split
    · rw [hc, hc]
      by_cases hl : i - s < j
      · rw [if_pos hl, if_pos (by omega)]
      · rw [if_neg hl, if_neg (by omega)]
    · rfl
theorem add_at {n s j : Nat} {a : El R} {f : Nat → El R} {qs : List (El R)} (hn : s + j < n) :
    (tab n fun i => f i + up s a (cf (qs.take j)) i)[s + j]? = some (f (s + j)) := by
  rw [tab_at _ hn, up_add, cf_out (by rw [List.length_take]; omega), em0, ea0]
theorem add_none {n s : Nat} {a : El R} {f : Nat → El R} {qs : List (El R)} : tab n f = tab n fun i => f i + up s a (cf (qs.take 0)) i := by
  refine tab_congr fun i _ => ?_
  have : up s a (cf (qs.take 0)) i = 0 := by unfold up; split; rw [show cf (qs.take 0) (i - s) = 0 from cf_out (by simp), em0]; rfl
  rw [this, ea0]
end

def AmRel {R : Fld} (w : World) (p k g : Int) (base n c gB s m : Nat) (a : El R) (f : Nat → El R) (qs : List (El R)) (i : Value) (wr : World) : Prop :=
  ∃ j : Nat, j ≤ m ∧ i = .int .i64 j ∧ Own wr base 2 .i64 (.slice (some ⟨gB, 0, none⟩) n c) (iv (tab n fun i => f i + up s a (cf (qs.take j)) i)) ∧ Bx w wr 25 p k g (some gB)

/-- What is left when a multiple has been added in its place. -/
def Added {R : Fld} (base n c gB s : Nat) (a : El R) (f : Nat → El R) (qs : List (El R)) (w : World) (x : Ending) (w' : World) : Prop :=
  x = .returned (.tuple #[]) ∧ Own w' base 2 .i64 (.slice (some ⟨gB, 0, none⟩) n c) (iv (tab n fun i => f i + up s a (cf qs) i)) ∧ w.grownBy w' (some gB)

theorem am_next {R : Fld} {base n c gB s j t : Nat} {a u y : El R} {f : Nat → El R} {qs : List (El R)} {w3 : World} (ht : t = s + j) (hu : u = f (s + j)) (hy : y = cf qs j)
    (hO : Own w3 base 2 .i64 (.slice (some ⟨gB, 0, none⟩) n c) (iv (tab n fun i => f i + up s a (cf (qs.take j)) i))) :
    Own (w3.setCell ⟨gB, t, none⟩ (.int .i64 ((u + a * y).val : Nat))) base 2 .i64 (.slice (some ⟨gB, 0, none⟩) n c) (iv (tab n fun i => f i + up s a (cf (qs.take (j + 1))) i)) := by
  have h := (hO.stored t ((u + a * y).val : Nat)).1
  rw [iv_set, ht, hu, hy, add_snoc] at h
  rw [ht, hu, hy]
  exact h

set_option maxHeartbeats 2000000 in
theorem implAddMul {R : Fld} {p k g : Int} (h : FldIs R p k g) (a : El R) (s n c gB base : Nat) (f : Nat → El R) (qs : List (El R)) (A : Option Addr) (m cq B : Nat) (w : World)
    (hO : Own w base 2 .i64 (.slice (some ⟨gB, 0, none⟩) n c) (iv (tab n f))) (hI : Ints .i64 w B A m (iv qs)) (hB : B ≤ gB) (hsm : m = 0 ∨ s + m ≤ n) (hs : s ≤ 1099511627776) (hn : n ≤ 1099511627776) :
    Calls Try.prog 100 #[.slice (some ⟨gB, 0, none⟩) n c, .agg #[.int .i64 p, .int .i64 k, .int .i64 g], .int .i64 a.val, .int .i64 s, .slice A m cq] w (Added base n c gB s a f qs w) := by
  have hgl : gB < w.heap.size := (hO.lt (g := gB) rfl).2
  have hm : qs.length = m := by rw [← iv_len]; exact hI.len
  have HI := hide hI
  have HX := hide (Bx.start w 25 p k g (some gB))
  have HO := hide (hO.alloc (.cells #[.int .i64 p, .int .i64 k, .int .i64 g] 25))
  clear hI hO
  go_enter Try.func100, Try.ntmps100
  go_wp2_with fail
  go_loopw [14] (fun i wr => AmRel w p k g base n c gB s m a f qs i wr) (fun i _ => m - (intOf i).toNat)
  case atStart => exact ⟨0, by omega, rfl, by rw [← add_none]; exact HO, HX⟩
  case round =>
    clear HX HO
    obtain ⟨j, hj, rfl, HO, HX⟩ := hrel
    have HX := hide HX
    have HO := hide HO
    by_cases hlt : j < m
    · obtain ⟨b, off, x, rfl, hb, hx, hc⟩ := (HI.out.grown HX.out.2 (by omega) (fun r hr => by simp only [Option.some.injEq] at hr; omega)).at_ hlt
      rw [iv_at (by omega)] at hx
      simp only [Option.some.injEq] at hx
      subst hx
      obtain ⟨y, hy⟩ : ∃ y, y = cf qs j := ⟨_, rfl⟩
      rw [← hy] at hc
      have HY := hide hy
      clear hy
      obtain ⟨c0, c1, c2⟩ := HX.out.cells
      have hcx := HO.out.cellAt (j := s + j) (x := ((f (s + j)).val : Int)) (by rw [iv, List.getElem?_map, add_at (by omega)]; rfl)
      have hfx := HO.out.frozenAt (s + j)
      obtain ⟨t, ht⟩ : ∃ t, t = s + j := ⟨_, rfl⟩
      obtain ⟨u, hu⟩ : ∃ u, u = f (s + j) := ⟨_, rfl⟩
      rw [← hu, ← ht] at hcx
      rw [← ht] at hfx
      have htn : t < n := by omega
      have HT := hide ht
      have HU := hide hu
      have HC := hide (And.intro c0 (And.intro c1 (And.intro c2 hfx)))
      have hw1 : IntKind.i64.wrap ((s : Int) + (j : Int)) = (t : Int) := by rw [IntWalk.i64_in _ ⟨by omega, by omega⟩]; omega
      clear hu ht c0 c1 c2 hfx
      have hne : gB ≠ w.heap.size := by omega
      have HNE := hide hne
      clear hne
      go_wp2_with fail
      obtain ⟨d0, d1, d2, hfx⟩ := HC.out
      go_region_law (first
          | (go_simp; go_at_call 64; refine (implProdE h a y _).mono ?_; rintro e w2 ⟨rfl, hb2⟩; have HX2 := hide (HX.out.drew.next hb2); have HO2 := hide (HO.out.drew.below hb2 (Nat.le_refl _)); obtain ⟨e0, e1, e2⟩ := HX2.out.cells; have hfx2 := HO2.out.frozenAt t; have hcx2 := (hb2.cell (p := ⟨gB, t, none⟩) (show gB < _ from Nat.lt_trans hgl HX.out.lt)).trans hcx; clear hb2)
          | (go_simp; go_at_call 59; refine (implSumE h u (a * y) _).mono ?_; rintro e w3 ⟨rfl, hb3⟩; have HX3 := hide (HX2.out.next hb3); have HO3 := hide (HO2.out.below hb3 (Nat.le_refl _)); have hfx3 := HO3.out.frozenAt t; have hcx3 := (hb3.cell (p := ⟨gB, t, none⟩) (show gB < _ from Nat.lt_trans hgl HX2.out.lt)).trans hcx2; clear hb3))
      all_goals
        go_wp2_with fail
        go_roundw
        case rel => exact ⟨j + 1, by omega, by go_num, am_next HT HU HY HO3, HX3.out.set HNE.out t _⟩
        case measure => simp [intOf]; omega
    · obtain rfl : j = m := by omega
      go_wp2_with fail
      go_end0
      exact ⟨rfl, by rw [List.take_of_length_le (by omega)] at HO; exact HO, HX.out.2⟩
end Go.Proofs.Ythafkohopkgckaa
