/-
  The contracts of the model's functions that tell whether lists are polynomials, and of its small functions on lists.
  The contracts of the model's copies, shortened lists, coefficients and sums of polynomials.
  The contract of the model's quotients of polynomials.
  Condition: as each statement says.
-/
import Derived.Test.YtncgeoliboidhaaGreatVF
import Derived.Test.YtncgeoliboidhaaGreatVD
import Derived.Test.YtncgeoliboidhaaGreatTail
namespace Go.Proofs.YtncgeoliboidhaaGreat
open Go.RowKit
set_option linter.unusedSimpArgs false

def PcRel (w : World) (p k g : Int) (q n : Nat) (L : List (Option Addr × Nat × Nat × List Int)) (i : Value) (wr : World) : Prop :=
  ∃ j : Nat, j ≤ n ∧ i = .int .i64 j ∧ Hid (∀ e ∈ L.take j, polyB q e.2.2.2 = true) ∧ Box w wr 25 p k g

end Go.Proofs.YtncgeoliboidhaaGreat

namespace Go.Proofs.YtncgeoliboidhaaGreat
open Go.RowKit
set_option linter.unusedSimpArgs false
set_option linter.unusedVariables false

section
variable {R : Fld} {p k g : Int}
/-- What a function leaves that returns a new list of elements. -/
def NewE (ps : List (El R)) (w : World) (x : Ending) (w' : World) : Prop :=
  ∃ A c, x = .returned (.slice A ps.length c) ∧ ps.length ≤ c ∧ Own w' w.heap.size 2 .i64 (.slice A ps.length c) (iv ps) ∧ Below w.heap.size w w'
theorem newE_of {ps : List (El R)} {w w' : World} {v : Value} {base : Nat} (h : Own w' base 2 .i64 v (iv ps)) (hb : Below w.heap.size w w') (hB : w.heap.size ≤ base) : NewE ps w (.returned v) w' := by
  obtain ⟨A, c, rfl, hc⟩ := h.form
  rw [iv_len] at h hc ⊢
  exact ⟨A, c, rfl, hc, h.low hB, hb⟩
theorem Own.intsE {w : World} {base n c : Nat} {e : TypeId} {A : Option Addr} {ps : List (El R)} (h : Own w base e .i64 (.slice A n c) (iv ps)) : Ints .i64 w w.heap.size A n (iv ps) := by
  have := h.len; subst this; exact h.ints

set_option maxHeartbeats 1000000 in
theorem specOwnE (A : Option Addr) (n c B : Nat) (ps : List (El R)) (w : World) (hI : Ints .i64 w B A n (iv ps)) (hB : B ≤ w.heap.size) (hn : n ≤ 1099511627776) :
    Calls Tryz.prog 123 #[.slice A n c] w (NewE ps w) := by
  have HI := hide hI
  clear hI
  go_enter Tryz.func123, Tryz.ntmps123
  go_wp2_with (at_builtin; refine wpList_appL _ rfl _ _ _ rfl elem64 w.heap.size _ [] rfl (Own.lit0 w _ _) B A n c (iv ps) rfl (HI.out.below ((Below.refl B w).alloc hB _)) (by simp; omega) (by simp) ?_; intro v2 w2 hown hgr)
  have HO := hide (show Own w2 w.heap.size 2 .i64 v2 (iv ps) by simpa using hown)
  have HBl := hide (((Below.refl w.heap.size w).alloc (Nat.le_refl _) _).grown hgr (by simp) (fun g hg => ((Own.lit0 w 2 .i64).lt hg).1))
  clear hown hgr
  go_wp2_with fail
  go_ret
  exact newE_of HO HBl (Nat.le_refl _)

def StRel (n : Nat) (ps : List (El R)) (v : Value) : Prop :=
  ∃ m : Nat, m ≤ n ∧ v = .int .i64 m ∧ Hid (trim (ps.take m) = trim ps)

def AdRel (w : World) (p k g : Int) (N : Nat) (f : Nat → El R) (v i : Value) (wr : World) : Prop :=
  ∃ j : Nat, j ≤ N ∧ i = .int .i64 j ∧ Own wr (w.heap.size + 1) 2 .i64 v (iv (tab j f)) ∧ Box w wr 25 p k g

end
end Go.Proofs.YtncgeoliboidhaaGreat

namespace Go.Proofs.YtncgeoliboidhaaGreat
open Go.RowKit
set_option linter.unusedSimpArgs false
set_option linter.unusedVariables false

section
variable {R : Fld} {p k g : Int}
/-- What a function leaves that returns two new lists of elements. -/
def NewEE (qs rs : List (El R)) (w : World) (x : Ending) (w' : World) : Prop :=
  ∃ A c A' c', x = .returned (.tuple #[.slice A qs.length c, .slice A' rs.length c']) ∧ qs.length ≤ c ∧ rs.length ≤ c' ∧ Own w' w.heap.size 2 .i64 (.slice A qs.length c) (iv qs) ∧ Own w' w.heap.size 2 .i64 (.slice A' rs.length c') (iv rs) ∧
    (((Value.slice A qs.length c).ownBlock = none ∨ (Value.slice A qs.length c).ownBlock ≠ (Value.slice A' rs.length c').ownBlock) ∧ ((Value.slice A' rs.length c').ownBlock = none ∨ (Value.slice A' rs.length c').ownBlock ≠ (Value.slice A qs.length c).ownBlock)) ∧ Below w.heap.size w w'

def SvRel (w : World) (p k g : Int) (gr cr gq n K d : Nat) (ps qs : List (El R)) (v : El R) (i : Value) (wr : World) : Prop :=
  ∃ (j : Nat) (kk : Int) (f t : Nat → El R), j ≤ K ∧ kk = (j : Int) - 1 ∧ i = .int .i64 kk ∧ Hid (dvs (cf qs) d v j f = dvs (cf qs) d v K (cf ps)) ∧ Hid (∀ i, (if i < j then dvq (cf qs) d v j f i else t i) = dvq (cf qs) d v K (cf ps) i) ∧
    Own wr gr 2 .i64 (.slice (some ⟨gr, 0, none⟩) n cr) (iv (tab n f)) ∧ Own wr gq 2 .i64 (.slice (some ⟨gq, 0, none⟩) K K) (iv (tab K t)) ∧ Box w wr 25 p k g
def SiRel (w : World) (p k g : Int) (gr cr gq n m K s : Nat) (a : El R) (f t : Nat → El R) (qs : List (El R)) (i : Value) (wr : World) : Prop :=
  ∃ j : Nat, j ≤ m ∧ i = .int .i64 j ∧ Own wr gr 2 .i64 (.slice (some ⟨gr, 0, none⟩) n cr) (iv (tab n fun i => f i + up s a (cf (qs.take j)) i)) ∧ Own wr gq 2 .i64 (.slice (some ⟨gq, 0, none⟩) K K) (iv (tab K t)) ∧ Box w wr 25 p k g
theorem Own.at_block {w : World} {base g n c : Nat} {e : TypeId} {k : IntKind} {zs : List Int} (h : Own w base e k (.slice (some ⟨g, 0, none⟩) n c) zs) : Own w g e k (.slice (some ⟨g, 0, none⟩) n c) zs := by
  refine ⟨h.1, ?_⟩
  rcases h.2 with ⟨h0, _⟩ | ⟨g', cap, cur, h1, h2, h3⟩
  · cases h0
  · refine .inr ⟨g', cap, cur, h1, ?_, h3⟩
    simp only [Value.slice.injEq, Option.some.injEq, Addr.mk.injEq, and_true] at h1
    omega
theorem Box.set'' {w wr : World} {t : TypeId} {b : Nat} (h : Box w wr t p k g) (hb : w.heap.size < b) (j : Nat) (u : Value) : Box w (wr.setCell ⟨b, j, none⟩ u) t p k g :=
  h.grow' (set_grown wr b j u) (fun r hr => by simp only [Option.some.injEq] at hr; omega)

end
end Go.Proofs.YtncgeoliboidhaaGreat
