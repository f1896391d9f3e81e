/-
  Words for memory that every proof of this seat shares: a slice that reads as a list of integers, and a row that a call owns.
  No condition: these are plain definitions and lemmas.
-/
import Derived.WalkKit
import Derived.Below
import Derived.Lib.Hide
import Derived.Deep.Draws
import Derived.OwnWalk
namespace Go.Proofs.Ytfjagcalfnjddaa
open Go.RowKit

theorem ret_bool {a b : Bool} (h : b = a) : Ending.returned (.bool a) = .returned (.bool b) := by rw [h]
theorem ret_int {k : IntKind} {a b : Int} (h : b = a) : Ending.returned (.int k a) = .returned (.int k b) := by rw [h]
theorem hide {p : Prop} (h : p) : Hid p := h

/-- The slice with address A and length n reads as zs; where it is not empty it lies in a block below B. -/
def Ints (k : IntKind) (w : World) (B : Nat) (A : Option Addr) (n : Nat) (zs : List Int) : Prop :=
  zs.length = n ∧ (0 < n → ∃ b off, A = some ⟨b, off, none⟩ ∧ b < B ∧ ∀ (j : Nat) (x : Int), zs[j]? = some x → w.cell? ⟨b, off + j, none⟩ = some (.int k x))

section
variable {k : IntKind} {w w' : World} {B B' n : Nat} {A : Option Addr} {zs : List Int}

theorem Ints.len (h : Ints k w B A n zs) : zs.length = n := h.1
theorem Ints.empty : Ints k w B A 0 [] := ⟨rfl, fun h => absurd h (by omega)⟩

/-- The element at an index inside: its address, its value, its cell. -/
theorem Ints.at_ {j : Nat} (h : Ints k w B A n zs) (hj : j < n) :
    ∃ (b off : Nat) (x : Int), A = some ⟨b, off, none⟩ ∧ b < B ∧ zs[j]? = some x ∧ w.cell? ⟨b, off + j, none⟩ = some (.int k x) := by
  obtain ⟨b, off, rfl, hb, hc⟩ := h.2 (by omega)
  have hl : j < zs.length := by have := h.1; omega
  exact ⟨b, off, zs[j], rfl, hb, List.getElem?_eq_getElem hl, hc j _ (List.getElem?_eq_getElem hl)⟩

theorem Ints.keep (h : Ints k w B A n zs) (hk : ∀ b o, b < B → w'.cell? ⟨b, o, none⟩ = w.cell? ⟨b, o, none⟩) : Ints k w' B A n zs :=
  ⟨h.1, fun hn => by
    obtain ⟨b, off, e, hb, hc⟩ := h.2 hn
    exact ⟨b, off, e, hb, fun j x hx => (hk _ _ hb).trans (hc j x hx)⟩⟩
theorem Ints.more (h : Ints k w B A n zs) (hB : B ≤ B') : Ints k w B' A n zs :=
  ⟨h.1, fun hn => by
    obtain ⟨b, off, e, hb, hc⟩ := h.2 hn
    exact ⟨b, off, e, by omega, hc⟩⟩
theorem Ints.below (h : Ints k w B A n zs) (hb : Below B w w') : Ints k w' B A n zs := h.keep fun _ _ hp => hb.cell (p := ⟨_, _, none⟩) hp
theorem Ints.drew (h : Ints k w B A n zs) : Ints k w.drew B A n zs := h
theorem Ints.drewN (h : Ints k w B A n zs) (m : Nat) : Ints k (w.drewN m) B A n zs := h
end

/-- v is a slice of integers that was made from block 'base' on: it reads as zs, it may be written, nobody else has it. -/
def Own (w : World) (base : Nat) (e : TypeId) (k : IntKind) (v : Value) (zs : List Int) : Prop :=
  w.ownsRow base e 1 v zs.length (zs.map (Value.int k))

section
variable {k : IntKind} {w w' : World} {base B : Nat} {e : TypeId} {v : Value} {zs : List Int}

theorem Own.lt (h : Own w base e k v zs) {g : Nat} (hg : v.ownBlock = some g) : base ≤ g ∧ g < w.heap.size := World.ownsRow.lt h g hg

theorem Own.ints {A : Option Addr} {n c : Nat} (h : Own w base e k (.slice A n c) zs) : Ints k w w.heap.size A zs.length zs := by
  refine ⟨rfl, fun hn => ?_⟩
  rcases h.2 with ⟨_, h0⟩ | ⟨g, cap, cur, hv, hb, hg, hnc, hm, hs, ht⟩
  · omega
  · simp only [Value.slice.injEq] at hv
    obtain ⟨rfl, _, _⟩ := hv
    refine ⟨g, 0, rfl, (Array.getElem?_eq_some_iff.1 hg).1, fun j x hx => ?_⟩
    have := World.ownsRow.cells (g := g) h rfl j (.int k x) (by rw [List.getElem?_map, hx]; rfl)
    rw [show (⟨g, 0, none⟩ : Addr).add j = ⟨g, 0 + j, none⟩ by unfold Addr.add; split <;> simp_all] at this
    exact this

theorem Own.form (h : Own w base e k v zs) : ∃ A c, v = .slice A zs.length c ∧ zs.length ≤ c := by
  rcases h.2 with ⟨rfl, h0⟩ | ⟨g, cap, cur, hv, hb, hg, hnc, hm, hs, ht⟩
  · exact ⟨none, 0, by rw [h0], by omega⟩
  · exact ⟨_, cap, hv, hnc⟩

theorem Own.grown {row : Option Nat} (h : Own w base e k v zs) (hg : w.grownBy w' row) (hne : v.ownBlock = none ∨ v.ownBlock ≠ row) : Own w' base e k v zs :=
  World.ownsRow.kept h hg hne
theorem Own.below (h : Own w base e k v zs) (hb : Below B w w') (hB : w.heap.size ≤ B) : Own w' base e k v zs := by
  refine h.grown (row := none) ⟨hb.os, hb.tape, hb.output, hb.size, fun i hi _ => hb.block i (by omega)⟩ ?_
  rcases hv : v.ownBlock with _ | g
  · exact .inl rfl
  · exact .inr (by simp)
theorem Own.drew (h : Own w base e k v zs) : Own w.drew base e k v zs := h
theorem Own.drewN (h : Own w base e k v zs) (m : Nat) : Own (w.drewN m) base e k v zs := h

/-- Of two owned rows the later one lies in another block. -/
theorem Own.ne {w1 : World} {base1 : Nat} {e1 : TypeId} {k1 : IntKind} {v1 : Value} {zs1 : List Int} (h : Own w base e k v zs) (h1 : Own w1 base1 e1 k1 v1 zs1) (hle : w.heap.size ≤ base1) :
    v.ownBlock = none ∨ v.ownBlock ≠ v1.ownBlock := by
  rcases hv : v.ownBlock with _ | g
  · exact .inl rfl
  · refine .inr fun heq => ?_
    have a := h.lt hv
    have b := h1.lt heq.symm
    omega
theorem Own.ne' {w1 : World} {base1 : Nat} {e1 : TypeId} {k1 : IntKind} {v1 : Value} {zs1 : List Int} (h : Own w base e k v zs) (h1 : Own w1 base1 e1 k1 v1 zs1) (hle : w.heap.size ≤ base1) :
    v1.ownBlock = none ∨ v1.ownBlock ≠ v.ownBlock := by
  rcases hv : v1.ownBlock with _ | g
  · exact .inl rfl
  · refine .inr fun heq => ?_
    have a := h.lt heq.symm
    have b := h1.lt hv
    omega
end

theorem Own.intro {A : Option Addr} {n c : Nat} {w : World} {base : Nat} {e : TypeId} {k : IntKind} {zs : List Int} {xs : List Value} (h : w.ownsRow base e 1 (.slice A n c) n xs) (hl : n = zs.length) (hx : xs = zs.map (Value.int k)) : Own w base e k (.slice A n c) zs := by
  subst hx; unfold Own; rw [← hl]; exact h

section
variable {k : IntKind} {w w' : World} {base B n c g : Nat} {e : TypeId} {zs : List Int}
theorem Own.some_ {v : Value} (h : Own w base e k v zs) (hp : 0 < zs.length) : ∃ g c, v = .slice (some ⟨g, 0, none⟩) zs.length c ∧ base ≤ g ∧ g < w.heap.size ∧ zs.length ≤ c := by
  rcases h.2 with ⟨rfl, h0⟩ | ⟨g, cap, cur, hv, hb, hg, hnc, hm, hs, ht⟩
  · omega
  · exact ⟨g, cap, hv, hb, (Array.getElem?_eq_some_iff.1 hg).1, hnc⟩
theorem Own.len {A : Option Addr} (h : Own w base e k (.slice A n c) zs) : n = zs.length := by
  rcases h.2 with ⟨h1, h0⟩ | ⟨g, cap, cur, hv, _⟩
  · simp only [Value.slice.injEq] at h1; omega
  · simp only [Value.slice.injEq] at hv; exact hv.2.1
theorem Own.cellAt {j : Nat} {x : Int} (h : Own w base e k (.slice (some ⟨g, 0, none⟩) n c) zs) (hx : zs[j]? = some x) : w.cell? ⟨g, j, none⟩ = some (.int k x) := by
  have hl := h.len; subst hl
  have hj : j < zs.length := (List.getElem?_eq_some_iff.1 hx).1
  rw [World.ownsRow.cellAt h j (by omega), List.getElem?_map, hx]; rfl
theorem Own.frozenAt (j : Nat) (h : Own w base e k (.slice (some ⟨g, 0, none⟩) n c) zs) : w.frozen? ⟨g, j, none⟩ = false := by
  have hl := h.len; subst hl
  exact World.ownsRow.frozenAt h j
theorem Own.stored (h : Own w base e k (.slice (some ⟨g, 0, none⟩) n c) zs) (j : Nat) (x : Int) :
    Own (w.setCell ⟨g, j, none⟩ (.int k x)) base e k (.slice (some ⟨g, 0, none⟩) n c) (zs.set j x) ∧ w.grownBy (w.setCell ⟨g, j, none⟩ (.int k x)) (some g) := by
  have hl := h.len; subst hl
  have hs := World.ownsRow.stored h j (.int k x)
  refine ⟨Own.intro hs.1 (by simp) (by rw [List.map_set]), hs.2⟩
end

theorem set_snoc {zs ys : List Int} {j : Nat} {x y : Int} (hx : zs[j]? = some x) : (zs.take j ++ y :: ys).set j x = zs.take (j + 1) ++ ys := by
  have hj : j < zs.length := (List.getElem?_eq_some_iff.1 hx).1
  have hl : (zs.take j).length = j := by rw [List.length_take]; omega
  rw [List.set_append_right _ _ (by omega), hl, Nat.sub_self, List.set_cons_zero, List.take_add_one, hx]
  simp

theorem grownBelow {B : Nat} {w w' : World} {base : Nat} {e : TypeId} {k : IntKind} {v : Value} {zs : List Int} (h : Own w base e k v zs) (hg : w.grownBy w' v.ownBlock) (hB : B ≤ base) (hB2 : B ≤ w.heap.size) : Below B w w' :=
  (Below.refl B w).grown hg hB2 (fun g hv => by have := h.lt hv; omega)

/-- What a function leaves that returns a new slice of integers. -/
def NewInts (e : TypeId) (k : IntKind) (zs : List Int) (w : World) (x : Ending) (w' : World) : Prop :=
  ∃ A c, x = .returned (.slice A zs.length c) ∧ zs.length ≤ c ∧ Own w' w.heap.size e k (.slice A zs.length c) zs ∧ Below w.heap.size w w'

/-- What a function leaves that returns a value and at most makes new memory. -/
def Gives (v : Value) (w : World) (x : Ending) (w' : World) : Prop := x = .returned v ∧ Below w.heap.size w w'

theorem below_drewN {B : Nat} {a w : World} (h : Below B a w) (m : Nat) : Below B a (w.drewN m) := ⟨h.os, h.tape, h.output, h.size, h.block⟩
theorem grown_drewN {a w : World} {row : Option Nat} (h : a.grownBy w row) (m : Nat) : a.grownBy (w.drewN m) row := ⟨h.os, h.tape, h.output, h.size, h.block⟩
end Go.Proofs.Ytfjagcalfnjddaa
