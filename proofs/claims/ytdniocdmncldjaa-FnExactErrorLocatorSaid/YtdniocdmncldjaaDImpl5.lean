/-
  The contract of the algorithm of Euclid, of the program.
  Condition: the code is valid.
-/
import Derived.Test.YtdniocdmncldjaaDImpl4
import Derived.Test.YtdniocdmncldjaaTail2
import Derived.WalkMore
namespace Go.Proofs.Ytdniocdmncldjaa
open Go.RowKit
set_option linter.unusedSimpArgs false
set_option linter.unusedVariables false

/-- A slice in a block of its own. -/
def Box1 (w : World) (b : Nat) (A : Option Addr) (n c : Nat) : Prop := w.heap[b]? = some (.cells #[.slice A n c] 59 (0, 0))
section
variable {w w' : World} {b n c : Nat} {A : Option Addr}
theorem Box1.cell (h : Box1 w b A n c) : w.cell? ⟨b, 0, none⟩ = some (.slice A n c) := by rw [cell_of_row w b 0 _ _ _ h]; rfl
theorem Box1.frozen (h : Box1 w b A n c) : w.frozen? ⟨b, 0, none⟩ = false := by
  unfold Box1 at h
  simp [World.frozen?, h]
theorem Box1.lt (h : Box1 w b A n c) : b < w.heap.size := (Array.getElem?_eq_some_iff.1 h).1
theorem Box1.below {B : Nat} (h : Box1 w b A n c) (hb : Below B w w') (hB : b < B) : Box1 w' b A n c := by unfold Box1; rw [hb.block _ hB]; exact h
theorem Box1.next (h : Box1 w b A n c) (hb : Below w.heap.size w w') : Box1 w' b A n c := h.below hb h.lt
theorem Box1.alloc (h : Box1 w b A n c) (o : Obj) : Box1 (w.alloc o) b A n c := h.next ((Below.refl _ _).alloc (Nat.le_refl _) o)
theorem Box1.new (w : World) (A : Option Addr) (n c : Nat) : Box1 (w.alloc (.cells #[.slice A n c] 59)) w.heap.size A n c := heap_alloc_new w _
theorem Box1.set (h : Box1 w b A n c) (A' : Option Addr) (n' c' : Nat) : Box1 (w.setCell ⟨b, 0, none⟩ (.slice A' n' c')) b A' n' c' := heap_setCell_same w b 0 _ _ _ h
theorem Box1.other {b' : Nat} {u : Value} (h : Box1 w b A n c) (hne : b ≠ b') : Box1 (w.setCell ⟨b', 0, none⟩ u) b A n c := by
  unfold Box1; rw [heap_setCell_other w ⟨b', 0, none⟩ b u hne]; exact h
theorem Box1.otherA {a : Addr} {u : Value} (h : Box1 w b A n c) (hne : b ≠ a.block) : Box1 (w.setCell a u) b A n c := by
  unfold Box1; rw [heap_setCell_other w a b u hne]; exact h
theorem Box1.drew (h : Box1 w b A n c) : Box1 w.drew b A n c := h
/-- What lies in other blocks than the box stays. -/
theorem Box1.ints {A' : Option Addr} {B n' : Nat} {zs : List Int} {u : Value} (h : Box1 w b A n c) (hI : Ints .i64 w B A' n' zs) : Ints .i64 (w.setCell ⟨b, 0, none⟩ u) B A' n' zs := by
  refine ⟨hI.1, fun h0 => ?_⟩
  obtain ⟨b', off, e, hb, hc⟩ := hI.2 h0
  refine ⟨b', off, e, hb, fun j x hx => ?_⟩
  have h1 := hc j x hx
  have hne : b' ≠ b := fun e => by
    rw [e, cell_of_row w b (off + j) _ _ _ h] at h1
    rcases hj : off + j with _ | t
    · rw [hj] at h1; simp at h1
    · rw [hj] at h1; simp at h1
  rw [← h1]
  exact World.cell?_of_block (heap_setCell_other w ⟨b, 0, none⟩ b' u hne)
end

section
variable {R : Fld} {γ : El R} {p k g : Int} {l c : Nat}
/-- What stays: the code in its box, boxes and lists. -/
def Kept (w wr : World) (p k g : Int) (l c : Nat) (Bs : List (Nat × Option Addr × Nat × Nat)) (Is : List (Option Addr × Nat × List Int)) : Prop :=
  CBox w wr p k g l c ∧ (∀ t ∈ Bs, Box1 wr t.1 t.2.1 t.2.2.1 t.2.2.2) ∧ ∀ t ∈ Is, Ints .i64 wr wr.heap.size t.1 t.2.1 t.2.2
section
variable {w wr wr' : World} {Bs : List (Nat × Option Addr × Nat × Nat)} {Is : List (Option Addr × Nat × List Int)}
theorem Kept.next (h : Kept w wr p k g l c Bs Is) (hb : Below wr.heap.size wr wr') : Kept w wr' p k g l c Bs Is :=
  ⟨h.1.next hb, fun t ht => (h.2.1 t ht).next hb, fun t ht => ((h.2.2 t ht).below hb).more hb.size⟩
theorem Kept.alloc (h : Kept w wr p k g l c Bs Is) (o : Obj) : Kept w (wr.alloc o) p k g l c Bs Is := h.next ((Below.refl _ _).alloc (Nat.le_refl _) o)
theorem Kept.drew (h : Kept w wr p k g l c Bs Is) : Kept w wr.drew p k g l c Bs Is := ⟨h.1.drew, fun t ht => (h.2.1 t ht).drew, fun t ht => (h.2.2 t ht).drew⟩
theorem Kept.drewN (h : Kept w wr p k g l c Bs Is) (n : Nat) : Kept w (wr.drewN n) p k g l c Bs Is := ⟨h.1.drewN n, fun t ht => (h.2.1 t ht), fun t ht => (h.2.2 t ht).drewN n⟩
theorem Kept.box (h : Kept w wr p k g l c Bs Is) {b n m : Nat} {A : Option Addr} (ht : (b, A, n, m) ∈ Bs) : Box1 wr b A n m := h.2.1 _ ht
theorem Kept.ints (h : Kept w wr p k g l c Bs Is) {n : Nat} {A : Option Addr} {zs : List Int} (ht : (A, n, zs) ∈ Is) : Ints .i64 wr wr.heap.size A n zs := h.2.2 _ ht
theorem Kept.more (h : Kept w wr p k g l c Bs Is) {n : Nat} {A : Option Addr} {zs : List Int} (hI : Ints .i64 wr wr.heap.size A n zs) : Kept w wr p k g l c Bs ((A, n, zs) :: Is) :=
  ⟨h.1, h.2.1, fun t ht => by rcases List.mem_cons.1 ht with rfl | ht; exact hI; exact h.2.2 t ht⟩
theorem Kept.boxP (h : Kept w wr p k g l c Bs Is) {b n m : Nat} {A : Option Addr} {ps : List (El R)} (h1 : (b, A, n, m) ∈ Bs) (h2 : (A, n, iv ps) ∈ Is) (hl : ps.length = n) (hN : w.heap.size < b) : ∃ A c, Box1 wr b A n c ∧ ps.length = n ∧ Ints .i64 wr wr.heap.size A n (iv ps) ∧ w.heap.size < b :=
  ⟨A, m, h.box h1, hl, h.ints h2, hN⟩
/-- A box is written. -/
theorem Kept.put (h : Kept w wr p k g l c Bs Is) {b n m n' m' : Nat} {A A' : Option Addr} (hb : Box1 wr b A n m) (hw : w.heap.size < b) :
    Kept w (wr.setCell ⟨b, 0, none⟩ (.slice A' n' m')) p k g l c ((b, A', n', m') :: Bs.filter fun t => t.1 != b) Is := by
  have hg := set_grown wr b 0 (.slice A' n' m')
  refine ⟨h.1.set hw 0 _, fun t ht => ?_, fun t ht => ?_⟩
  · rcases List.mem_cons.1 ht with rfl | ht
    · exact hb.set A' n' m'
    · obtain ⟨h1, h2⟩ := List.mem_filter.1 ht
      exact (h.2.1 t h1).other (by simpa using h2)
  · have := hb.ints (u := .slice A' n' m') (h.2.2 t ht)
    rwa [show (wr.setCell ⟨b, 0, none⟩ (.slice A' n' m')).heap.size = wr.heap.size by simp [World.setCell]]
theorem Kept.sub (h : Kept w wr p k g l c Bs Is) {Bs' : List (Nat × Option Addr × Nat × Nat)} {Is' : List (Option Addr × Nat × List Int)} (h1 : ∀ t ∈ Bs', t ∈ Bs) (h2 : ∀ t ∈ Is', t ∈ Is) : Kept w wr p k g l c Bs' Is' :=
  ⟨h.1, fun t ht => h.2.1 t (h1 t ht), fun t ht => h.2.2 t (h2 t ht)⟩
end

/-- What the algorithm leaves: the polynomial that it ends with, with 1 as its first coefficient. -/
def ElPost (c r : Nat) (T : List (El R)) (w : World) (x : Ending) (w' : World) : Prop :=
  ∃ a b u v : List (El R), Eu c r T a b u v ∧ 2 * b.length < c + r + 2 ∧ ((cf v 0 = 0 ∧ NewIB [] false w x w') ∨ (cf v 0 ≠ 0 ∧ NewIB (iv (scaP (cf v 0).inv v)) true w x w'))

/-- A polynomial in a box. -/
def BoxP (wr : World) (N b : Nat) (ps : List (El R)) (n : Nat) : Prop := ∃ A c, Box1 wr b A n c ∧ ps.length = n ∧ Ints .i64 wr wr.heap.size A n (iv ps) ∧ N < b
/-- The four boxes, before and behind the half of a step. -/
def EuRel (w : World) (p k g : Int) (l c r : Nat) (T : List (El R)) (s t s' t' : Value) (wr : World) : Prop :=
  ∃ (d e o f : Nat) (a b u v : List (El R)) (na nb nu nv : Nat), s = .pointer (some ⟨d, 0, none⟩) ∧ t = .pointer (some ⟨e, 0, none⟩) ∧ s' = .pointer (some ⟨o, 0, none⟩) ∧ t' = .pointer (some ⟨f, 0, none⟩) ∧
    d ≠ e ∧ d ≠ o ∧ d ≠ f ∧ e ≠ o ∧ e ≠ f ∧ o ≠ f ∧ BoxP wr w.heap.size d a na ∧ BoxP wr w.heap.size e b nb ∧ BoxP wr w.heap.size o u nu ∧ BoxP wr w.heap.size f v nv ∧ CBox w wr p k g l c ∧
    (Eu c r T a b u v ∨ (Eu c r T b a v u ∧ c + r + 2 ≤ 2 * nb))
theorem BoxP.new {wr : World} {N b n c : Nat} {A : Option Addr} {ps : List (El R)} (h : Box1 wr b A n c) (hI : Ints .i64 wr wr.heap.size A n (iv ps)) (hN : N < b) : BoxP wr N b ps n := ⟨A, c, h, by rw [← iv_len]; exact hI.len, hI, hN⟩
theorem BoxP.drewN {wr : World} {N b n : Nat} {ps : List (El R)} (h : BoxP wr N b ps n) (m : Nat) : BoxP (wr.drewN m) N b ps n := by
  obtain ⟨A, c, h1, h2, h3, h4⟩ := h
  exact ⟨A, c, h1, h2, h3.drewN m, h4⟩
theorem below4 (w : World) (o1 o2 o3 o4 : Obj) : Below w.heap.size w ((((w.alloc o1).alloc o2).alloc o3).alloc o4) :=
  ((((Below.refl w.heap.size w).alloc (Nat.le_refl _) o1).alloc (by rw [alloc_size]; omega) o2).alloc (by rw [alloc_size, alloc_size]; omega) o3).alloc (by rw [alloc_size, alloc_size, alloc_size]; omega) o4
theorem xpow_set (c : Nat) : (iv (tab (c + 1) fun _ => (0 : El R))).set c 1 = iv (xpow c : List (El R)) := by
  have h := iv_set (tab (c + 1) fun _ => (0 : El R)) c 1
  rw [tab_set] at h
  exact h
def boxLen (v : Value) (wr : World) : Nat := match v with | .pointer (some p) => (match wr.cell? p with | some (.slice _ n _) => n | _ => 0) | _ => 0
def euMeas (s t : Value) (wr : World) : Nat := 2 * (boxLen s wr + boxLen t wr) + (if boxLen s wr < boxLen t wr then 1 else 0)

end
end Go.Proofs.Ytdniocdmncldjaa
