/-
  A range over the order of a stream: the law for its callers; StreamIndex of the program.
  Condition: the layout has one block at least, and its numbers are small.
-/
import Derived.Test.YtlphodhecaagbaaGreatLay2
import Derived.Test.YtlphodhecaagbaaGreatLay4
import Derived.Test.YtlphodhecaagbaaGreatMat
import Derived.Test.YtlphodhecaagbaaGreatFence
namespace Go.Proofs.YtlphodhecaagbaaGreat
open Go Go.RowKit
set_option linter.unusedSimpArgs false
set_option linter.unusedVariables false
attribute [local go_sem] Oper.semAt_some

/-- Some new blocks, and a change of one block from B on that holds no cells. -/
def Turn (B : Nat) (W W' : World) : Prop := ∃ row, W.grownBy W' row ∧ ∀ r, row = some r → B ≤ r ∧ ∃ o : Obj, W.heap[r]? = some o ∧ o.isCells = false
section
variable {B : Nat} {W W' : World}
theorem turn_below (h : Below W.heap.size W W') : Turn B W W' := ⟨none, ⟨h.os, h.tape, h.output, h.size, fun i hi _ => h.block i hi⟩, fun r e => by cases e⟩
theorem Turn.row {b : Nat} {cs : Array Value} {t : TypeId} {f : Nat × Nat} (h : Turn B W W') (hb : W.heap[b]? = some (.cells cs t f)) : W'.heap[b]? = some (.cells cs t f) := by
  obtain ⟨row, hg, hr⟩ := h
  refine (hg.block b (Array.getElem?_eq_some_iff.1 hb).1 fun e => ?_).trans hb
  obtain ⟨_, o, ho, hc⟩ := hr b e.symm
  rw [hb] at ho; cases ho; cases hc
theorem Turn.apart {base : Nat} {e : TypeId} {size n : Nat} {v : Value} {xs : List Value} (h : Turn B W W') (ho : W.ownsRow base e size v n xs) : ∃ row, W.grownBy W' row ∧ (v.ownBlock = none ∨ v.ownBlock ≠ row) := by
  obtain ⟨row, hg, hr⟩ := h
  refine ⟨row, hg, ?_⟩
  rcases ho.2 with ⟨rfl, _⟩ | ⟨g, cap, cur, rfl, _, hgb, _⟩
  · exact .inl rfl
  · refine .inr fun e' => ?_
    obtain ⟨_, o, ho, hc⟩ := hr g (by simpa [Value.ownBlock] using e'.symm)
    rw [hgb] at ho; cases ho; cases hc
theorem Turn.owns {base : Nat} {e : TypeId} {size n : Nat} {v : Value} {xs : List Value} (h : Turn B W W') (ho : W.ownsRow base e size v n xs) : W'.ownsRow base e size v n xs := by
  obtain ⟨row, hg, hne⟩ := h.apart ho
  exact ho.kept hg hne
theorem Turn.own {base : Nat} {e : TypeId} {k : IntKind} {v : Value} {zs : List Int} (h : Turn B W W') (ho : Go.Proofs.YtlphodhecaagbaaGreat.Own W base e k v zs) : Go.Proofs.YtlphodhecaagbaaGreat.Own W' base e k v zs := Turn.owns h ho
theorem Turn.mat {base n : Nat} {v : Value} {vs : List Value} {Z : Nat → List Int} (h : Turn B W W') (hm : Mat W base v n vs Z) : Mat W' base v n vs Z :=
  ⟨h.owns hm.row, ⟨fun k u hu => h.own (hm.rows.own k u hu), hm.rows.dis⟩, hm.out⟩
theorem Turn.below {B0 : Nat} {W0 : World} (h : Turn B W W') (hb : Below B0 W0 W) (h1 : B0 ≤ W0.heap.size) (h2 : B0 ≤ B) : Below B0 W0 W' := by
  obtain ⟨row, hg, hr⟩ := h
  exact hb.grown hg (Nat.le_trans h1 hb.size) fun r e => Nat.le_trans h2 (hr r e).1
theorem Turn.size (h : Turn B W W') : W.heap.size ≤ W'.heap.size := by obtain ⟨row, hg, _⟩ := h; exact hg.size
end
/-- What abides such turns. -/
def Steady {α : Type} (B : Nat) (I : List α → World → Prop) : Prop := ∀ s W W', I s W → Turn B W W' → I s W'
theorem Steady.from {α : Type} {B : Nat} {I : List α → World → Prop} (h : Steady B I) : OwnFrom B I := fun s W W' row hs hg hr => h s W W' hs ⟨row, hg, hr⟩
theorem keeps_below {B : Nat} {W W' : World} (h : Below W.heap.size W W') : KeepsFrom B W W' :=
  (KeepsOthers.of_grownBy (row := none) ⟨h.os, h.tape, h.output, h.size, fun i hi _ => h.block i hi⟩ (fun j o e => by cases e)).from _
theorem keeps_owned {B base : Nat} {W W' : World} {e : TypeId} {size n : Nat} {v : Value} {xs : List Value} (hg : W.grownBy W' v.ownBlock) (ho : W.ownsRow base e size v n xs) : KeepsFrom B W W' :=
  (KeepsOthers.of_grownBy hg fun j o e' hj => by
    rcases ho.2 with ⟨rfl, _⟩ | ⟨g, cap, cur, rfl, _, hgb, _⟩
    · cases e'
    · obtain rfl : g = j := by simpa [Value.ownBlock] using e'
      rw [hgb] at hj; cases hj; rfl).from _

/-- What comes at an index lies in a block. -/
def ERow (W : World) (b : Nat) (x y : Nat) : Prop := W.heap[b]? = some (.cells #[.int .i64 (x : Nat), .int .i64 (y : Nat)] 99 (0, 0))
theorem ERow.cells {W : World} {b x y : Nat} (h : ERow W b x y) : W.cell? ⟨b, 0, none⟩ = some (.int .i64 (x : Nat)) ∧ W.cell? ⟨b, 1, none⟩ = some (.int .i64 (y : Nat)) := ⟨cell_of_row W b 0 _ _ _ h, cell_of_row W b 1 _ _ _ h⟩
theorem ERow.lt {W : World} {b x y : Nat} (h : ERow W b x y) : b < W.heap.size := (Array.getElem?_eq_some_iff.1 h).1
/-- The world behind the assignment to the loop's variables. -/
def boxE (W : World) (x y : Nat) : World := W.alloc (.cells #[.int .i64 (x : Nat), .int .i64 (y : Nat)] 99)
theorem boxE_row (W : World) (x y : Nat) : ERow (boxE W x y) W.heap.size x y := heap_alloc_new W _
theorem boxE_below (W : World) (x y : Nat) : Below W.heap.size W (boxE W x y) := (Below.refl _ W).alloc (Nat.le_refl _) _

/-- A range over the order of a stream. -/
theorem range_order {p k g : Int} {D K C n Bn : Nat} (hC : 1 ≤ C) (hC16 : C ≤ 16) (hDC : C ≤ D) (hK : K ≤ 1500) (hN : D + C * K ≤ 1500) {w : World} (hB : YRow w Bn p k g D K C)
    {go : Operand} {ps : Array Tmp} {assign body : Code} {Q : Exit → Act → World → Prop} {a : Act} (h1 : 2 ≤ n)
    (hg : a.eval go = .func (.func 92) #[] #[.pointer (some ⟨Bn, 0, none⟩)]) (hps : ps.size = 2)
    (I : List (Fin (D + C * K)) → World → Prop) (Ix : Code → List (Fin (D + C * K)) → World → Prop) (hIs : ∀ s W, I s W → w.heap.size ≤ W.heap.size) (hI : Steady w.heap.size I) (hIx : ∀ c, Steady w.heap.size (Ix c)) (h0 : I [] w) (A : Fin (D + C * K) → Nat → Act)
    (hassign : ∀ (l : Nat) (x : Fin (D + C * K)) (W : World) (K' : Act → World → Prop), K' (A x W.heap.size) (boxE W (pairOf D C x.val).1 (pairOf D C x.val).2) →
      assign.wpIn (Fence.wide.inRound l) (n - 1 - 1) Tryz.prog (Exit.then K' (fun _ _ _ => False)) { tmps := (ps.zip #[.int .i64 (x.val : Nat), .agg #[.int .i64 ((pairOf D C x.val).1 : Nat), .int .i64 ((pairOf D C x.val).2 : Nat)]]).foldl (fun t (p, v) => t.setIfInBounds p v) a.tmps, defers := [] } W)
    (hbody : ∀ (l : Nat) (pre : List (Fin (D + C * K))) (x : Fin (D + C * K)) (W : World) (Bx : Nat), w.heap.size ≤ Bx → ERow W Bx (pairOf D C x.val).1 (pairOf D C x.val).2 → I pre W → pre.length < D + C * K →
      body.wpIn (Fence.wide.inRound l) (n - 1 - 1) Tryz.prog (ownPostG w.heap.size (fun W W' => W'.heap[Bn]? = W.heap[Bn]?) I Ix (pre ++ [x]) W) (A x Bx) W)
    (hdone : ∀ (Dd : Nat) (W : World), w.heap.size ≤ Dd → I (List.finRange (D + C * K)) W → W.heap[Dd]? = some (.deferred (some [])) → Q .normal { a with defers := { target := .collected Dd, args := #[] } :: a.defers } W)
    (hstop : ∀ (Dd : Nat) (c : Code) (pre : List (Fin (D + C * K))) (W : World), w.heap.size ≤ Dd → pre <+: List.finRange (D + C * K) → Ix c pre W → W.heap[Dd]? = some (.deferred (some [])) → c.wpIn Fence.wide n Tryz.prog Q { a with defers := { target := .collected Dd, args := #[] } :: a.defers } W) :
    (Code.rangeFunc go ps assign body).wpIn Fence.wide n Tryz.prog Q a w := by
  have hlt : Bn < w.heap.size := (Array.getElem?_eq_some_iff.1 hB).1
  refine wpIn_rangeFunc_ownH rfl (by omega) (gf := 92) (lb := #[.pointer (some ⟨Bn, 0, none⟩)]) hg trivial (enters_of Tryz.func92 (by kernel_rfl) rfl)
    (order_stops p k g D K C (n - 1) Bn (by omega) hC hC16 hDC hK hN w hB) (fun h h' => h'.trans h) (fun W l o o' hl ho h2 h3 => World.putObj_heap_other (by omega)) (Below.refl _ _) (fun _ => hps.symm)
    I Ix hI.from (fun c => (hIx c).from) h0 (fun x a' W => ∃ Bx, w.heap.size ≤ Bx ∧ ERow W Bx (pairOf D C x.val).1 (pairOf D C x.val).2 ∧ a' = A x Bx)
    (fun x a' _ X Y row hs hg' hr => by
      obtain ⟨Bx, q1, q2, q3⟩ := hs
      exact ⟨Bx, q1, Turn.row ⟨row, hg', hr⟩ q2, q3⟩) ?assign ?body ?done ?stop
  case assign =>
    intro l pre x W K' hi hK'
    refine hassign l x W K' (hK' _ _ (keeps_below (boxE_below W _ _)) ?_ (hI _ _ _ hi (turn_below (boxE_below W _ _))) ⟨_, ?_, boxE_row W _ _, rfl⟩)
    · exact (boxE_below W _ _).block _ (by have := hIs _ _ hi; omega)
    · exact hIs _ _ hi
  case body =>
    rintro l pre x a' W hl ⟨r, hr⟩ hi ⟨Bx, q1, q2, rfl⟩ hlen
    exact hbody l pre x W Bx q1 q2 hi hlen
  case done =>
    rintro Dd xs W hDd rfl hi hk
    exact hdone Dd W hDd hi hk
  case stop =>
    rintro Dd c pre W hDd hpre hi hk
    exact hstop Dd c pre W hDd hpre hi hk

theorem implOrder (p k g D K C : Int) (w : World) :
    Calls Tryz.prog 65 #[.agg #[.int .i64 p, .int .i64 k, .int .i64 g, .int .i64 D, .int .i64 K, .int .i64 C]] w fun e w' => e = .returned (.func (.func 92) #[] #[.pointer (some ⟨w.heap.size, 0, none⟩)]) ∧ w' = w.alloc (.cells #[.int .i64 p, .int .i64 k, .int .i64 g, .int .i64 D, .int .i64 K, .int .i64 C] 27) := by
  go_enter Tryz.func65, Tryz.ntmps65
  go_wp2_with fail
  go_ret
  exact ⟨rfl, rfl⟩

theorem row_old {w : World} {b : Nat} {cs : Array Value} {t : TypeId} {f : Nat × Nat} (h : w.heap[b]? = some (.cells cs t f)) (o : Obj) : (w.alloc o).heap[b]? = some (.cells cs t f) := by
  rw [heap_alloc_old w o (Array.getElem?_eq_some_iff.1 h).1]; exact h

theorem row_set {w : World} {b b' off : Nat} {o : Obj} {v : Value} (h : w.heap[b]? = some o) (hne : b ≠ b') : (w.setCell ⟨b', off, none⟩ v).heap[b]? = some o := by
  rw [heap_setCell_other w ⟨b', off, none⟩ b v hne]; exact h

/-- Whether an element lies at an index. -/
def atI (D C : Nat) (b e : Int) (i : Nat) : Bool := decide (((pairOf D C i).1 : Int) = b) && decide (((pairOf D C i).2 : Int) = e)
theorem atI_one {D C i j : Nat} {b e : Int} (hC : 1 ≤ C) (h : atI D C b e i = true) (h' : atI D C b e j = true) : i = j := by
  simp only [atI, Bool.and_eq_true, decide_eq_true_eq] at h h'
  have h1 : pairOf D C i = pairOf D C j := Prod.ext (by omega) (by omega)
  rw [← sidx_pair (D := D) hC i, ← sidx_pair (D := D) hC j, h1]
/-- What the boxes of StreamIndex hold. -/
def SiBox (w : World) (b e : Int) (x y : Int) (W : World) : Prop :=
  W.heap[w.heap.size + 1]? = some (.cells #[.int .i64 b] 2 (0, 0)) ∧ W.heap[w.heap.size + 1 + 1]? = some (.cells #[.int .i64 e] 2 (0, 0)) ∧ W.heap[w.heap.size + 1 + 1 + 1]? = some (.cells #[.int .i64 x] 2 (0, 0)) ∧ W.heap[w.heap.size + 1 + 1 + 1 + 1]? = some (.cells #[.int .i64 y] 2 (0, 0)) ∧ Below w.heap.size w W
theorem SiBox.turn {w W W' : World} {b e x y : Int} {B : Nat} (h : SiBox w b e x y W) (ht : Turn B W W') (hB : w.heap.size ≤ B) : SiBox w b e x y W' :=
  ⟨ht.row h.1, ht.row h.2.1, ht.row h.2.2.1, ht.row h.2.2.2.1, ht.below h.2.2.2.2 (Nat.le_refl _) hB⟩
theorem SiBox.next {w W W' : World} {b e x y : Int} (h : SiBox w b e x y W) (hb : Below W.heap.size W W') : SiBox w b e x y W' := by
  have hs := (Array.getElem?_eq_some_iff.1 h.2.2.2.1).1
  exact h.turn (turn_below (B := w.heap.size) hb) (Nat.le_refl _)
theorem SiBox.put {w W : World} {b e x y : Int} (h : SiBox w b e x y W) (x' y' : Int) : SiBox w b e x' y' ((W.setCell ⟨w.heap.size + 1 + 1 + 1, 0, none⟩ (.int .i64 x')).setCell ⟨w.heap.size + 1 + 1 + 1 + 1, 0, none⟩ (.int .i64 y')) := by
  obtain ⟨q1, q2, q3, q4, q5⟩ := h
  have e1 := heap_setCell_same W (w.heap.size + 1 + 1 + 1) 0 _ _ (.int .i64 x') q3
  refine ⟨row_set (row_set q1 (by omega)) (by omega), row_set (row_set q2 (by omega)) (by omega), row_set e1 (by omega), heap_setCell_same _ (w.heap.size + 1 + 1 + 1 + 1) 0 _ _ _ (row_set q4 (by omega)), ?_⟩
  exact (q5.setCell (by show w.heap.size ≤ w.heap.size + 1 + 1 + 1; omega) _).setCell (by show w.heap.size ≤ w.heap.size + 1 + 1 + 1 + 1; omega) _
theorem turn_put {B l : Nat} {W : World} {o : Obj} (o' : Obj) (hl : W.heap[l]? = some o) (ho : o.isCells = false) (hB : B ≤ l) : Turn B W (W.putObj l o') := ⟨some l, grownBy_putObj' W l o', fun r e => by cases e; exact ⟨hB, o, hl, ho⟩⟩
theorem one_cell {W : World} {b : Nat} {v : Value} {t : TypeId} (h : W.heap[b]? = some (.cells #[v] t (0, 0))) : W.cell? ⟨b, 0, none⟩ = some v ∧ W.frozen? ⟨b, 0, none⟩ = false :=
  ⟨cell_of_row W b 0 _ _ _ h, frozen_of_row W b 0 _ _ h⟩

end Go.Proofs.YtlphodhecaagbaaGreat
