/-
  Plain mathematics of the best segmentation: the table of best cells, filled from the back.
  The table of best cells in memory: a block of cells, four numbers each.
  Which of two cells is better, on both sides.
  The model's table of best cells.
  The program's reaches: one step back.
  The program's table of best cells: all sizes of one mode at an index.
  The program's reaches of all modes, at the end of a message.
  The program's table of best cells, filled from the back.
  Condition: as each statement says.
-/
import Derived.Test.YthbmfaogjaahoaaSmMath
import Derived.Test.YthbmfaogjaahoaaProg
import Derived.Test.YthbmfaogjaahoaaBox
import Derived.Deep.WholeRow
import Derived.Deep.RegionHeld3
import Derived.Test.YthbmfaogjaahoaaSg9
import Derived.Test.YthbmfaogjaahoaaTail2
import Derived.Deep.DeepCutAuto
import Derived.Deep.CutRange
import Derived.Test.YthbmfaogjaahoaaSg7
import Derived.Test.YthbmfaogjaahoaaSg8
import Derived.Test.YthbmfaogjaahoaaAppend
import Derived.Deep.AppendLies
import Derived.Deep.Slices
namespace Go.Proofs.Ythbmfaogjaahoaa

/-- What is known of the best segmentation from an index on: its length, its number of segments, the size and the mode of its first segment. -/
structure Cel where
  l : Nat
  c : Nat
  s : Nat
  m : Nat
def zc : Cel := ⟨0, 0, 0, 0⟩
theorem Cel.ext' {a b : Cel} (h1 : a.l = b.l) (h2 : a.c = b.c) (h3 : a.s = b.s) (h4 : a.m = b.m) : a = b := by cases a; cases b; simp_all
/-- Whether a cell is better than another one. -/
def btr (a b : Cel) : Bool := if a.l = b.l then (if a.c = b.c then (if a.s = b.s then decide (a.m < b.m) else decide (b.s < a.s)) else decide (a.c < b.c)) else decide (a.l < b.l)
/-- The better one of what was found and another cell; nothing was found where the size is 0. -/
def cput (a x : Cel) : Cel := if a.s = 0 then x else if btr x a then x else a
def cnd (t : Nat → Cel) (m i k : Nat) : Cel := ⟨slen m k + (t (i + k)).l, (t (i + k)).c + 1, k, m⟩
/-- All sizes up to k of one mode. -/
def fsiz (t : Nat → Cel) (m i : Nat) : Nat → Cel → Cel
  | 0, a => a
  | k + 1, a => cput (fsiz t m i k a) (cnd t m i (k + 1))
/-- How many bytes from the beginning on have a value in a mode, 255 at most. -/
def rch (m : Int) : List Int → Nat
  | [] => 0
  | b :: l => if cval m b < 0 then 0 else min (rch m l + 1) 255
/-- All modes up to q. -/
def fmd (t : Nat → Cel) (bs : List Int) (i : Nat) : Nat → Cel
  | 0 => zc
  | q + 1 => fsiz t (q + 1) i (rch ((q + 1 : Nat) : Int) (bs.drop i)) (fmd t bs i q)
/-- The table behind j rounds. -/
def tabN (bs : List Int) : Nat → Nat → Cel
  | 0, _ => zc
  | j + 1, i => if i + j + 1 = bs.length then fmd (tabN bs j) bs i 4 else tabN bs j i
/-- A table with another cell at an index. -/
def upd (t : Nat → Cel) (i : Nat) (x : Cel) (k : Nat) : Cel := if k = i then x else t k
theorem upd_at (t : Nat → Cel) (i : Nat) (x : Cel) : upd t i x i = x := by simp [upd]
theorem upd_ne (t : Nat → Cel) {i k : Nat} (x : Cel) (h : k ≠ i) : upd t i x k = t k := by simp [upd, h]
theorem upd_upd (t : Nat → Cel) (i : Nat) (x y : Cel) : upd (upd t i x) i y = upd t i y := by funext k; unfold upd; split <;> rfl
theorem upd_self (t : Nat → Cel) (i : Nat) : upd t i (t i) = t := by funext k; unfold upd; split <;> simp_all

theorem rch_le (m : Int) : ∀ l : List Int, rch m l ≤ l.length ∧ rch m l ≤ 255 := by
  intro l
  induction l with
  | nil => exact ⟨Nat.le_refl _, by simp [rch]⟩
  | cons b l ih =>
    rw [rch]
    split
    · exact ⟨by omega, by omega⟩
    · exact ⟨by simp only [List.length_cons]; omega, by omega⟩
/-- A size is within reach if all its bytes have a value. -/
theorem rch_iff (m : Int) : ∀ (l : List Int) (k : Nat), k ≤ 255 → k ≤ l.length → (k ≤ rch m l ↔ ∀ j x, j < k → l[j]? = some x → 0 ≤ cval m x) := by
  intro l
  induction l with
  | nil => intro k _ h; simp at h; subst h; simp
  | cons b l ih =>
    intro k hk hl
    cases k with
    | zero => simp
    | succ k =>
      have h1 := ih k (by omega) (by simp only [List.length_cons] at hl; omega)
      rw [rch]
      by_cases hb : cval m b < 0
      · rw [if_pos hb]
        constructor
        · intro h; omega
        · intro h; have := h 0 b (by omega) rfl; omega
      · rw [if_neg hb]
        constructor
        · intro h j x hj hx
          cases j with
          | zero => simp at hx; subst hx; omega
          | succ j => exact h1.1 (by omega) j x (by omega) (by simpa using hx)
        · intro h
          have h2 := h1.2 (fun j x hj hx => h (j + 1) x (by omega) (by simpa using hx))
          omega
/-- The next size is within reach. -/
theorem rch_next {m : Int} {l : List Int} {k : Nat} {x : Int} (h : k ≤ rch m l) (hk : k < 255) (hx : l[k]? = some x) : k < rch m l ↔ 0 ≤ cval m x := by
  have hl := (List.getElem?_eq_some_iff.1 hx).1
  have h1 := (rch_iff m l k (by omega) (by omega)).1 h
  have h2 := rch_iff m l (k + 1) (by omega) (by omega)
  constructor
  · intro h3; exact h2.1 h3 k x (by omega) hx
  · intro h3
    have := h2.2 (fun j y hj hy => by
      by_cases e : j < k
      · exact h1 j y e hy
      · obtain rfl : j = k := by omega
        rw [hx] at hy; cases hy; exact h3)
    omega
theorem rch_cons (m : Int) (b : Int) (l : List Int) : rch m (b :: l) = if cval m b < 0 then 0 else min (rch m l + 1) 255 := rfl

/-- A cell at an index of a message of N bytes is not too great. -/
def Ok (N i : Nat) (a : Cel) : Prop := a.c ≤ N - i ∧ a.l ≤ 2827 * (N - i) ∧ a.s ≤ 255 ∧ a.m ≤ 4 ∧ (a.s = 0 → a = zc) ∧ a.s ≤ N - i
theorem ok_zc (N i : Nat) : Ok N i zc := ⟨Nat.zero_le _, Nat.zero_le _, Nat.zero_le _, Nat.zero_le _, fun _ => rfl, Nat.zero_le _⟩
theorem ok_cnd {t : Nat → Cel} {N m i k : Nat} (ht : Ok N (i + k) (t (i + k))) (hk : 1 ≤ k) (hk2 : k ≤ 255) (hik : i + k ≤ N) (hm : m ≤ 4) : Ok N i (cnd t m i k) := by
  obtain ⟨h1, h2, _⟩ := ht
  have h3 := slen_le (m := (m : Int)) hk2
  unfold Ok cnd
  refine ⟨?_, ?_, ?_, ?_, ?_, ?_⟩
  · show (t (i + k)).c + 1 ≤ N - i; omega
  · show slen m k + (t (i + k)).l ≤ 2827 * (N - i)
    have : 2827 * (N - (i + k)) + 2827 ≤ 2827 * (N - i) := by omega
    omega
  · exact hk2
  · exact hm
  · intro h; exact absurd h (by show k ≠ 0; omega)
  · show k ≤ N - i; omega
theorem ok_put {N i : Nat} {a x : Cel} (ha : Ok N i a) (hx : Ok N i x) : Ok N i (cput a x) := by
  unfold cput
  split
  · exact hx
  · split
    · exact hx
    · exact ha
theorem ok_fsiz {t : Nat → Cel} {N m i : Nat} (ht : ∀ j, Ok N j (t j)) (hm : m ≤ 4) {a : Cel} (ha : Ok N i a) : ∀ k, k ≤ 255 → i + k ≤ N → Ok N i (fsiz t m i k a) := by
  intro k
  induction k with
  | zero => intro _ _; exact ha
  | succ k ih => intro h1 h2; exact ok_put (ih (by omega) (by omega)) (ok_cnd (ht _) (by omega) h1 h2 hm)
theorem ok_fmd {t : Nat → Cel} {bs : List Int} {i : Nat} (ht : ∀ j, Ok bs.length j (t j)) (hi : i ≤ bs.length) : ∀ q, q ≤ 4 → Ok bs.length i (fmd t bs i q) := by
  intro q
  induction q with
  | zero => intro _; exact ok_zc _ _
  | succ q ih =>
    intro h
    have h1 := rch_le ((q + 1 : Nat) : Int) (bs.drop i)
    rw [List.length_drop] at h1
    exact ok_fsiz ht h (ih (by omega)) _ h1.2 (by omega)
theorem ok_tab (bs : List Int) : ∀ j i, Ok bs.length i (tabN bs j i) := by
  intro j
  induction j with
  | zero => intro i; exact ok_zc _ _
  | succ j ih =>
    intro i
    rw [tabN]
    split
    · exact ok_fmd ih (by omega) 4 (Nat.le_refl _)
    · exact ih i
/-- What a candidate reads is not the cell in hand. -/
theorem cnd_upd (t : Nat → Cel) (m i k : Nat) (x : Cel) (hk : 1 ≤ k) : cnd (upd t i x) m i k = cnd t m i k := by
  unfold cnd; rw [upd_ne t x (by omega)]
theorem tabN_step {bs : List Int} {j i : Nat} (h : i + j + 1 = bs.length) : upd (tabN bs j) i (fmd (tabN bs j) bs i 4) = tabN bs (j + 1) := by
  funext k
  unfold upd
  rw [tabN]
  by_cases e : k = i
  · subst e; rw [if_pos rfl, if_pos h]
  · rw [if_neg e, if_neg (by omega)]
theorem tabN_zero {bs : List Int} {j i : Nat} (h : i + j + 1 ≤ bs.length ∨ bs.length ≤ i) : tabN bs j i = zc := by
  induction j with
  | zero => rfl
  | succ j ih => rw [tabN, if_neg (by omega)]; exact ih (by omega)
end Go.Proofs.Ythbmfaogjaahoaa

namespace Go.Proofs.Ythbmfaogjaahoaa
open Go.RowKit
set_option linter.unusedSimpArgs false
set_option linter.unusedVariables false

/-- The array cs has the numbers of t 0 .. t (N - 1). -/
def TabQ (cs : Array Value) (N : Nat) (t : Nat → Cel) : Prop :=
  cs.size = N * 4 ∧ ∀ i, i < N → cs[i * 4]? = some (.int .i64 (t i).l) ∧ cs[i * 4 + 1]? = some (.int .i64 (t i).c) ∧ cs[i * 4 + 2]? = some (.int .i64 (t i).s) ∧ cs[i * 4 + 3]? = some (.int .i64 (t i).m)
/-- Block b has the table t. -/
def RowQ (w : World) (b : Nat) (T : TypeId) (N : Nat) (t : Nat → Cel) : Prop := ∃ cs, w.heap[b]? = some (.cells cs T (0, 0)) ∧ TabQ cs N t
section
variable {w w' : World} {b N : Nat} {T : TypeId} {t : Nat → Cel} {cs : Array Value}
theorem TabQ.at_ (h : TabQ cs N t) {k : Nat} (hk : k < N * 4) : ∃ x : Int, cs[k]? = some (.int .i64 x) := by
  obtain ⟨a, b, c, d⟩ := h.2 (k / 4) (by omega)
  rcases (show k % 4 = 0 ∨ k % 4 = 1 ∨ k % 4 = 2 ∨ k % 4 = 3 by omega) with e | e | e | e
  · exact ⟨_, by rw [show k = k / 4 * 4 by omega]; exact a⟩
  · exact ⟨_, by rw [show k = k / 4 * 4 + 1 by omega]; exact b⟩
  · exact ⟨_, by rw [show k = k / 4 * 4 + 2 by omega]; exact c⟩
  · exact ⟨_, by rw [show k = k / 4 * 4 + 3 by omega]; exact d⟩
theorem TabQ.one (h : TabQ cs N t) : cs.all (·.oneCell') = true := by
  rw [Array.all_eq_true]
  intro i hi
  obtain ⟨x, hx⟩ := h.at_ (k := i) (by rw [← h.1]; exact hi)
  rw [Array.getElem?_eq_getElem hi] at hx
  injection hx with hx
  rw [hx]; rfl
theorem TabQ.put (h : TabQ cs N t) {i : Nat} (hi : i < N) (x : Cel) :
    TabQ ((((cs.setIfInBounds (i * 4) (.int .i64 x.l)).setIfInBounds (i * 4 + 1) (.int .i64 x.c)).setIfInBounds (i * 4 + 2) (.int .i64 x.s)).setIfInBounds (i * 4 + 3) (.int .i64 x.m)) N (upd t i x) := by
  have hs := h.1
  refine ⟨by simp [hs], fun k hk => ?_⟩
  have h2 := h.2 k hk
  simp only [Array.getElem?_setIfInBounds, Array.size_setIfInBounds]
  by_cases e : k = i
  · subst e
    rw [upd_at]
    refine ⟨?_, ?_, ?_, ?_⟩
    · rw [if_neg (by omega), if_neg (by omega), if_neg (by omega), if_pos rfl, if_pos (by omega)]
    · rw [if_neg (by omega), if_neg (by omega), if_pos rfl, if_pos (by omega)]
    · rw [if_neg (by omega), if_pos rfl, if_pos (by omega)]
    · rw [if_pos rfl, if_pos (by omega)]
  · rw [upd_ne t x e]
    refine ⟨?_, ?_, ?_, ?_⟩
    · rw [if_neg (by omega), if_neg (by omega), if_neg (by omega), if_neg (by omega)]; exact h2.1
    · rw [if_neg (by omega), if_neg (by omega), if_neg (by omega), if_neg (by omega)]; exact h2.2.1
    · rw [if_neg (by omega), if_neg (by omega), if_neg (by omega), if_neg (by omega)]; exact h2.2.2.1
    · rw [if_neg (by omega), if_neg (by omega), if_neg (by omega), if_neg (by omega)]; exact h2.2.2.2
theorem RowQ.lt (h : RowQ w b T N t) : b < w.heap.size := by obtain ⟨cs, h, _⟩ := h; exact (Array.getElem?_eq_some_iff.1 h).1
theorem RowQ.cells (h : RowQ w b T N t) {i : Nat} (hi : i < N) :
    w.cell? ⟨b, i * 4, none⟩ = some (.int .i64 (t i).l) ∧ w.cell? ⟨b, i * 4 + 1, none⟩ = some (.int .i64 (t i).c) ∧ w.cell? ⟨b, i * 4 + 2, none⟩ = some (.int .i64 (t i).s) ∧ w.cell? ⟨b, i * 4 + 3, none⟩ = some (.int .i64 (t i).m) := by
  obtain ⟨cs, hb, ht⟩ := h
  obtain ⟨h0, h1, h2, h3⟩ := ht.2 i hi
  exact ⟨(cell_of_row w b _ _ _ _ hb).trans h0, (cell_of_row w b _ _ _ _ hb).trans h1, (cell_of_row w b _ _ _ _ hb).trans h2, (cell_of_row w b _ _ _ _ hb).trans h3⟩
theorem RowQ.frozen (h : RowQ w b T N t) (i : Nat) : w.frozen? ⟨b, i, none⟩ = false := by obtain ⟨cs, h, _⟩ := h; exact frozen_of_row w b i _ _ h
theorem RowQ.same (h : RowQ w b T N t) (hb : w'.heap[b]? = w.heap[b]?) : RowQ w' b T N t := by obtain ⟨cs, h, ht⟩ := h; exact ⟨cs, hb.trans h, ht⟩
theorem RowQ.next (h : RowQ w b T N t) (hb : Below w.heap.size w w') : RowQ w' b T N t := h.same (hb.block b h.lt)
theorem RowQ.alloc (h : RowQ w b T N t) (o : Obj) : RowQ (w.alloc o) b T N t := h.next ((Below.refl _ _).alloc (Nat.le_refl _) o)
theorem RowQ.drew (h : RowQ w b T N t) : RowQ w.drew b T N t := h
theorem RowQ.grown {row : Option Nat} (h : RowQ w b T N t) (hg : w.grownBy w' row) (hr : row ≠ some b) : RowQ w' b T N t := h.same (hg.block b h.lt (fun e => hr e.symm))
theorem RowQ.other (h : RowQ w b T N t) {g : Nat} (o : Nat) (v : Value) (hne : b ≠ g) : RowQ (w.setCell ⟨g, o, none⟩ v) b T N t := h.same (heap_setCell_other w ⟨g, o, none⟩ b v hne)
/-- Four stores. -/
def set4 (w : World) (b i : Nat) (x : Cel) : World := (((w.setCell ⟨b, i * 4, none⟩ (.int .i64 x.l)).setCell ⟨b, i * 4 + 1, none⟩ (.int .i64 x.c)).setCell ⟨b, i * 4 + 2, none⟩ (.int .i64 x.s)).setCell ⟨b, i * 4 + 3, none⟩ (.int .i64 x.m)
theorem RowQ.put (h : RowQ w b T N t) {i : Nat} (hi : i < N) (x : Cel) : RowQ (set4 w b i x) b T N (upd t i x) := by
  obtain ⟨cs, hb, ht⟩ := h
  refine ⟨_, ?_, ht.put hi x⟩
  unfold set4
  exact heap_setCell_same _ b _ _ _ _ (heap_setCell_same _ b _ _ _ _ (heap_setCell_same _ b _ _ _ _ (heap_setCell_same _ b _ _ _ _ hb)))
theorem set4_grown (w : World) (b i : Nat) (x : Cel) : w.grownBy (set4 w b i x) (some b) := by
  unfold set4
  have g : ∀ (w : World) (o : Nat) (v : Value), w.grownBy (w.setCell ⟨b, o, none⟩ v) (some b) := fun w o v =>
    ⟨rfl, rfl, rfl, by simp [World.setCell], fun k _ hk => Below.heap_setCell _ _ _ _ (fun e => hk (by simp [e]))⟩
  exact grown_trans (grown_trans (grown_trans (g _ _ _) (g _ _ _)) (g _ _ _)) (g _ _ _)
end
/-- All zeros. -/
theorem tabQ_zero (N : Nat) : TabQ (Array.replicate (N * 4) (.int .i64 0)) N (fun _ => zc) := by
  refine ⟨by simp, fun i hi => ?_⟩
  refine ⟨?_, ?_, ?_, ?_⟩ <;>
  · rw [Array.getElem?_replicate, if_pos (by omega)]; rfl
theorem RowQ.new (w : World) (T : TypeId) {N : Nat} {cs : Array Value} (h : TabQ cs N (fun _ => zc)) : RowQ (w.alloc (.cells cs T)) w.heap.size T N (fun _ => zc) := ⟨cs, heap_alloc_new w _, h⟩

theorem elemQ : (Try.prog.info? 139).map (fun i => (i.zero, i.size, i.bytes)) = some (some (.agg #[.int .i64 0, .int .i64 0, .int .i64 0, .int .i64 0]), 4, 32) := by kernel_rfl
/-- make([]l10Cell, n). -/
theorem make_cells (n : Nat) (hn : n ≤ 1000) : ∃ cs, TabQ cs n (fun _ => zc) ∧ ∀ w, (Instr.makeSlice 140 (.int .i64 n) (.int .i64 n)).run Try.prog w = .ok (.slice (some ⟨w.heap.size, 0, none⟩) n n) (w.alloc (.cells cs 139)) := by
  obtain ⟨ti, hi, hz0, hz1, hz2⟩ := info_parts elemQ
  refine ⟨Array.replicate (n * 4) (.int .i64 0), tabQ_zero n, fun w => ?_⟩
  have h := run_make (P := Try.prog) w 140 139 ti _ Try.underlying140 hi hz0 .i64 .i64 (n : Int) (n : Int) (by omega) (by omega) (by rw [hz2]; omega) (by omega)
  have hm : madeCells (Value.cells (.agg #[.int .i64 0, .int .i64 0, .int .i64 0, .int .i64 0])) (n * 4) = Array.replicate (n * 4) (.int .i64 0) := by
    apply Array.ext
    · simp [madeCells]
    · intro j h1 h2
      have h5 : j % 4 < 4 := Nat.mod_lt _ (by decide)
      rcases (show j % 4 = 0 ∨ j % 4 = 1 ∨ j % 4 = 2 ∨ j % 4 = 3 by omega) with e | e | e | e <;> simp [madeCells, Value.cells, e]
  rw [hz1] at h
  rw [show (((n : Nat) : Int).toNat * 4) = n * 4 by simp, hm] at h
  simpa using h
/-- The program's table. -/
theorem zero_table : ∃ Z : Array Value, TabQ Z 401 (fun _ => zc) ∧ ∀ w, (zeroValue 148).run Try.prog w = .ok (.agg Z) w := by
  have h : (Try.prog.info? 148).map (fun i => (i.zero, i.size)) = some (some (.agg (Array.replicate 1604 (.int .i64 0))), 1604) := by kernel_rfl
  obtain ⟨h1, h2⟩ := zero_of_info h
  exact ⟨_, tabQ_zero 401, h1⟩
theorem size_table : (Try.prog.info? 148).map (·.size) = some 1604 := by kernel_rfl
end Go.Proofs.Ythbmfaogjaahoaa

namespace Go.Proofs.Ythbmfaogjaahoaa
open Go.RowKit
set_option linter.unusedSimpArgs false
set_option linter.unusedVariables false

def CV (a : Cel) : Value := .agg #[.int .i64 a.l, .int .i64 a.c, .int .i64 a.s, .int .i64 a.m]
theorem btr_l {a b : Cel} (h : a.l ≠ b.l) : btr a b = decide (a.l < b.l) := by unfold btr; rw [if_neg h]
theorem btr_c {a b : Cel} (h : a.l = b.l) (h2 : a.c ≠ b.c) : btr a b = decide (a.c < b.c) := by unfold btr; rw [if_pos h, if_neg h2]
theorem btr_s {a b : Cel} (h : a.l = b.l) (h2 : a.c = b.c) (h3 : a.s ≠ b.s) : btr a b = decide (b.s < a.s) := by unfold btr; rw [if_pos h, if_pos h2, if_neg h3]
theorem btr_m {a b : Cel} (h : a.l = b.l) (h2 : a.c = b.c) (h3 : a.s = b.s) : btr a b = decide (a.m < b.m) := by unfold btr; rw [if_pos h, if_pos h2, if_pos h3]
theorem nat_lt_int (a b : Nat) : decide ((a : Int) < (b : Int)) = decide (a < b) := by simp

set_option maxRecDepth 100000 in
set_option maxHeartbeats 1000000 in
theorem specBetter (a b : Cel) (w : World) :
    Calls Try.prog 118 #[CV a, CV b] w (Gives (.bool (btr a b)) w) := by
  obtain ⟨la, ca, sa, ma⟩ := a
  obtain ⟨lb, cb, sb, mb⟩ := b
  have HB := hide (show Below w.heap.size w ((w.alloc (.cells #[.int .i64 la, .int .i64 ca, .int .i64 sa, .int .i64 ma] 139)).alloc (.cells #[.int .i64 lb, .int .i64 cb, .int .i64 sb, .int .i64 mb] 139)) from ((Below.refl _ _).alloc (Nat.le_refl _) _).alloc (by rw [alloc_size]; omega) _)
  by_cases h1 : la = lb
  · by_cases h2 : ca = cb
    · by_cases h3 : sa = sb
      · have HR := hide (btr_m (a := ⟨la, ca, sa, ma⟩) (b := ⟨lb, cb, sb, mb⟩) h1 h2 h3)
        subst h1 h2 h3
        unfold CV
        go_enter Try.func118, Try.ntmps118
        go_wp2_with fail
        go_ret
        exact ⟨ret_bool (HR.out), HB.out⟩
      · have HR := hide (btr_s (a := ⟨la, ca, sa, ma⟩) (b := ⟨lb, cb, sb, mb⟩) h1 h2 h3)
        subst h1 h2
        unfold CV
        go_enter Try.func118, Try.ntmps118
        go_wp2_with fail
        go_ret
        exact ⟨ret_bool (HR.out), HB.out⟩
    · have HR := hide (btr_c (a := ⟨la, ca, sa, ma⟩) (b := ⟨lb, cb, sb, mb⟩) h1 h2)
      subst h1
      unfold CV
      go_enter Try.func118, Try.ntmps118
      go_wp2_with fail
      go_ret
      exact ⟨ret_bool (HR.out), HB.out⟩
  · have HR := hide (btr_l (a := ⟨la, ca, sa, ma⟩) (b := ⟨lb, cb, sb, mb⟩) h1)
    unfold CV
    go_enter Try.func118, Try.ntmps118
    go_wp2_with fail
    go_ret
    exact ⟨ret_bool (HR.out), HB.out⟩

def lessC (l c l' c' : Nat) : Bool := if l = l' then decide (c < c') else decide (l < l')
set_option maxRecDepth 100000 in
set_option maxHeartbeats 1000000 in
theorem implCostLess (l c l' c' : Nat) (w : World) :
    Calls Try.prog 131 #[.agg #[.int .i64 l, .int .i64 c], .agg #[.int .i64 l', .int .i64 c']] w (Gives (.bool (lessC l c l' c')) w) := by
  have HB := hide (show Below w.heap.size w ((w.alloc (.cells #[.int .i64 l, .int .i64 c] 144)).alloc (.cells #[.int .i64 l', .int .i64 c'] 144)) from ((Below.refl _ _).alloc (Nat.le_refl _) _).alloc (by rw [alloc_size]; omega) _)
  by_cases h1 : l = l'
  · have HR := hide (show lessC l c l' c' = decide (c < c') by unfold lessC; rw [if_pos h1])
    subst h1
    go_enter Try.func131, Try.ntmps131
    go_wp2_with fail
    go_ret
    exact ⟨ret_bool (HR.out), HB.out⟩
  · have HR := hide (show lessC l c l' c' = decide (l < l') by unfold lessC; rw [if_neg h1])
    go_enter Try.func131, Try.ntmps131
    go_wp2_with fail
    go_ret
    exact ⟨ret_bool (HR.out), HB.out⟩

theorem btr_less {a b : Cel} (h : ¬ (a.l = b.l ∧ a.c = b.c)) : btr a b = lessC a.l a.c b.l b.c := by
  unfold btr lessC
  by_cases h1 : a.l = b.l
  · rw [if_pos h1, if_pos h1, if_neg (fun h2 => h ⟨h1, h2⟩)]
  · rw [if_neg h1, if_neg h1]
theorem row4 {w : World} {b : Nat} {x0 x1 x2 x3 : Value} {t : TypeId} (h : w.heap[b]? = some (.cells #[x0, x1, x2, x3] t (0, 0))) : w.cell? ⟨b, 0, none⟩ = some x0 ∧ w.cell? ⟨b, 1, none⟩ = some x1 ∧ w.cell? ⟨b, 2, none⟩ = some x2 ∧ w.cell? ⟨b, 3, none⟩ = some x3 :=
  ⟨cell_of_row w b 0 _ _ _ h, cell_of_row w b 1 _ _ _ h, cell_of_row w b 2 _ _ _ h, cell_of_row w b 3 _ _ _ h⟩
set_option maxRecDepth 100000 in
set_option maxHeartbeats 1000000 in
theorem implBetter (a b : Cel) (w : World) :
    Calls Try.prog 128 #[CV a, CV b] w (Gives (.bool (btr a b)) w) := by
  obtain ⟨la, ca, sa, ma⟩ := a
  obtain ⟨lb, cb, sb, mb⟩ := b
  have HB := hide (show Below w.heap.size w ((w.alloc (.cells #[.int .i64 la, .int .i64 ca, .int .i64 sa, .int .i64 ma] 146)).alloc (.cells #[.int .i64 lb, .int .i64 cb, .int .i64 sb, .int .i64 mb] 146)) from ((Below.refl _ _).alloc (Nat.le_refl _) _).alloc (by rw [alloc_size]; omega) _)
  by_cases h12 : la = lb ∧ ca = cb
  · obtain ⟨h1, h2⟩ := h12
    by_cases h3 : sa = sb
    · have HR := hide (btr_m (a := ⟨la, ca, sa, ma⟩) (b := ⟨lb, cb, sb, mb⟩) h1 h2 h3)
      subst h1 h2 h3
      unfold CV
      go_enter Try.func128, Try.ntmps128
      go_wp2_with fail
      go_ret
      exact ⟨ret_bool HR.out, HB.out⟩
    · have HR := hide (btr_s (a := ⟨la, ca, sa, ma⟩) (b := ⟨lb, cb, sb, mb⟩) h1 h2 h3)
      subst h1 h2
      unfold CV
      go_enter Try.func128, Try.ntmps128
      go_wp2_with fail
      go_ret
      exact ⟨ret_bool HR.out, HB.out⟩
  · have HR := hide (btr_less (a := ⟨la, ca, sa, ma⟩) (b := ⟨lb, cb, sb, mb⟩) h12)
    have HS := hide (show w.heap.size ≤ ((w.alloc (.cells #[.int .i64 la, .int .i64 ca, .int .i64 sa, .int .i64 ma] 146)).alloc (.cells #[.int .i64 lb, .int .i64 cb, .int .i64 sb, .int .i64 mb] 146)).heap.size by rw [alloc_size, alloc_size]; omega)
    by_cases h1 : la = lb
    · have h2 : ¬ ca = cb := fun e => h12 ⟨h1, e⟩
      subst h1
      clear h12
      unfold CV
      go_enter Try.func128, Try.ntmps128
      go_wp2_with fail
      refine (implCostLess la ca la cb _).mono ?_
      rintro e w1 ⟨rfl, hb1⟩
      have HB1 := hide (HB.out.trans (hb1.mono HS.out))
      clear hb1
      go_wp2_with fail
      go_ret
      exact ⟨ret_bool HR.out, HB1.out⟩
    · clear h12
      unfold CV
      go_enter Try.func128, Try.ntmps128
      go_wp2_with fail
      refine (implCostLess la ca lb cb _).mono ?_
      rintro e w1 ⟨rfl, hb1⟩
      have HB1 := hide (HB.out.trans (hb1.mono HS.out))
      clear hb1
      go_wp2_with fail
      go_ret
      exact ⟨ret_bool HR.out, HB1.out⟩
end Go.Proofs.Ythbmfaogjaahoaa

namespace Go.Proofs.Ythbmfaogjaahoaa
open Go.RowKit
set_option linter.unusedSimpArgs false
set_option linter.unusedVariables false

/-- A new block holds a cell. -/
def NewCel (T : TypeId) (wr : World) (l c s m : Nat) (v : Value) (wx : World) : Prop :=
  ∃ b, v = .pointer (some ⟨b, 0, none⟩) ∧ wr.heap.size ≤ b ∧ wx.heap[b]? = some (.cells #[.int .i64 l, .int .i64 c, .int .i64 s, .int .i64 m] T (0, 0)) ∧ Below wr.heap.size wr wx
def Rw1 (w : World) (n n1 : Nat) (bs : List Int) (i : Value) (wr : World) : Prop :=
  ∃ (x : Int) (q : Nat), i = .int .i64 x ∧ x = (q : Int) - 1 ∧ q ≤ n ∧ RowQ wr w.heap.size 139 n1 (tabN bs (n - q)) ∧ Below w.heap.size w wr
def Rw2 (w : World) (n1 : Nat) (bs : List Int) (p : Nat) (t : Nat → Cel) (f md : Value) (wr : World) : Prop :=
  ∃ q mq : Nat, q ≤ 4 ∧ Hid (mq = q + 1) ∧ 1 ≤ mq ∧ mq ≤ 5 ∧ md = .int .i64 mq ∧ f = .bool (decide ((fmd t bs p q).s ≠ 0)) ∧ RowQ wr w.heap.size 139 n1 (upd t p (fmd t bs p q)) ∧ Below w.heap.size w wr
def Rw3 (w : World) (n1 p mq R : Nat) (t : Nat → Cel) (a0 : Cel) (f sz : Value) (wr : World) : Prop :=
  ∃ k z : Nat, k ≤ R ∧ Hid (z = k + 1) ∧ 1 ≤ z ∧ z ≤ 256 ∧ sz = .int .i64 z ∧ f = .bool (decide ((fsiz t mq p k a0).s ≠ 0)) ∧ RowQ wr w.heap.size 139 n1 (upd t p (fsiz t mq p k a0)) ∧ Below w.heap.size w wr
/-- What the table leaves. -/
def TabPost (n : Nat) (bs : List Int) (w : World) (e : Ending) (w' : World) : Prop :=
  e = .returned (.slice (some ⟨w.heap.size, 0, none⟩) (n + 1) (n + 1)) ∧ RowQ w' w.heap.size 139 (n + 1) (tabN bs n) ∧ Below w.heap.size w w'
theorem row_keep4 {w : World} {b : Nat} {o : Obj} (h : w.heap[b]? = some o) (o' : Obj) : (w.alloc o').heap[b]? = some o := by
  rw [heap_alloc_old w o' (Array.getElem?_eq_some_iff.1 h).1]; exact h
theorem one4 (a b c d : Int) : (#[Value.int .i64 a, Value.int .i64 b, Value.int .i64 c, Value.int .i64 d] : Array Value).all (·.oneCell') = true := by simp [Value.oneCell']
theorem put_fin {w wy : World} {N p : Nat} {T : TypeId} {t : Nat → Cel} {a : Cel} (h1 : RowQ wy w.heap.size T N (upd t p a)) (h2 : Below w.heap.size w wy) (hp : p < N) (x : Cel) : RowQ (set4 wy w.heap.size p x) w.heap.size T N (upd t p x) ∧ Below w.heap.size w (set4 wy w.heap.size p x) :=
  ⟨by have h := h1.put hp x; rw [upd_upd] at h; exact h, h2.grown (set4_grown _ _ _ _) h2.size (fun g hg => by cases hg; exact Nat.le_refl _)⟩
theorem newcel_fin {T : TypeId} {wq w2 : World} {l c s m b : Nat} {old : Array Value} (hb : Below wq.heap.size wq w2) (hg : w2.heap[b]? = some (.cells old T (0, 0))) (h1 : wq.heap.size ≤ b) :
    NewCel T wq l c s m (.pointer (some ⟨b, 0, none⟩)) (w2.setRow b #[.int .i64 l, .int .i64 c, .int .i64 s, .int .i64 m]) :=
  ⟨b, rfl, h1, setRow_heap _ _ _ _ _ _ hg, ⟨hb.os, hb.tape, hb.output, by simp; exact hb.size, fun i hi => (setRow_other w2 b i _ (by omega)).trans (hb.block i hi)⟩⟩
theorem bytesI_at {s : ByteArray} {k : Nat} {y : Int} (h : (bytesI s)[k]? = some y) {p j : Nat} (hk : k = p + j) : ((bytesI s).drop p)[j]? = some y := by rw [List.getElem?_drop, ← hk]; exact h

set_option maxRecDepth 100000 in
set_option maxHeartbeats 8000000 in
theorem specTable (s : ByteArray) (hs : s.size ≤ 400) (w : World) :
    Calls Try.prog 104 #[.string s] w (TabPost s.size (bytesI s) w) := by
  obtain ⟨n1, hn1⟩ : ∃ n1, s.size + 1 = n1 := ⟨_, rfl⟩
  have HN1 := hide hn1
  obtain ⟨cs, hcs, hrun⟩ := make_cells n1 (by omega)
  have hrun0 := hrun w
  rw [show (n1 : Int) = (s.size : Int) + 1 by omega] at hrun0
  clear hn1
  have HR0 := hide (RowQ.new w 139 hcs)
  have HB0 := hide (show Below w.heap.size w (w.alloc (.cells cs 139)) from (Below.refl _ _).alloc (Nat.le_refl _) _)
  have hlen : (bytesI s).length = s.size := by rw [bytesI_len]
  have HLEN := hide hlen
  have HT0 := hide (show (fun _ => zc) = tabN (bytesI s) (s.size - s.size) by rw [Nat.sub_self]; funext i; rfl)
  clear hcs hrun hlen
  go_enter Try.func104, Try.ntmps104
  go_wp2_with fail
  obtain ⟨w0, hw0⟩ : ∃ w0, w.alloc (.cells cs 139) = w0 := ⟨_, rfl⟩
  rw [hw0] at HR0 HB0 ⊢
  clear hw0 hrun0
  go_loopw [5] (fun i wr => Rw1 w s.size n1 (bytesI s) i wr) (fun i _ => (intOf i + 1).toNat)
  case atStart => exact ⟨_, s.size, rfl, rfl, Nat.le_refl _, by rw [← HT0.out]; exact HR0.out, HB0.out⟩
  case round =>
    clear HR0 HB0 HT0
    obtain ⟨x1, q1, rfl, hx1, hq1, hrow, hb⟩ := hrel
    have HROW := hide hrow
    have HB := hide hb
    clear hrow hb
    by_cases hq : q1 = 0
    · have hx0 : x1 < 0 := by omega
      have HF := hide (show TabPost s.size (bytesI s) w (.returned (.slice (some ⟨w.heap.size, 0, none⟩) n1 n1)) wr from ⟨by rw [HN1.out], by have h := HROW.out; rw [hq, Nat.sub_zero, ← HN1.out] at h; exact h, HB.out⟩)
      clear hx1 hq
      go_wp2_with fail
      go_ret
      exact HF.out
    · obtain ⟨p, hp⟩ : ∃ p, q1 = p + 1 := ⟨q1 - 1, by omega⟩
      obtain rfl : x1 = (p : Int) := by omega
      have hps : p < s.size := by omega
      have HJ := hide (show p + (s.size - q1) + 1 = s.size by omega)
      have HQ1 := hide hp
      obtain ⟨t, ht⟩ : ∃ t, tabN (bytesI s) (s.size - q1) = t := ⟨_, rfl⟩
      have HOK := hide (show ∀ j, Ok s.size j (t j) from fun j => by have h := ok_tab (bytesI s) (s.size - q1) j; rw [HLEN.out, ht] at h; exact h)
      have HZ := hide (show t p = zc by rw [← ht]; exact tabN_zero (.inl (by rw [HLEN.out]; omega)))
      have HSTEP := hide (show upd t p (fmd t (bytesI s) p 4) = tabN (bytesI s) (s.size - p) by
        have h := tabN_step (bs := bytesI s) (j := s.size - q1) (i := p) (by rw [HLEN.out]; omega)
        rw [ht] at h
        rw [show s.size - p = s.size - q1 + 1 by omega]; exact h)
      rw [ht] at HROW
      have HROW0 := hide (show RowQ wr w.heap.size 139 n1 (upd t p (fmd t (bytesI s) p 0)) by
        rw [show fmd t (bytesI s) p 0 = t p by rw [HZ.out]; rfl, upd_self]; exact HROW.out)
      clear hp hx1 hq ht hq1 HROW
      go_wp2_with fail
      obtain ⟨wo, rfl⟩ : ∃ wo : World, wo = wr := ⟨_, rfl⟩
      go_loopw [6, 7] (fun f md wr => Rw2 w n1 (bytesI s) p t f md wr) (fun _ md _ => (5 - intOf md).toNat)
      case atStart => exact ⟨0, 1, by omega, rfl, by omega, by omega, rfl, rfl, HROW0.out, HB.out⟩
      case round =>
        clear HROW0 HB
        obtain ⟨q, mq, hq4, hmq, hm1, hm5, rfl, rfl, hrow, hb⟩ := hrel
        have HMQ := hmq
        have HROW := hide hrow
        have HB := hide hb
        clear hmq hrow hb
        by_cases hlast : mq = 5
        · have HQ4 := hide (show q = 4 by have := HMQ.out; omega)
          have hm5' : ¬ (mq : Int) ≤ 4 := by omega
          have HRW := hide (show RowQ wr w.heap.size 139 n1 (tabN (bytesI s) (s.size - p)) by have h := HROW.out; rw [HQ4.out, HSTEP.out] at h; exact h)
          clear hlast HROW
          obtain ⟨b0, hb0⟩ : ∃ b0, decide ((fmd t (bytesI s) p q).s ≠ 0) = b0 := ⟨_, rfl⟩
          rw [hb0]
          clear hb0
          go_wp2_with fail
          go_roundw
          case rel => exact ⟨_, p, rfl, rfl, by omega, HRW.out, HB.out⟩
          case measure => simp [intOf]
        · have hm4 : mq ≤ 4 := by omega
          have hm4D : decide ((mq : Int) ≤ 4) = true := decide_eq_true (by omega)
          obtain ⟨a0, ha0⟩ : ∃ a, fmd t (bytesI s) p q = a := ⟨_, rfl⟩
          obtain ⟨R, hR⟩ : ∃ R, rch (mq : Int) ((bytesI s).drop p) = R := ⟨_, rfl⟩
          have hRl : R ≤ s.size - p ∧ R ≤ 255 := by
            have h := rch_le (mq : Int) ((bytesI s).drop p)
            rw [hR, List.length_drop, HLEN.out] at h; exact h
          have HRR := hide hR
          have HFM := hide (show fmd t (bytesI s) p (q + 1) = fsiz t mq p R a0 by rw [fmd, ← HMQ.out, hR, ha0])
          have HOA := hide (show Ok s.size p a0 by rw [← ha0]; have h := ok_fmd (bs := bytesI s) (i := p) (t := t) (by rw [HLEN.out]; exact HOK.out) (by rw [HLEN.out]; omega) q hq4; rw [HLEN.out] at h; exact h)
          rw [ha0] at HROW ⊢
          clear ha0 hlast hR
          obtain ⟨b0, hb0⟩ : ∃ b0, decide (a0.s ≠ 0) = b0 := ⟨_, rfl⟩
          have HB0 := hide hb0
          rw [hb0]
          clear hb0
          go_wp2_with fail
          obtain ⟨wo2, rfl⟩ : ∃ wo : World, wo = wr := ⟨_, rfl⟩
          go_loopw [6, 8] (fun f sz wr => Rw3 w n1 p mq R t a0 f sz wr) (fun _ sz _ => (256 - intOf sz).toNat)
          case atStart => exact ⟨0, 1, Nat.zero_le _, rfl, by omega, by omega, rfl, by rw [← HB0.out]; rfl, HROW.out, HB.out⟩
          case round =>
            clear HROW HB HB0
            obtain ⟨k, z, hkR, hz, hz1, hz2, rfl, rfl, hrow, hb⟩ := hrel
            have HKZ := hz
            have HROW := hide hrow
            have HB := hide hb
            clear hz hrow hb
            obtain ⟨a, ha⟩ : ∃ a, fsiz t mq p k a0 = a := ⟨_, rfl⟩
            have HA := hide ha
            rw [ha] at HROW ⊢
            clear ha
            obtain ⟨b1, hb1⟩ : ∃ b1, decide (a.s ≠ 0) = b1 := ⟨_, rfl⟩
            have HB1 := hide hb1
            rw [hb1]
            clear hb1
            have HEND := hide (fun (h : k = R) => show Rw2 w n1 (bytesI s) p t (.bool b1) (.int .i64 ((mq + 1 : Nat) : Int)) wr from ⟨q + 1, mq + 1, by have := HMQ.out; omega, hide (by have := HMQ.out; omega), by omega, by omega, rfl, by rw [HFM.out, ← h, HA.out, HB1.out], by rw [HFM.out, ← h, HA.out]; exact HROW.out, HB.out⟩)
            by_cases hz255 : z = 256
            · have HE := hide (HEND.out (by have := HKZ.out; omega))
              have hz' : ¬ (z : Int) ≤ 255 := by omega
              clear hz255 HEND
              go_wp2_with fail
              go_roundw
              case rel => exact HE.out
              case measure => simp [intOf]; omega
            · have hz3 : z ≤ 255 := by omega
              obtain ⟨xz, hxz⟩ : ∃ xz, p + z = xz := ⟨_, rfl⟩
              have hxzI : (p : Int) + (z : Int) = (xz : Int) := by omega
              clear hz255
              by_cases hin : xz ≤ s.size
              ·
                obtain ⟨xb, hxb⟩ : ∃ xb, xz = xb + 1 := ⟨xz - 1, by omega⟩
                have hxbI : (xz : Int) - 1 = (xb : Int) := by omega
                have hxbs : xb < s.size := by omega
                have HXB := hide (show xb = p + k by have := HKZ.out; omega)
                obtain ⟨y, hy, hy2, hy0, hy1⟩ := byteAt s hxbs
                have HY := hide (bytesI_at hy2 HXB.out)
                have hwy : IntKind.i64.wrap y = y := IntWalk.i64_in _ ⟨by omega, by omega⟩
                have HXZ := hide hxz
                have hxz1 : xz < n1 := by have := HN1.out; omega
                clear hy2 hxb hxz
                go_wp2_with fail
                refine (specValue (mq : Int) y _).mono ?_
                rintro e wr ⟨rfl, rfl⟩
                obtain ⟨cv, hcv⟩ : ∃ cv, cval (mq : Int) y = cv := ⟨_, rfl⟩
                rw [hcv]
                have HCV := hide hcv
                clear hcv hwy hy hy0 hy1 hxbI
                by_cases hneg : cv < 0
                · have HE := hide (HEND.out (by
                    have h1 := rch_next (m := (mq : Int)) (l := (bytesI s).drop p) (k := k) (x := y) (by rw [HRR.out]; exact hkR) (by have := HKZ.out; omega) HY.out
                    rw [HRR.out, HCV.out] at h1; omega))
                  clear HEND
                  go_wp2_with fail
                  go_roundw
                  case rel => exact HE.out
                  case measure => simp [intOf]; omega
                · have HKR := hide (show k + 1 ≤ R by
                    have h1 := rch_next (m := (mq : Int)) (l := (bytesI s).drop p) (k := k) (x := y) (by rw [HRR.out]; exact hkR) (by have := HKZ.out; omega) HY.out
                    rw [HRR.out, HCV.out] at h1; omega)
                  obtain ⟨r, hr⟩ : ∃ r, t xz = r := ⟨_, rfl⟩
                  have hokr := HOK.out xz
                  have hC := HROW.out.cells (i := xz) hxz1
                  rw [upd_ne t a (by have := HXZ.out; omega), hr] at hC
                  rw [hr] at hokr
                  obtain ⟨l1, c1, s1, m1⟩ := r
                  obtain ⟨hc1, hl1, _⟩ := hokr
                  simp only at hC hc1 hl1
                  obtain ⟨d0, d1, d2, d3⟩ := hC
                  obtain ⟨sl, hsl⟩ : ∃ sl, slen (mq : Int) z = sl := ⟨_, rfl⟩
                  have hsl2 : sl ≤ 2827 := by rw [← hsl]; exact slen_le hz3
                  obtain ⟨lx, hlx⟩ : ∃ lx, sl + l1 = lx := ⟨_, rfl⟩
                  obtain ⟨cx, hcx⟩ : ∃ cx, c1 + 1 = cx := ⟨_, rfl⟩
                  have hw5 : IntKind.i64.wrap ((sl : Int) + (l1 : Int)) = (lx : Int) := by rw [IntWalk.i64_in _ ⟨by omega, by omega⟩]; omega
                  have hw8 : IntKind.i64.wrap ((c1 : Int) + 1) = (cx : Int) := by rw [IntWalk.i64_in _ ⟨by omega, by omega⟩]; omega
                  have HFS := hide (show fsiz t mq p (k + 1) a0 = cput a ⟨lx, cx, z, mq⟩ by
                    rw [fsiz, HA.out]
                    unfold cnd
                    rw [show k + 1 = z from HKZ.out.symm, HXZ.out, hr, hsl, ← hlx, ← hcx])
                  have HLEN1 := hide (specLength (mq : Int) ⟨by omega, by omega⟩ z hz3)
                  rw [hsl] at HLEN1
                  have HEND2 := hide (fun (a' : Cel) (wx : World) (h1 : cput a ⟨lx, cx, z, mq⟩ = a') (h2 : RowQ wx w.heap.size 139 n1 (upd t p a')) (h3 : Below w.heap.size w wx) => show Rw3 w n1 p mq R t a0 (.bool (decide (a'.s ≠ 0))) (.int .i64 ((z + 1 : Nat) : Int)) wx from ⟨k + 1, z + 1, HKR.out, hide (by have := HKZ.out; omega), by omega, by omega, rfl, by rw [HFS.out, h1], by rw [HFS.out, h1]; exact h2, h3⟩)
                  clear hsl hlx hcx hr hc1 hl1 HEND hsl2
                  go_upto_region 15 with fail
                  obtain ⟨wq, hwq⟩ : ∃ wq, wr.alloc (.cells #[.int .i64 l1, .int .i64 c1, .int .i64 s1, .int .i64 m1] 139) = wq := ⟨_, rfl⟩
                  have HROWq := hide (show RowQ wq w.heap.size 139 n1 (upd t p a) by rw [← hwq]; exact HROW.out.alloc _)
                  have HBq := hide (show Below w.heap.size w wq by rw [← hwq]; exact HB.out.alloc HB.out.size _)
                  have HRq := hide (show wq.heap[wr.heap.size]? = some (.cells #[.int .i64 l1, .int .i64 c1, .int .i64 s1, .int .i64 m1] 139 (0, 0)) by rw [← hwq]; exact heap_alloc_new wr _)
                  rw [hwq]
                  clear hwq d0 d1 d2 d3
                  go_cut [10] from 53 to 64 (fun s10 wx => NewCel 139 wq lx cx z mq s10 wx)
                  case first =>
                    have HRd := hide (show wq.drew.heap[wr.heap.size]? = some (.cells #[.int .i64 l1, .int .i64 c1, .int .i64 s1, .int .i64 m1] 139 (0, 0)) from HRq.out)
                    have HBd := hide (Below.refl wq.heap.size wq).drew
                    have hsd : wq.drew.heap.size = wq.heap.size := rfl
                    have HSD := hide hsd
                    refine tail_begin (fun w' => w'.cell? ⟨wr.heap.size, 0, none⟩ = some (.int .i64 l1) ∧ w'.cell? ⟨wr.heap.size, 1, none⟩ = some (.int .i64 c1) ∧ w'.cell? ⟨wr.heap.size, 2, none⟩ = some (.int .i64 s1) ∧ w'.cell? ⟨wr.heap.size, 3, none⟩ = some (.int .i64 m1)) 13 (by kernel_rfl) (row4 HRd.out) (fun hS' => ?_)
                    obtain ⟨wd, hwd⟩ : ∃ q, wq.drew = q := ⟨_, rfl⟩
                    rw [hwd] at hS' HRd HBd HSD ⊢
                    clear hwd hsd
                    refine tail_take 0 rfl (by kernel_rfl) (by kernel_rfl) (by kernel_rfl) (by kernel_rfl) (fun _ _ _ h => h) (by rfl) (v := ?_) ?_ (by assumption) ?_
                    rotate_left 1
                    · intro w' hS'; obtain ⟨c0, c1, c2, c3⟩ := hS'; go_simp; try with_reducible rfl
                    try simp only [Act.put, List.setIfInBounds_toArray, List.set_cons_zero, List.set_cons_succ]
                    refine tail_take 1 rfl (by kernel_rfl) (by kernel_rfl) (by kernel_rfl) (by kernel_rfl) (fun _ _ _ h => h) (by rfl) (v := ?_) ?_ (by assumption) ?_
                    rotate_left 1
                    · intro w' hS'; obtain ⟨c0, c1, c2, c3⟩ := hS'; go_simp; try with_reducible rfl
                    try simp only [Act.put, List.setIfInBounds_toArray, List.set_cons_zero, List.set_cons_succ]
                    refine tail_take 3 rfl (by kernel_rfl) (by kernel_rfl) (by kernel_rfl) (by kernel_rfl) (fun _ _ _ h => h) (by rfl) (v := ?_) ?_ (by assumption) ?_
                    rotate_left 1
                    · intro w' hS'; obtain ⟨c0, c1, c2, c3⟩ := hS'; go_simp; try with_reducible rfl
                    try simp only [Act.put, List.setIfInBounds_toArray, List.set_cons_zero, List.set_cons_succ]
                    refine tail_take 4 rfl (by kernel_rfl) (by kernel_rfl) (by kernel_rfl) (by kernel_rfl) (fun _ _ _ h => h) (by rfl) (v := ?_) ?_ (by assumption) ?_
                    rotate_left 1
                    · intro w' hS'; obtain ⟨c0, c1, c2, c3⟩ := hS'; go_simp; try with_reducible rfl
                    try simp only [Act.put, List.setIfInBounds_toArray, List.set_cons_zero, List.set_cons_succ]
                    refine tail_take 6 rfl (by kernel_rfl) (by kernel_rfl) (by kernel_rfl) (by kernel_rfl) (fun _ _ _ h => h) (by rfl) (v := ?_) ?_ (by assumption) ?_
                    rotate_left 1
                    · intro w' hS'; obtain ⟨c0, c1, c2, c3⟩ := hS'; go_simp; try with_reducible rfl
                    try simp only [Act.put, List.setIfInBounds_toArray, List.set_cons_zero, List.set_cons_succ]
                    refine tail_take 7 rfl (by kernel_rfl) (by kernel_rfl) (by kernel_rfl) (by kernel_rfl) (fun _ _ _ h => h) (by rfl) (v := ?_) ?_ (by assumption) ?_
                    rotate_left 1
                    · intro w' hS'; obtain ⟨c0, c1, c2, c3⟩ := hS'; go_simp; try with_reducible rfl
                    try simp only [Act.put, List.setIfInBounds_toArray, List.set_cons_zero, List.set_cons_succ]
                    refine tail_take 8 rfl (by kernel_rfl) (by kernel_rfl) (by kernel_rfl) (by kernel_rfl) (fun _ _ _ h => h) (by rfl) (v := ?_) ?_ (by assumption) ?_
                    rotate_left 1
                    · intro w' hS'; obtain ⟨c0, c1, c2, c3⟩ := hS'; go_simp; try with_reducible rfl
                    try simp only [Act.put, List.setIfInBounds_toArray, List.set_cons_zero, List.set_cons_succ]
                    refine tail_take 9 rfl (by kernel_rfl) (by kernel_rfl) (by kernel_rfl) (by kernel_rfl) (fun _ _ _ h => h) (by rfl) (v := ?_) ?_ (by assumption) ?_
                    rotate_left 1
                    · intro w' hS'; obtain ⟨c0, c1, c2, c3⟩ := hS'; go_simp; try with_reducible rfl
                    try simp only [Act.put, List.setIfInBounds_toArray, List.set_cons_zero, List.set_cons_succ]
                    refine tail_take 10 rfl (by kernel_rfl) (by kernel_rfl) (by kernel_rfl) (by kernel_rfl) (fun _ _ _ h => h) (by rfl) (v := ?_) ?_ (by assumption) ?_
                    rotate_left 1
                    · intro w' hS'; obtain ⟨c0, c1, c2, c3⟩ := hS'; go_simp; try with_reducible rfl
                    try simp only [Act.put, List.setIfInBounds_toArray, List.set_cons_zero, List.set_cons_succ]
                    refine tail_two 2 12 rfl rfl (by kernel_rfl) rfl rfl (fun K' hK => ?_) (fun K' hK => ?_)
                    · go_simp
                      go_at_call 95
                      refine (HLEN1.out _).mono ?_
                      rintro e w2 ⟨rfl, hb2⟩
                      have HR2 := hide (show w2.heap[wr.heap.size]? = some (.cells #[.int .i64 l1, .int .i64 c1, .int .i64 s1, .int .i64 m1] 139 (0, 0)) from by rw [hb2.block _ (Array.getElem?_eq_some_iff.1 HRd.out).1]; exact HRd.out)
                      have HB2 := hide (HBd.out.trans (hb2.mono HBd.out.size))
                      clear hb2
                      refine hK.out _ _ (by (try dsimp only); exact row4 HR2.out) (fun hS' => ?_)
                      clear hK K'
                      try simp only [Act.put, List.setIfInBounds_toArray, List.set_cons_zero, List.set_cons_succ]
                      refine tail_take 5 rfl (by kernel_rfl) (by kernel_rfl) (by kernel_rfl) (by kernel_rfl) (fun _ _ _ h => h) (by rfl) (v := ?_) ?_ (by assumption) ?_
                      rotate_left 1
                      · intro w' hS'; obtain ⟨c0, c1, c2, c3⟩ := hS'; go_simp; try with_reducible rfl
                      try simp only [Act.put, List.setIfInBounds_toArray, List.set_cons_zero, List.set_cons_succ]
                      refine tail_take 11 rfl (by kernel_rfl) (by kernel_rfl) (by kernel_rfl) (by kernel_rfl) (fun _ _ _ h => h) (by rfl) (v := ?_) ?_ (by assumption) ?_
                      rotate_left 1
                      · intro w' hS'; obtain ⟨c0, c1, c2, c3⟩ := hS'; go_simp; try with_reducible rfl
                      try simp only [Act.put, List.setIfInBounds_toArray, List.set_cons_zero, List.set_cons_succ]
                      refine tail_call 12 rfl (by kernel_rfl) rfl (fun K' hK => ?_)
                      go_simp
                      refine hK.out _ _ (by (try dsimp only); exact row4 (row_keep4 HR2.out _)) (fun hS' => ?_)
                      clear hK K'
                      try simp only [Act.put, List.setIfInBounds_toArray, List.set_cons_zero, List.set_cons_succ]
                      refine tail_last 13 rfl (by kernel_rfl) (by kernel_rfl) rfl rfl (fun K' hK => ?_)
                      refine wp_store_row 139 (.tmp 10) (.tmp 64) rfl w2.heap.size #[.int .i64 lx, .int .i64 cx, .int .i64 z, .int .i64 mq] rfl rfl 139 _ (heap_alloc_new w2 _) (by kernel_rfl) rfl (one4 _ _ _ _) ?_
                      refine hK.out _ _ ?_
                      clear hK K'
                      try simp only [Act.put, List.setIfInBounds_toArray, List.set_cons_zero, List.set_cons_succ]
                      have HF := hide (newcel_fin (l := lx) (c := cx) (s := z) (m := mq) (HB2.out.alloc HB2.out.size (.cells #[.int .i64 0, .int .i64 0, .int .i64 0, .int .i64 0] 139)) (heap_alloc_new w2 _) HB2.out.size)
                      clear hS'
                      (try go_wp2_with fail)
                      go_meet
                      exact HF.out
                    · go_simp
                      refine hK.out _ _ (by (try dsimp only); exact row4 (row_keep4 HRd.out _)) (fun hS' => ?_)
                      clear hK K'
                      try simp only [Act.put, List.setIfInBounds_toArray, List.set_cons_zero, List.set_cons_succ]
                      refine tail_call 2 rfl (by kernel_rfl) rfl (fun K' hK => ?_)
                      go_simp
                      go_at_call 95
                      refine (HLEN1.out _).mono ?_
                      rintro e w2 ⟨rfl, hb2⟩
                      have HR2 := hide (show w2.heap[wr.heap.size]? = some (.cells #[.int .i64 l1, .int .i64 c1, .int .i64 s1, .int .i64 m1] 139 (0, 0)) from by rw [hb2.block _ (by have := (Array.getElem?_eq_some_iff.1 HRd.out).1; rw [alloc_size]; omega)]; exact row_keep4 HRd.out _)
                      have HZ2 := hide (show w2.heap[wd.heap.size]? = some (.cells #[.int .i64 0, .int .i64 0, .int .i64 0, .int .i64 0] 139 (0, 0)) from by rw [hb2.block _ (by rw [alloc_size]; omega)]; exact heap_alloc_new wd _)
                      have HB2 := hide ((HBd.out.alloc HBd.out.size (.cells #[.int .i64 0, .int .i64 0, .int .i64 0, .int .i64 0] 139)).trans (hb2.mono (by rw [alloc_size]; have := HBd.out.size; omega)))
                      clear hb2
                      refine hK.out _ _ (by (try dsimp only); exact row4 HR2.out) (fun hS' => ?_)
                      clear hK K'
                      try simp only [Act.put, List.setIfInBounds_toArray, List.set_cons_zero, List.set_cons_succ]
                      refine tail_take 5 rfl (by kernel_rfl) (by kernel_rfl) (by kernel_rfl) (by kernel_rfl) (fun _ _ _ h => h) (by rfl) (v := ?_) ?_ (by assumption) ?_
                      rotate_left 1
                      · intro w' hS'; obtain ⟨c0, c1, c2, c3⟩ := hS'; go_simp; try with_reducible rfl
                      try simp only [Act.put, List.setIfInBounds_toArray, List.set_cons_zero, List.set_cons_succ]
                      refine tail_take 11 rfl (by kernel_rfl) (by kernel_rfl) (by kernel_rfl) (by kernel_rfl) (fun _ _ _ h => h) (by rfl) (v := ?_) ?_ (by assumption) ?_
                      rotate_left 1
                      · intro w' hS'; obtain ⟨c0, c1, c2, c3⟩ := hS'; go_simp; try with_reducible rfl
                      try simp only [Act.put, List.setIfInBounds_toArray, List.set_cons_zero, List.set_cons_succ]
                      refine tail_last 13 rfl (by kernel_rfl) (by kernel_rfl) rfl rfl (fun K' hK => ?_)
                      refine wp_store_row 139 (.tmp 10) (.tmp 64) rfl wd.heap.size #[.int .i64 lx, .int .i64 cx, .int .i64 z, .int .i64 mq] rfl rfl 139 _ HZ2.out (by kernel_rfl) rfl (one4 _ _ _ _) ?_
                      refine hK.out _ _ ?_
                      clear hK K'
                      try simp only [Act.put, List.setIfInBounds_toArray, List.set_cons_zero, List.set_cons_succ]
                      have HF := hide (newcel_fin (l := lx) (c := cx) (s := z) (m := mq) HB2.out HZ2.out (by rw [HSD.out]; exact Nat.le_refl _))
                      clear hS'
                      (try go_wp2_with fail)
                      go_meet
                      exact HF.out
                  case rest =>
                    obtain ⟨bx, hbx, hbx1, hbx2, hbx3⟩ := hcut
                    subst hbx
                    have HRX := hide hbx2
                    have HROWc := hide (HROWq.out.next hbx3)
                    have HBc := hide (HBq.out.trans (hbx3.mono HBq.out.size))
                    have hwq1 : w.heap.size < wq.heap.size := HROWq.out.lt
                    have hne : w.heap.size ≠ bx := by omega
                    clear hbx2 hbx3 HROWq HBq HRq
                    obtain ⟨x0, x1, x2, x3⟩ := row4 HRX.out
                    have hA := HROWc.out.cells (i := p) (by have := HN1.out; omega)
                    rw [upd_at] at hA
                    have HAA := hide hA
                    obtain ⟨a0', a1', a2', a3'⟩ := hA
                    have f0 := HROWc.out.frozen (p * 4)
                    have f1 := HROWc.out.frozen (p * 4 + 1)
                    have f2 := HROWc.out.frozen (p * 4 + 2)
                    have f3 := HROWc.out.frozen (p * 4 + 3)
                    have hps1 : p < n1 := by have := HN1.out; omega
                    have HEP := hide (fun (wy : World) (h0 : cput a ⟨lx, cx, z, mq⟩ = ⟨lx, cx, z, mq⟩) (h1 : RowQ wy w.heap.size 139 n1 (upd t p a)) (h2 : Below w.heap.size w wy) => show Rw3 w n1 p mq R t a0 (.bool true) (.int .i64 ((z + 1 : Nat) : Int)) (set4 wy w.heap.size p ⟨lx, cx, z, mq⟩) from by
                      obtain ⟨g1, g2⟩ := put_fin h1 h2 hps1 ⟨lx, cx, z, mq⟩
                      have h := HEND2.out ⟨lx, cx, z, mq⟩ _ h0 g1 g2
                      rw [show decide ((⟨lx, cx, z, mq⟩ : Cel).s ≠ 0) = true from decide_eq_true (by show z ≠ 0; omega)] at h
                      exact h)
                    by_cases ha0 : a.s = 0
                    · obtain rfl : b1 = false := by rw [← HB1.out]; simp [ha0]
                      have HCP := hide (show cput a ⟨lx, cx, z, mq⟩ = ⟨lx, cx, z, mq⟩ by unfold cput; rw [if_pos ha0])
                      clear ha0
                      go_wp2_with fail
                      refine tail_begin (fun _ => True) 10 (by kernel_rfl) trivial (fun hS' => ?_)
                      refine tail_take2 0 rfl (by kernel_rfl) (by kernel_rfl) (by kernel_rfl) (by decide) (fun _ _ _ h => h) (by rfl) (v := ?_) ?_ (by assumption) ?_
                      rotate_left 1
                      · intro w' hS'; (try dsimp only at hS'); go_simp; try with_reducible rfl
                      try simp only [Act.put, List.setIfInBounds_toArray, List.set_cons_zero, List.set_cons_succ]
                      refine tail_take2 1 rfl (by kernel_rfl) (by kernel_rfl) (by kernel_rfl) (by decide) (fun _ _ _ h => h) (by rfl) (v := ?_) ?_ (by assumption) ?_
                      rotate_left 1
                      · intro w' hS'; (try dsimp only at hS'); go_simp; try with_reducible rfl
                      try simp only [Act.put, List.setIfInBounds_toArray, List.set_cons_zero, List.set_cons_succ]
                      refine tail_take2 2 rfl (by kernel_rfl) (by kernel_rfl) (by kernel_rfl) (by decide) (fun _ _ _ h => h) (by rfl) (v := ?_) ?_ (by assumption) ?_
                      rotate_left 1
                      · intro w' hS'; (try dsimp only at hS'); go_simp; try with_reducible rfl
                      try simp only [Act.put, List.setIfInBounds_toArray, List.set_cons_zero, List.set_cons_succ]
                      refine tail_skip 3 rfl (by kernel_rfl) (by kernel_rfl) (by kernel_rfl) (by decide) (fun _ _ _ h => h) (by rfl) (by assumption) ?_
                      try simp only [Act.put, List.setIfInBounds_toArray, List.set_cons_zero, List.set_cons_succ]
                      refine tail_skip 4 rfl (by kernel_rfl) (by kernel_rfl) (by kernel_rfl) (by decide) (fun _ _ _ h => h) (by rfl) (by assumption) ?_
                      try simp only [Act.put, List.setIfInBounds_toArray, List.set_cons_zero, List.set_cons_succ]
                      refine tail_skip 5 rfl (by kernel_rfl) (by kernel_rfl) (by kernel_rfl) (by decide) (fun _ _ _ h => h) (by rfl) (by assumption) ?_
                      try simp only [Act.put, List.setIfInBounds_toArray, List.set_cons_zero, List.set_cons_succ]
                      refine tail_skip 6 rfl (by kernel_rfl) (by kernel_rfl) (by kernel_rfl) (by decide) (fun _ _ _ h => h) (by rfl) (by assumption) ?_
                      try simp only [Act.put, List.setIfInBounds_toArray, List.set_cons_zero, List.set_cons_succ]
                      refine tail_skip 7 rfl (by kernel_rfl) (by kernel_rfl) (by kernel_rfl) (by decide) (fun _ _ _ h => h) (by rfl) (by assumption) ?_
                      try simp only [Act.put, List.setIfInBounds_toArray, List.set_cons_zero, List.set_cons_succ]
                      refine tail_skip 8 rfl (by kernel_rfl) (by kernel_rfl) (by kernel_rfl) (by decide) (fun _ _ _ h => h) (by rfl) (by assumption) ?_
                      try simp only [Act.put, List.setIfInBounds_toArray, List.set_cons_zero, List.set_cons_succ]
                      refine tail_take2 9 rfl (by kernel_rfl) (by kernel_rfl) (by kernel_rfl) (by decide) (fun _ _ _ h => h) (by rfl) (v := ?_) ?_ (by assumption) ?_
                      rotate_left 1
                      · intro w' hS'; (try dsimp only at hS'); go_simp; try with_reducible rfl
                      try simp only [Act.put, List.setIfInBounds_toArray, List.set_cons_zero, List.set_cons_succ]
                      refine tail_end (by kernel_rfl) ?_
                      have HROWd := hide HROWc.out.drew
                      have HBd := hide HBc.out.drew
                      have HRXd := hide (show wc.drew.heap[bx]? = _ from HRX.out)
                      obtain ⟨wy, hwy⟩ : ∃ wy, wc.drew = wy := ⟨_, rfl⟩
                      rw [hwy] at HROWd HBd HRXd ⊢
                      clear hwy x0 x1 x2 x3 a0' a1' a2' a3' f0 f1 f2 f3
                      obtain ⟨x0, x1, x2, x3⟩ := row4 HRXd.out
                      obtain ⟨a0', a1', a2', a3'⟩ := HROWd.out.cells hps1
                      have f0 := HROWd.out.frozen (p * 4)
                      have f1 := HROWd.out.frozen (p * 4 + 1)
                      have f2 := HROWd.out.frozen (p * 4 + 2)
                      have f3 := HROWd.out.frozen (p * 4 + 3)
                      have HEPd := hide (HEP.out wy HCP.out HROWd.out HBd.out)
                      go_wp2_with fail
                      go_roundw
                      case rel => exact HEPd.out
                      case measure => simp [intOf]; omega
                    · obtain rfl : b1 = true := by rw [← HB1.out]; simp [ha0]
                      have HCP := hide (show cput a ⟨lx, cx, z, mq⟩ = if btr ⟨lx, cx, z, mq⟩ a then ⟨lx, cx, z, mq⟩ else a by unfold cput; rw [if_neg ha0])
                      have HRXn := hide (fun (wy : World) (h : Below wc.heap.size wc wy) => show wy.heap[bx]? = some (.cells #[.int .i64 lx, .int .i64 cx, .int .i64 z, .int .i64 mq] 139 (0, 0)) from by rw [h.block _ (Array.getElem?_eq_some_iff.1 HRX.out).1]; exact HRX.out)
                      have HRWn := hide (fun (wy : World) (h : Below wc.heap.size wc wy) => HROWc.out.next h)
                      have HBn := hide (fun (wy : World) (h : Below wc.heap.size wc wy) => HBc.out.trans (h.mono HBc.out.size))
                      have HSn := hide (fun (wy : World) (h : Below wc.heap.size wc wy) => show (wy.cell? ⟨bx, 0, none⟩ = some (.int .i64 lx) ∧ wy.cell? ⟨bx, 1, none⟩ = some (.int .i64 cx) ∧ wy.cell? ⟨bx, 2, none⟩ = some (.int .i64 z) ∧ wy.cell? ⟨bx, 3, none⟩ = some (.int .i64 mq)) ∧ (wy.cell? ⟨w.heap.size, p * 4, none⟩ = some (.int .i64 a.l) ∧ wy.cell? ⟨w.heap.size, p * 4 + 1, none⟩ = some (.int .i64 a.c) ∧ wy.cell? ⟨w.heap.size, p * 4 + 2, none⟩ = some (.int .i64 a.s) ∧ wy.cell? ⟨w.heap.size, p * 4 + 3, none⟩ = some (.int .i64 a.m)) from ⟨row4 (HRXn.out wy h), by have q := (HRWn.out wy h).cells hps1; rw [upd_at] at q; exact q⟩)
                      have HD := hide ((Below.refl wc.heap.size wc).drew)
                      clear ha0
                      go_wp2_with fail
                      go_region_held3 (fun w' => (w'.cell? ⟨bx, 0, none⟩ = some (.int .i64 lx) ∧ w'.cell? ⟨bx, 1, none⟩ = some (.int .i64 cx) ∧ w'.cell? ⟨bx, 2, none⟩ = some (.int .i64 z) ∧ w'.cell? ⟨bx, 3, none⟩ = some (.int .i64 mq)) ∧ (w'.cell? ⟨w.heap.size, p * 4, none⟩ = some (.int .i64 a.l) ∧ w'.cell? ⟨w.heap.size, p * 4 + 1, none⟩ = some (.int .i64 a.c) ∧ w'.cell? ⟨w.heap.size, p * 4 + 2, none⟩ = some (.int .i64 a.s) ∧ w'.cell? ⟨w.heap.size, p * 4 + 3, none⟩ = some (.int .i64 a.m)))
                        (first
                          | exact HSn.out _ HD.out
                          | exact HSn.out _ HD2.out)
                        ((go_at_call 118; refine (specBetter ⟨lx, cx, z, mq⟩ a _).mono ?_; rintro e w2 ⟨rfl, hb2⟩; have HD2 := hide (HD.out.trans (hb2.mono HD.out.size)); clear hb2))
                      have HROWd := hide (HRWn.out _ HD2.out)
                      have HBd := hide (HBn.out _ HD2.out)
                      have HRXd := hide (HRXn.out _ HD2.out)
                      clear x0 x1 x2 x3 a0' a1' a2' a3' f0 f1 f2 f3 HD HSn HRXn HRWn HBn
                      obtain ⟨x0, x1, x2, x3⟩ := row4 HRXd.out
                      obtain ⟨a0', a1', a2', a3'⟩ := HROWd.out.cells hps1
                      have f0 := HROWd.out.frozen (p * 4)
                      have f1 := HROWd.out.frozen (p * 4 + 1)
                      have f2 := HROWd.out.frozen (p * 4 + 2)
                      have f3 := HROWd.out.frozen (p * 4 + 3)
                      by_cases hbt : btr ⟨lx, cx, z, mq⟩ a = true
                      · have HEPd := hide (HEP.out w2 (by rw [HCP.out, if_pos hbt]) HROWd.out HBd.out)
                        rw [hbt]
                        clear hbt
                        go_wp2_with fail
                        go_roundw
                        case rel => exact HEPd.out
                        case measure => simp [intOf]; omega
                      · have hbf : btr ⟨lx, cx, z, mq⟩ a = false := by simpa using hbt
                        have HE2 := hide (show Rw3 w n1 p mq R t a0 (.bool true) (.int .i64 ((z + 1 : Nat) : Int)) w2 from by
                          have h := HEND2.out a w2 (by rw [HCP.out, if_neg hbt]) HROWd.out HBd.out
                          rw [HB1.out] at h; exact h)
                        rw [hbf]
                        clear hbt hbf
                        go_wp2_with fail
                        go_roundw
                        case rel => exact HE2.out
                        case measure => simp [intOf]; omega
              · have HE := hide (HEND.out (by have := HKZ.out; omega))
                have hin' : ¬ (xz : Int) ≤ (s.size : Int) := by omega
                clear HEND hin hxz
                go_wp2_with fail
                go_roundw
                case rel => exact HE.out
                case measure => simp [intOf]; omega
end Go.Proofs.Ythbmfaogjaahoaa

namespace Go.Proofs.Ythbmfaogjaahoaa
open Go.RowKit
set_option linter.unusedSimpArgs false
set_option linter.unusedVariables false

/-- How far a mode reaches one index before. -/
def stb (m y : Int) (sz : Nat) : Nat := if cval m y < 0 then 0 else min (sz + 1) 255
/-- What a step back leaves: one cell has changed. -/
def StepPost (g o ns : Nat) (w : World) (e : Ending) (w' : World) : Prop := e = .returned (.tuple #[]) ∧ ∃ w1, Below w.heap.size w w1 ∧ w' = w1.setCell ⟨g, o + 3, none⟩ (.int .i64 ns)

set_option maxRecDepth 100000 in
set_option maxHeartbeats 2000000 in
theorem implStepA (m : Int) (a : ByteArray) (zz : Int) (g o sz : Nat) (y : Int) (w : World) (hy0 : 0 ≤ y) (hy1 : y ≤ 255) (hsz : sz ≤ 255) (hg : g < w.heap.size)
    (hV : ∀ b w, Calls Try.prog 152 #[.agg #[.string a, .int .i64 zz], .int .i64 b] w (Gives (.int .i64 (cval m b)) w))
    (h1 : w.cell? ⟨g, o + 1, none⟩ = some (.iface 170 (.agg #[.string a, .int .i64 zz]))) (h3 : w.cell? ⟨g, o + 3, none⟩ = some (.int .i64 sz)) (hf : w.frozen? ⟨g, o + 3, none⟩ = false) :
    Calls Try.prog 120 #[.pointer (some ⟨g, o, none⟩), .int .u8 y] w (StepPost g o (stb m y sz) w) := by
  have hmd := mdW_a
  have hwy : IntKind.i64.wrap y = y := IntWalk.i64_in _ ⟨by omega, by omega⟩
  have HV := hide (hV y)
  have HN := hide (fun (wx : World) (hx : Below w.heap.size w wx) => show wx.cell? ⟨g, o + 3, none⟩ = some (.int .i64 sz) ∧ wx.frozen? ⟨g, o + 3, none⟩ = false from ⟨(hx.cell (p := ⟨g, o + 3, none⟩) hg).trans h3, (hx.frozen (p := ⟨g, o + 3, none⟩) hg).trans hf⟩)
  have hcc := cval_cases m y
  clear hV
  go_enter Try.func120, Try.ntmps120
  go_wp2_with fail
  refine (HV.out _).mono ?_
  rintro e w1 ⟨rfl, hb1⟩
  obtain ⟨d3, df⟩ := HN.out w1 hb1
  have HB1 := hide hb1
  clear hb1 h1 h3 hf HV
  by_cases hc : cval m y < 0
  · have HS := hide (show stb m y sz = 0 by unfold stb; rw [if_pos hc])
    have hcv : cval m y = -1 := by omega
    rw [hcv]
    clear hc hcc hcv
    go_wp2_with fail
    first | (refine bodyPost_ret (results_none rfl _ _ _) rfl ?_) | go_end0
    exact ⟨rfl, w1, HB1.out, by rw [HS.out]; rfl⟩
  · have HS := hide (show stb m y sz = min (sz + 1) 255 by unfold stb; rw [if_neg hc])
    obtain ⟨cv, hcv⟩ : ∃ cv, cval m y = cv := ⟨_, rfl⟩
    have hne : (cv == -1) = false := by rw [← hcv]; simp; omega
    rw [hcv]
    clear hc hcc hcv
    by_cases h5 : sz + 1 ≤ 255
    · have HS2 := hide (show stb m y sz = sz + 1 by rw [HS.out]; omega)
      clear HS
      go_wp2_with fail
      first | (refine bodyPost_ret (results_none rfl _ _ _) rfl ?_) | go_end0
      exact ⟨rfl, w1, HB1.out, by rw [HS2.out]; rfl⟩
    · have HS2 := hide (show stb m y sz = 255 by rw [HS.out]; omega)
      have h5' : sz = 255 := by omega
      subst h5'
      clear HS
      go_wp2_with fail
      first | (refine bodyPost_ret (results_none rfl _ _ _) rfl ?_) | go_end0
      exact ⟨rfl, w1, HB1.out, by rw [HS2.out]; rfl⟩

set_option maxRecDepth 100000 in
set_option maxHeartbeats 2000000 in
theorem implStepB (g o sz : Nat) (y : Int) (w : World) (hy0 : 0 ≤ y) (hy1 : y ≤ 255) (hsz : sz ≤ 255) (hg : g < w.heap.size)
    (h1 : w.cell? ⟨g, o + 1, none⟩ = some (.iface 172 (.agg #[]))) (h3 : w.cell? ⟨g, o + 3, none⟩ = some (.int .i64 sz)) (hf : w.frozen? ⟨g, o + 3, none⟩ = false) :
    Calls Try.prog 120 #[.pointer (some ⟨g, o, none⟩), .int .u8 y] w (StepPost g o (stb 4 y sz) w) := by
  have hmd := mdW_b
  have hwy : IntKind.i64.wrap y = y := IntWalk.i64_in _ ⟨by omega, by omega⟩
  have HV := hide (fun w' => implValueB y w')
  have HN := hide (fun (wx : World) (hx : Below w.heap.size w wx) => show wx.cell? ⟨g, o + 3, none⟩ = some (.int .i64 sz) ∧ wx.frozen? ⟨g, o + 3, none⟩ = false from ⟨(hx.cell (p := ⟨g, o + 3, none⟩) hg).trans h3, (hx.frozen (p := ⟨g, o + 3, none⟩) hg).trans hf⟩)
  have hcc := cval_byte hy0 hy1
  rw [hcc] at HV
  have HS := hide (show stb 4 y sz = min (sz + 1) 255 by unfold stb; rw [hcc, if_neg (by omega)])
  have hne : (y == -1) = false := by simp; omega
  clear hcc
  go_enter Try.func120, Try.ntmps120
  go_wp2_with fail
  refine (HV.out _).mono ?_
  rintro e w1 ⟨rfl, hb1⟩
  obtain ⟨d3, df⟩ := HN.out w1 hb1
  have HB1 := hide hb1
  clear hb1 h1 h3 hf HV
  by_cases h5 : sz + 1 ≤ 255
  · have HS2 := hide (show stb 4 y sz = sz + 1 by rw [HS.out]; omega)
    clear HS
    go_wp2_with fail
    first | (refine bodyPost_ret (results_none rfl _ _ _) rfl ?_) | go_end0
    exact ⟨rfl, w1, HB1.out, by rw [HS2.out]; rfl⟩
  · have HS2 := hide (show stb 4 y sz = 255 by rw [HS.out]; omega)
    have h5' : sz = 255 := by omega
    subst h5'
    clear HS
    go_wp2_with fail
    first | (refine bodyPost_ret (results_none rfl _ _ _) rfl ?_) | go_end0
    exact ⟨rfl, w1, HB1.out, by rw [HS2.out]; rfl⟩
/-- One step back, in whatever mode. -/
theorem implStep (m : Int) (hm : 1 ≤ m ∧ m ≤ 4) (g o sz : Nat) (y : Int) (w : World) (hy0 : 0 ≤ y) (hy1 : y ≤ 255) (hsz : sz ≤ 255) (hg : g < w.heap.size)
    (h1 : w.cell? ⟨g, o + 1, none⟩ = some (MV m)) (h3 : w.cell? ⟨g, o + 3, none⟩ = some (.int .i64 sz)) (hf : w.frozen? ⟨g, o + 3, none⟩ = false) :
    Calls Try.prog 120 #[.pointer (some ⟨g, o, none⟩), .int .u8 y] w (StepPost g o (stb m y sz) w) := by
  by_cases h4 : m = 4
  · subst h4; rw [MV_b] at h1; exact implStepB g o sz y w hy0 hy1 hsz hg h1 h3 hf
  · have hm3 : m = 1 ∨ m = 2 ∨ m = 3 := by omega
    rw [MV_a hm3] at h1
    refine implStepA m _ _ g o sz y w hy0 hy1 hsz hg (fun b w' => ?_) h1 h3 hf
    have h := implValueA (stS m) ((gsz m : Nat) : Int) b (by rw [stS_chars hm3]; exact ch_lt m) (by rw [stS_size hm3]; rcases hm3 with rfl | rfl | rfl <;> decide) w'
    rw [stS_chars hm3, ← cval_pos hm3] at h
    exact h
end Go.Proofs.Ythbmfaogjaahoaa

namespace Go.Proofs.Ythbmfaogjaahoaa
open Go Go.RowKit
set_option linter.unusedSimpArgs false
set_option linter.unusedVariables false

theorem eqz_run (l c s m : Nat) (hs : s ≠ 0) (w : World) : (binOp .eql 146 (.agg #[.int .i64 l, .int .i64 c, .int .i64 s, .int .i64 m]) (.agg #[.int .i64 0, .int .i64 0, .int .i64 0, .int .i64 0])).run Try.prog w = .ok (.bool false) w := by
  have e3 : ((s : Int) == 0) = false := by simpa using hs
  by_cases h1 : l = 0
  · subst h1
    by_cases h2 : c = 0
    · subst h2
      go_simp
    · go_simp
  · go_simp
/-- What improve leaves. -/
def ImpPost (b p m R : Nat) (t : Nat → Cel) (a0 : Cel) (w : World) (e : Ending) (w' : World) : Prop :=
  e = .returned (.tuple #[]) ∧ RowQ w' b 148 401 (upd t p (fsiz t m p R a0)) ∧ w.grownBy w' (some b)
def ImpRel (b p m R : Nat) (t : Nat → Cel) (a0 : Cel) (w : World) (r0 r1 r2 r3 : Value) (sz : Value) (wr : World) : Prop :=
  ∃ k z : Nat, k ≤ R ∧ Hid (z = k + 1) ∧ 1 ≤ z ∧ z ≤ 256 ∧ sz = .int .i64 z ∧ RowQ wr b 148 401 (upd t p (fsiz t m p k a0)) ∧ w.grownBy wr (some b) ∧ wr.heap[w.heap.size]? = some (.cells #[r0, r1, r2, r3] 164 (0, 0))
theorem growAlloc {w wr : World} {row : Option Nat} (h : w.grownBy wr row) (o : Obj) : w.grownBy (wr.alloc o) row := grown_trans h (World.grownBy_alloc wr o row)
theorem growBelow {w wr wx : World} {row : Option Nat} (h : w.grownBy wr row) (hb : Below wr.heap.size wr wx) : w.grownBy wx row :=
  grown_trans h ⟨hb.os, hb.tape, hb.output, hb.size, fun i hi _ => hb.block i hi⟩
theorem two_cells {w : World} {b : Nat} {x0 x1 : Value} {t : TypeId} (h : w.heap[b]? = some (.cells #[x0, x1] t (0, 0))) : w.cell? ⟨b, 0, none⟩ = some x0 ∧ w.cell? ⟨b, 1, none⟩ = some x1 :=
  ⟨cell_of_row w b 0 _ _ _ h, cell_of_row w b 1 _ _ _ h⟩
theorem cell_keep {w : World} {p : Addr} {v : Value} (h : w.cell? p = some v) (o : Obj) : (w.alloc o).cell? p = some v := by
  exact (World.cell?_alloc_some w p o (by rw [h]; rfl)).trans h
theorem heap_next {w w' : World} {i : Nat} {o : Obj} (h : w.heap[i]? = some o) (hb : Below w.heap.size w w') : w'.heap[i]? = some o := by
  rw [hb.block i (Array.getElem?_eq_some_iff.1 h).1]; exact h

set_option maxRecDepth 100000 in
set_option maxHeartbeats 8000000 in
theorem implImprove (b p m R N gl nl cl : Nat) (Mv : Value) (t : Nat → Cel) (a0 : Cel) (w : World) (hrow : RowQ w b 148 401 (upd t p a0))
    (hgl : gl < w.heap.size) (hgb : gl ≠ b) (hL : ∀ k, k < nl → w.cell? ⟨gl, k, none⟩ = some (.int .i64 (slen m k : Nat))) (hR : R < nl) (hR2 : R ≤ 255) (hN : N ≤ 400) (hpR : p + R ≤ N) (hm : m ≤ 4) (hok : ∀ j, Ok N j (t j)) (hoa : Ok N p a0) :
    Calls Try.prog 121 #[.pointer (some ⟨b, 0, none⟩), .int .i64 p, .agg #[.int .i64 m, Mv, .slice (some ⟨gl, 0, none⟩) nl cl, .int .i64 R]] w (ImpPost b p m R t a0 w) := by
  have hbw := hrow.lt
  have HROW0 := hide (hrow.alloc (.cells #[.int .i64 m, Mv, .slice (some ⟨gl, 0, none⟩) nl cl, .int .i64 R] 164))
  have HG0 := hide (World.grownBy_alloc w (.cells #[.int .i64 m, Mv, .slice (some ⟨gl, 0, none⟩) nl cl, .int .i64 R] 164) (some b))
  have HX0 := hide (heap_alloc_new w (.cells #[.int .i64 m, Mv, .slice (some ⟨gl, 0, none⟩) nl cl, .int .i64 R] 164))
  have HL := hide hL
  have HOK := hide hok
  have HOA := hide hoa
  clear hrow hL hok hoa
  go_enter Try.func121, Try.ntmps121
  go_wp2_with fail
  go_loopw [6] (fun sz wr => ImpRel b p m R t a0 w (.int .i64 m) Mv (.slice (some ⟨gl, 0, none⟩) nl cl) (.int .i64 R) sz wr) (fun sz _ => (256 - intOf sz).toNat)
  case atStart => exact ⟨0, 1, Nat.zero_le _, rfl, by omega, by omega, rfl, HROW0.out, HG0.out, HX0.out⟩
  case round =>
    clear HROW0 HG0 HX0
    obtain ⟨k, z, hkR, hz, hz1, hz2, rfl, hrw, hg, hx⟩ := hrel
    have HKZ := hz
    have HROW := hide hrw
    have HG := hide hg
    have HX := hide hx
    clear hz hrw hg hx
    obtain ⟨a, ha⟩ : ∃ a, fsiz t m p k a0 = a := ⟨_, rfl⟩
    have HA := hide ha
    rw [ha] at HROW
    clear ha
    obtain ⟨_, _, _, c3⟩ := row4 HX.out
    by_cases hlast : z ≤ R
    · obtain ⟨xz, hxz⟩ : ∃ xz, p + z = xz := ⟨_, rfl⟩
      have hxzI : (p : Int) + (z : Int) = (xz : Int) := by omega
      have HXZ := hide hxz
      have hxz1 : xz < 401 := by omega
      have hps1 : p < 401 := by omega
      have hps1I : (p : Int) < 401 := by omega
      have hps0I : 0 ≤ (p : Int) := by omega
      have hzl : z < nl := by omega
      have hzR : (z : Int) ≤ (R : Int) := by omega
      obtain ⟨r, hr⟩ : ∃ r, t xz = r := ⟨_, rfl⟩
      have hokr := HOK.out xz
      have hC := HROW.out.cells (i := xz) hxz1
      rw [upd_ne t a (by omega), hr] at hC
      rw [hr] at hokr
      obtain ⟨l1, c1, s1, m1⟩ := r
      obtain ⟨hc1, hl1, _⟩ := hokr
      simp only at hC hc1 hl1
      obtain ⟨d0, d1, _, _⟩ := hC
      obtain ⟨sl, hsl⟩ : ∃ sl, slen (m : Int) z = sl := ⟨_, rfl⟩
      have hsl2 : sl ≤ 2827 := by rw [← hsl]; exact slen_le (by omega)
      have hcl := HL.out z hzl
      rw [hsl] at hcl
      obtain ⟨lx, hlx⟩ : ∃ lx, sl + l1 = lx := ⟨_, rfl⟩
      obtain ⟨cx, hcx⟩ : ∃ cx, c1 + 1 = cx := ⟨_, rfl⟩
      have hw5 : IntKind.i64.wrap ((sl : Int) + (l1 : Int)) = (lx : Int) := by rw [IntWalk.i64_in _ ⟨by omega, by omega⟩]; omega
      have hw8 : IntKind.i64.wrap (1 + (c1 : Int)) = (cx : Int) := by rw [IntWalk.i64_in _ ⟨by omega, by omega⟩]; omega
      have HFS := hide (show fsiz t m p (k + 1) a0 = cput a ⟨lx, cx, z, m⟩ by
        rw [fsiz, HA.out]
        unfold cnd
        rw [show k + 1 = z from HKZ.out.symm, HXZ.out, hr, hsl, ← hlx, ← hcx])
      have HKR := hide (show k + 1 ≤ R by have := HKZ.out; omega)
      have HAK := hide (show Ok N p a by rw [← HA.out]; exact ok_fsiz HOK.out hm HOA.out k (by omega) (by omega))
      have HEND2 := hide (fun (a' : Cel) (wx : World) (h1 : cput a ⟨lx, cx, z, m⟩ = a') (h2 : RowQ wx b 148 401 (upd t p a')) (h3 : w.grownBy wx (some b)) (h4 : wx.heap[w.heap.size]? = some (.cells #[.int .i64 m, Mv, .slice (some ⟨gl, 0, none⟩) nl cl, .int .i64 R] 164 (0, 0))) => show ImpRel b p m R t a0 w (.int .i64 m) Mv (.slice (some ⟨gl, 0, none⟩) nl cl) (.int .i64 R) (.int .i64 ((z + 1 : Nat) : Int)) wx from ⟨k + 1, z + 1, HKR.out, hide (by have := HKZ.out; omega), by omega, by omega, rfl, by rw [HFS.out, h1]; exact h2, h3, h4⟩)
      have hclr : wr.cell? ⟨gl, z, none⟩ = some (.int .i64 (sl : Nat)) := (grown_cell (p := ⟨gl, z, none⟩) HG.out hgl (by simp; omega)).trans hcl
      have HCLR := hide hclr
      have hwl : w.heap.size < wr.heap.size := (Array.getElem?_eq_some_iff.1 HX.out).1
      have hglr : gl < wr.heap.size := by omega
      clear hsl hlx hcx hr hc1 hl1 hsl2 hcl hxz hclr
      go_upto_region 5 with fail
      obtain ⟨wq, hwq⟩ : ∃ wq, wr.alloc (.cells #[.int .i64 l1, .int .i64 c1] 144) = wq := ⟨_, rfl⟩
      have hbq : Below wr.heap.size wr wq := by rw [← hwq]; exact (Below.refl _ _).alloc (Nat.le_refl _) _
      have HROWq := hide (HROW.out.next hbq)
      have HGq := hide (growBelow HG.out hbq)
      have HXq := hide (heap_next HX.out hbq)
      have HLq := hide (show wq.cell? ⟨gl, z, none⟩ = some (.int .i64 (sl : Nat)) from (hbq.cell (p := ⟨gl, z, none⟩) hglr).trans HCLR.out)
      have HRq := hide (show wq.heap[wr.heap.size]? = some (.cells #[.int .i64 l1, .int .i64 c1] 144 (0, 0)) by rw [← hwq]; exact heap_alloc_new wr _)
      rw [hwq]
      clear hwq hbq d0 d1 c3
      go_cut [8] from 23 to 38 (fun s8 wx => NewCel 146 wq lx cx z m s8 wx)
      case first =>
        refine tail_begin (fun w' => (w'.cell? ⟨w.heap.size, 0, none⟩ = some (.int .i64 m) ∧ w'.cell? ⟨w.heap.size, 1, none⟩ = some Mv ∧ w'.cell? ⟨w.heap.size, 2, none⟩ = some (.slice (some ⟨gl, 0, none⟩) nl cl) ∧ w'.cell? ⟨w.heap.size, 3, none⟩ = some (.int .i64 R)) ∧ (w'.cell? ⟨wr.heap.size, 0, none⟩ = some (.int .i64 l1) ∧ w'.cell? ⟨wr.heap.size, 1, none⟩ = some (.int .i64 c1)) ∧ w'.cell? ⟨gl, z, none⟩ = some (.int .i64 (sl : Nat))) 17 (by kernel_rfl) ⟨row4 HXq.out, two_cells HRq.out, HLq.out⟩ (fun hS' => ?_)
        refine tail_take 0 rfl (by kernel_rfl) (by kernel_rfl) (by kernel_rfl) (by kernel_rfl) (fun _ _ _ h => h) (by rfl) (v := ?_) ?_ (by assumption) ?_
        rotate_left 1
        · intro w' hS'; obtain ⟨⟨c0, c1, c2, c3⟩, ⟨e0, e1⟩, e2⟩ := hS'; go_simp; try with_reducible rfl
        try simp only [Act.put, List.setIfInBounds_toArray, List.set_cons_zero, List.set_cons_succ]
        refine tail_take 1 rfl (by kernel_rfl) (by kernel_rfl) (by kernel_rfl) (by kernel_rfl) (fun _ _ _ h => h) (by rfl) (v := ?_) ?_ (by assumption) ?_
        rotate_left 1
        · intro w' hS'; obtain ⟨⟨c0, c1, c2, c3⟩, ⟨e0, e1⟩, e2⟩ := hS'; go_simp; try with_reducible rfl
        try simp only [Act.put, List.setIfInBounds_toArray, List.set_cons_zero, List.set_cons_succ]
        refine tail_take 2 rfl (by kernel_rfl) (by kernel_rfl) (by kernel_rfl) (by kernel_rfl) (fun _ _ _ h => h) (by rfl) (v := ?_) ?_ (by assumption) ?_
        rotate_left 1
        · intro w' hS'; obtain ⟨⟨c0, c1, c2, c3⟩, ⟨e0, e1⟩, e2⟩ := hS'; go_simp; try with_reducible rfl
        try simp only [Act.put, List.setIfInBounds_toArray, List.set_cons_zero, List.set_cons_succ]
        refine tail_take 3 rfl (by kernel_rfl) (by kernel_rfl) (by kernel_rfl) (by kernel_rfl) (fun _ _ _ h => h) (by rfl) (v := ?_) ?_ (by assumption) ?_
        rotate_left 1
        · intro w' hS'; obtain ⟨⟨c0, c1, c2, c3⟩, ⟨e0, e1⟩, e2⟩ := hS'; go_simp; try with_reducible rfl
        try simp only [Act.put, List.setIfInBounds_toArray, List.set_cons_zero, List.set_cons_succ]
        refine tail_take 4 rfl (by kernel_rfl) (by kernel_rfl) (by kernel_rfl) (by kernel_rfl) (fun _ _ _ h => h) (by rfl) (v := ?_) ?_ (by assumption) ?_
        rotate_left 1
        · intro w' hS'; obtain ⟨⟨c0, c1, c2, c3⟩, ⟨e0, e1⟩, e2⟩ := hS'; go_simp; try with_reducible rfl
        try simp only [Act.put, List.setIfInBounds_toArray, List.set_cons_zero, List.set_cons_succ]
        refine tail_take 5 rfl (by kernel_rfl) (by kernel_rfl) (by kernel_rfl) (by kernel_rfl) (fun _ _ _ h => h) (by rfl) (v := ?_) ?_ (by assumption) ?_
        rotate_left 1
        · intro w' hS'; obtain ⟨⟨c0, c1, c2, c3⟩, ⟨e0, e1⟩, e2⟩ := hS'; go_simp; try with_reducible rfl
        try simp only [Act.put, List.setIfInBounds_toArray, List.set_cons_zero, List.set_cons_succ]
        refine tail_take 6 rfl (by kernel_rfl) (by kernel_rfl) (by kernel_rfl) (by kernel_rfl) (fun _ _ _ h => h) (by rfl) (v := ?_) ?_ (by assumption) ?_
        rotate_left 1
        · intro w' hS'; obtain ⟨⟨c0, c1, c2, c3⟩, ⟨e0, e1⟩, e2⟩ := hS'; go_simp; try with_reducible rfl
        try simp only [Act.put, List.setIfInBounds_toArray, List.set_cons_zero, List.set_cons_succ]
        refine tail_take 7 rfl (by kernel_rfl) (by kernel_rfl) (by kernel_rfl) (by kernel_rfl) (fun _ _ _ h => h) (by rfl) (v := ?_) ?_ (by assumption) ?_
        rotate_left 1
        · intro w' hS'; obtain ⟨⟨c0, c1, c2, c3⟩, ⟨e0, e1⟩, e2⟩ := hS'; go_simp; try with_reducible rfl
        try simp only [Act.put, List.setIfInBounds_toArray, List.set_cons_zero, List.set_cons_succ]
        refine tail_take 8 rfl (by kernel_rfl) (by kernel_rfl) (by kernel_rfl) (by kernel_rfl) (fun _ _ _ h => h) (by rfl) (v := ?_) ?_ (by assumption) ?_
        rotate_left 1
        · intro w' hS'; obtain ⟨⟨c0, c1, c2, c3⟩, ⟨e0, e1⟩, e2⟩ := hS'; go_simp; try with_reducible rfl
        try simp only [Act.put, List.setIfInBounds_toArray, List.set_cons_zero, List.set_cons_succ]
        refine tail_take 9 rfl (by kernel_rfl) (by kernel_rfl) (by kernel_rfl) (by kernel_rfl) (fun _ _ _ h => h) (by rfl) (v := ?_) ?_ (by assumption) ?_
        rotate_left 1
        · intro w' hS'; obtain ⟨⟨c0, c1, c2, c3⟩, ⟨e0, e1⟩, e2⟩ := hS'; go_simp; try with_reducible rfl
        try simp only [Act.put, List.setIfInBounds_toArray, List.set_cons_zero, List.set_cons_succ]
        refine tail_take 10 rfl (by kernel_rfl) (by kernel_rfl) (by kernel_rfl) (by kernel_rfl) (fun _ _ _ h => h) (by rfl) (v := ?_) ?_ (by assumption) ?_
        rotate_left 1
        · intro w' hS'; obtain ⟨⟨c0, c1, c2, c3⟩, ⟨e0, e1⟩, e2⟩ := hS'; go_simp; try with_reducible rfl
        try simp only [Act.put, List.setIfInBounds_toArray, List.set_cons_zero, List.set_cons_succ]
        refine tail_take 11 rfl (by kernel_rfl) (by kernel_rfl) (by kernel_rfl) (by kernel_rfl) (fun _ _ _ h => h) (by rfl) (v := ?_) ?_ (by assumption) ?_
        rotate_left 1
        · intro w' hS'; obtain ⟨⟨c0, c1, c2, c3⟩, ⟨e0, e1⟩, e2⟩ := hS'; go_simp; try with_reducible rfl
        try simp only [Act.put, List.setIfInBounds_toArray, List.set_cons_zero, List.set_cons_succ]
        refine tail_take 12 rfl (by kernel_rfl) (by kernel_rfl) (by kernel_rfl) (by kernel_rfl) (fun _ _ _ h => h) (by rfl) (v := ?_) ?_ (by assumption) ?_
        rotate_left 1
        · intro w' hS'; obtain ⟨⟨c0, c1, c2, c3⟩, ⟨e0, e1⟩, e2⟩ := hS'; go_simp; try with_reducible rfl
        try simp only [Act.put, List.setIfInBounds_toArray, List.set_cons_zero, List.set_cons_succ]
        refine tail_take 13 rfl (by kernel_rfl) (by kernel_rfl) (by kernel_rfl) (by kernel_rfl) (fun _ _ _ h => h) (by rfl) (v := ?_) ?_ (by assumption) ?_
        rotate_left 1
        · intro w' hS'; obtain ⟨⟨c0, c1, c2, c3⟩, ⟨e0, e1⟩, e2⟩ := hS'; go_simp; try with_reducible rfl
        try simp only [Act.put, List.setIfInBounds_toArray, List.set_cons_zero, List.set_cons_succ]
        refine tail_take 14 rfl (by kernel_rfl) (by kernel_rfl) (by kernel_rfl) (by kernel_rfl) (fun _ _ _ h => h) (by rfl) (v := ?_) ?_ (by assumption) ?_
        rotate_left 1
        · intro w' hS'; obtain ⟨⟨c0, c1, c2, c3⟩, ⟨e0, e1⟩, e2⟩ := hS'; go_simp; try with_reducible rfl
        try simp only [Act.put, List.setIfInBounds_toArray, List.set_cons_zero, List.set_cons_succ]
        refine tail_take 15 rfl (by kernel_rfl) (by kernel_rfl) (by kernel_rfl) (by kernel_rfl) (fun _ _ _ h => h) (by rfl) (v := ?_) ?_ (by assumption) ?_
        rotate_left 1
        · intro w' hS'; obtain ⟨⟨c0, c1, c2, c3⟩, ⟨e0, e1⟩, e2⟩ := hS'; go_simp; try with_reducible rfl
        try simp only [Act.put, List.setIfInBounds_toArray, List.set_cons_zero, List.set_cons_succ]
        have HBd := hide (Below.refl wq.heap.size wq).drew
        have hsd : wq.drew.heap.size = wq.heap.size := rfl
        have HSD := hide hsd
        obtain ⟨wd, hwd⟩ : ∃ q, wq.drew = q := ⟨_, rfl⟩
        rw [hwd] at hS' HBd HSD ⊢
        clear hwd hsd
        refine tail_call 16 rfl (by kernel_rfl) rfl (fun K' hK => ?_)
        go_simp
        refine hK.out _ _ (by (try dsimp only); obtain ⟨⟨q0, q1, q2, q3⟩, ⟨q4, q5⟩, q6⟩ := hS'; exact ⟨⟨cell_keep q0 _, cell_keep q1 _, cell_keep q2 _, cell_keep q3 _⟩, ⟨cell_keep q4 _, cell_keep q5 _⟩, cell_keep q6 _⟩) (fun hS' => ?_)
        clear hK K'
        try simp only [Act.put, List.setIfInBounds_toArray, List.set_cons_zero, List.set_cons_succ]
        refine tail_last 17 rfl (by kernel_rfl) (by kernel_rfl) rfl rfl (fun K' hK => ?_)
        refine wp_store_row 146 (.tmp 8) (.tmp 38) rfl wd.heap.size #[.int .i64 lx, .int .i64 cx, .int .i64 z, .int .i64 m] rfl rfl 146 _ (heap_alloc_new wd _) (by kernel_rfl) rfl (one4 _ _ _ _) ?_
        refine hK.out _ _ ?_
        clear hK K'
        try simp only [Act.put, List.setIfInBounds_toArray, List.set_cons_zero, List.set_cons_succ]
        have HF := hide (newcel_fin (l := lx) (c := cx) (s := z) (m := m) (HBd.out.alloc HBd.out.size (.cells #[.int .i64 0, .int .i64 0, .int .i64 0, .int .i64 0] 146)) (heap_alloc_new wd _) HBd.out.size)
        clear hS'
        (try go_wp2_with fail)
        go_meet
        exact HF.out
      case rest =>
        obtain ⟨bx, hbx, hbx1, hbx2, hbx3⟩ := hcut
        subst hbx
        have HRX := hide hbx2
        have HROWc := hide (HROWq.out.next hbx3)
        have HGc := hide (growBelow HGq.out hbx3)
        have HXc := hide (heap_next HXq.out hbx3)
        have hbq1 : b < wq.heap.size := HROWq.out.lt
        have hne : b ≠ bx := by omega
        clear hbx2 hbx3 HROWq HGq HXq HRq HLq
        have HEP := hide (fun (wy : World) (h0 : cput a ⟨lx, cx, z, m⟩ = ⟨lx, cx, z, m⟩) (h1 : RowQ wy b 148 401 (upd t p a)) (h2 : w.grownBy wy (some b)) (h4 : wy.heap[w.heap.size]? = some (.cells #[.int .i64 m, Mv, .slice (some ⟨gl, 0, none⟩) nl cl, .int .i64 R] 164 (0, 0))) => show ImpRel b p m R t a0 w (.int .i64 m) Mv (.slice (some ⟨gl, 0, none⟩) nl cl) (.int .i64 R) (.int .i64 ((z + 1 : Nat) : Int)) (set4 wy b p ⟨lx, cx, z, m⟩) from
          HEND2.out ⟨lx, cx, z, m⟩ _ h0 (by have h := h1.put (i := p) (by omega) ⟨lx, cx, z, m⟩; rw [upd_upd] at h; exact h) (grown_trans h2 (set4_grown _ _ _ _)) (by rw [(set4_grown wy b p ⟨lx, cx, z, m⟩).block w.heap.size (Array.getElem?_eq_some_iff.1 h4).1 (by simp; omega)]; exact h4))
        by_cases hs0 : a.s = 0
        · obtain rfl : a = zc := HAK.out.2.2.2.2.1 hs0
          have HCP := hide (show cput zc ⟨lx, cx, z, m⟩ = ⟨lx, cx, z, m⟩ by unfold cput; rw [if_pos (show zc.s = 0 from rfl)])
          clear hs0
          have hS0 : (wc.drew.cell? ⟨bx, 0, none⟩ = some (.int .i64 lx) ∧ wc.drew.cell? ⟨bx, 1, none⟩ = some (.int .i64 cx) ∧ wc.drew.cell? ⟨bx, 2, none⟩ = some (.int .i64 z) ∧ wc.drew.cell? ⟨bx, 3, none⟩ = some (.int .i64 m)) ∧ (wc.drew.cell? ⟨b, p * 4, none⟩ = some (.int .i64 0) ∧ wc.drew.cell? ⟨b, p * 4 + 1, none⟩ = some (.int .i64 0) ∧ wc.drew.cell? ⟨b, p * 4 + 2, none⟩ = some (.int .i64 0) ∧ wc.drew.cell? ⟨b, p * 4 + 3, none⟩ = some (.int .i64 0)) := ⟨row4 HRX.out, by have q := HROWc.out.drew.cells (i := p) (by omega); rw [upd_at] at q; exact q⟩
          go_wp2_with fail
          refine tail_begin (fun w' => (w'.cell? ⟨bx, 0, none⟩ = some (.int .i64 lx) ∧ w'.cell? ⟨bx, 1, none⟩ = some (.int .i64 cx) ∧ w'.cell? ⟨bx, 2, none⟩ = some (.int .i64 z) ∧ w'.cell? ⟨bx, 3, none⟩ = some (.int .i64 m)) ∧ (w'.cell? ⟨b, p * 4, none⟩ = some (.int .i64 0) ∧ w'.cell? ⟨b, p * 4 + 1, none⟩ = some (.int .i64 0) ∧ w'.cell? ⟨b, p * 4 + 2, none⟩ = some (.int .i64 0) ∧ w'.cell? ⟨b, p * 4 + 3, none⟩ = some (.int .i64 0))) 16 (by kernel_rfl) hS0 (fun hS' => ?_)
          clear hS0
          refine tail_take2 0 rfl (by kernel_rfl) (by kernel_rfl) (by kernel_rfl) (by decide) (fun _ _ _ h => h) (by rfl) (v := ?_) ?_ (by assumption) ?_
          rotate_left 1
          · intro w' hS'; obtain ⟨⟨c0, c1, c2, c3⟩, ⟨e0, e1, e2, e3⟩⟩ := hS'; go_simp; try with_reducible rfl
          try simp only [Act.put, List.setIfInBounds_toArray, List.set_cons_zero, List.set_cons_succ]
          refine tail_take2 1 rfl (by kernel_rfl) (by kernel_rfl) (by kernel_rfl) (by decide) (fun _ _ _ h => h) (by rfl) (v := ?_) ?_ (by assumption) ?_
          rotate_left 1
          · intro w' hS'; obtain ⟨⟨c0, c1, c2, c3⟩, ⟨e0, e1, e2, e3⟩⟩ := hS'; go_simp; try with_reducible rfl
          try simp only [Act.put, List.setIfInBounds_toArray, List.set_cons_zero, List.set_cons_succ]
          refine tail_take2 2 rfl (by kernel_rfl) (by kernel_rfl) (by kernel_rfl) (by decide) (fun _ _ _ h => h) (by rfl) (v := ?_) ?_ (by assumption) ?_
          rotate_left 1
          · intro w' hS'; obtain ⟨⟨c0, c1, c2, c3⟩, ⟨e0, e1, e2, e3⟩⟩ := hS'; go_simp; try with_reducible rfl
          try simp only [Act.put, List.setIfInBounds_toArray, List.set_cons_zero, List.set_cons_succ]
          refine tail_take2 3 rfl (by kernel_rfl) (by kernel_rfl) (by kernel_rfl) (by decide) (fun _ _ _ h => h) (by rfl) (v := ?_) ?_ (by assumption) ?_
          rotate_left 1
          · intro w' hS'; obtain ⟨⟨c0, c1, c2, c3⟩, ⟨e0, e1, e2, e3⟩⟩ := hS'; go_simp; try with_reducible rfl
          try simp only [Act.put, List.setIfInBounds_toArray, List.set_cons_zero, List.set_cons_succ]
          refine tail_take2 4 rfl (by kernel_rfl) (by kernel_rfl) (by kernel_rfl) (by decide) (fun _ _ _ h => h) (by rfl) (v := ?_) ?_ (by assumption) ?_
          rotate_left 1
          · intro w' hS'; obtain ⟨⟨c0, c1, c2, c3⟩, ⟨e0, e1, e2, e3⟩⟩ := hS'; go_simp; try with_reducible rfl
          try simp only [Act.put, List.setIfInBounds_toArray, List.set_cons_zero, List.set_cons_succ]
          refine tail_take2 5 rfl (by kernel_rfl) (by kernel_rfl) (by kernel_rfl) (by decide) (fun _ _ _ h => h) (by rfl) (v := ?_) ?_ (by assumption) ?_
          rotate_left 1
          · intro w' hS'; obtain ⟨⟨c0, c1, c2, c3⟩, ⟨e0, e1, e2, e3⟩⟩ := hS'; go_simp; try with_reducible rfl
          try simp only [Act.put, List.setIfInBounds_toArray, List.set_cons_zero, List.set_cons_succ]
          refine tail_take2 6 rfl (by kernel_rfl) (by kernel_rfl) (by kernel_rfl) (by decide) (fun _ _ _ h => h) (by rfl) (v := ?_) ?_ (by assumption) ?_
          rotate_left 1
          · intro w' hS'; obtain ⟨⟨c0, c1, c2, c3⟩, ⟨e0, e1, e2, e3⟩⟩ := hS'; go_simp; try with_reducible rfl
          try simp only [Act.put, List.setIfInBounds_toArray, List.set_cons_zero, List.set_cons_succ]
          refine tail_take2 7 rfl (by kernel_rfl) (by kernel_rfl) (by kernel_rfl) (by decide) (fun _ _ _ h => h) (by rfl) (v := ?_) ?_ (by assumption) ?_
          rotate_left 1
          · intro w' hS'; obtain ⟨⟨c0, c1, c2, c3⟩, ⟨e0, e1, e2, e3⟩⟩ := hS'; go_simp; try with_reducible rfl
          try simp only [Act.put, List.setIfInBounds_toArray, List.set_cons_zero, List.set_cons_succ]
          refine tail_skip 8 rfl (by kernel_rfl) (by kernel_rfl) (by kernel_rfl) (by decide) (fun _ _ _ h => h) (by rfl) (by assumption) ?_
          try simp only [Act.put, List.setIfInBounds_toArray, List.set_cons_zero, List.set_cons_succ]
          refine tail_skip 9 rfl (by kernel_rfl) (by kernel_rfl) (by kernel_rfl) (by decide) (fun _ _ _ h => h) (by rfl) (by assumption) ?_
          try simp only [Act.put, List.setIfInBounds_toArray, List.set_cons_zero, List.set_cons_succ]
          refine tail_skip 10 rfl (by kernel_rfl) (by kernel_rfl) (by kernel_rfl) (by decide) (fun _ _ _ h => h) (by rfl) (by assumption) ?_
          try simp only [Act.put, List.setIfInBounds_toArray, List.set_cons_zero, List.set_cons_succ]
          refine tail_skip 11 rfl (by kernel_rfl) (by kernel_rfl) (by kernel_rfl) (by decide) (fun _ _ _ h => h) (by rfl) (by assumption) ?_
          try simp only [Act.put, List.setIfInBounds_toArray, List.set_cons_zero, List.set_cons_succ]
          refine tail_skip 12 rfl (by kernel_rfl) (by kernel_rfl) (by kernel_rfl) (by decide) (fun _ _ _ h => h) (by rfl) (by assumption) ?_
          try simp only [Act.put, List.setIfInBounds_toArray, List.set_cons_zero, List.set_cons_succ]
          refine tail_skip 13 rfl (by kernel_rfl) (by kernel_rfl) (by kernel_rfl) (by decide) (fun _ _ _ h => h) (by rfl) (by assumption) ?_
          try simp only [Act.put, List.setIfInBounds_toArray, List.set_cons_zero, List.set_cons_succ]
          refine tail_skip 14 rfl (by kernel_rfl) (by kernel_rfl) (by kernel_rfl) (by decide) (fun _ _ _ h => h) (by rfl) (by assumption) ?_
          try simp only [Act.put, List.setIfInBounds_toArray, List.set_cons_zero, List.set_cons_succ]
          refine tail_take2 15 rfl (by kernel_rfl) (by kernel_rfl) (by kernel_rfl) (by decide) (fun _ _ _ h => h) (by rfl) (v := ?_) ?_ (by assumption) ?_
          rotate_left 1
          · intro w' hS'; obtain ⟨⟨c0, c1, c2, c3⟩, ⟨e0, e1, e2, e3⟩⟩ := hS'; go_simp; try with_reducible rfl
          try simp only [Act.put, List.setIfInBounds_toArray, List.set_cons_zero, List.set_cons_succ]
          refine tail_end (by kernel_rfl) ?_
          have HROWd := hide HROWc.out.drew
          have HGd := hide (show w.grownBy wc.drew (some b) from growBelow HGc.out (Below.refl _ _).drew)
          have HXd := hide (show wc.drew.heap[w.heap.size]? = _ from HXc.out)
          have HRXd := hide (show wc.drew.heap[bx]? = _ from HRX.out)
          obtain ⟨wy, hwy⟩ : ∃ wy, wc.drew = wy := ⟨_, rfl⟩
          rw [hwy] at HROWd HGd HXd HRXd ⊢
          clear hwy
          go_wp2_with fail
          refine tail_begin (fun w' => (w'.cell? ⟨bx, 0, none⟩ = some (.int .i64 lx) ∧ w'.cell? ⟨bx, 1, none⟩ = some (.int .i64 cx) ∧ w'.cell? ⟨bx, 2, none⟩ = some (.int .i64 z) ∧ w'.cell? ⟨bx, 3, none⟩ = some (.int .i64 m))) 6 (by kernel_rfl) (row4 HRXd.out) (fun hS' => ?_)
          have HROWe := hide HROWd.out.drew
          have HGe := hide (show w.grownBy wy.drew (some b) from growBelow HGd.out (Below.refl _ _).drew)
          have HXe := hide (show wy.drew.heap[w.heap.size]? = _ from HXd.out)
          have HRXe := hide (show wy.drew.heap[bx]? = _ from HRXd.out)
          refine tail_take2 0 rfl (by kernel_rfl) (by kernel_rfl) (by kernel_rfl) (by decide) (fun _ _ _ h => h) (by rfl) (v := ?_) ?_ (by assumption) ?_
          rotate_left 1
          · intro w' hS'; obtain ⟨c0, c1, c2, c3⟩ := hS'; go_simp; try with_reducible rfl
          try simp only [Act.put, List.setIfInBounds_toArray, List.set_cons_zero, List.set_cons_succ]
          refine tail_take2 1 rfl (by kernel_rfl) (by kernel_rfl) (by kernel_rfl) (by decide) (fun _ _ _ h => h) (by rfl) (v := ?_) ?_ (by assumption) ?_
          rotate_left 1
          · intro w' hS'; obtain ⟨c0, c1, c2, c3⟩ := hS'; go_simp; try with_reducible rfl
          try simp only [Act.put, List.setIfInBounds_toArray, List.set_cons_zero, List.set_cons_succ]
          refine tail_take2 2 rfl (by kernel_rfl) (by kernel_rfl) (by kernel_rfl) (by decide) (fun _ _ _ h => h) (by rfl) (v := ?_) ?_ (by assumption) ?_
          rotate_left 1
          · intro w' hS'; obtain ⟨c0, c1, c2, c3⟩ := hS'; go_simp; try with_reducible rfl
          try simp only [Act.put, List.setIfInBounds_toArray, List.set_cons_zero, List.set_cons_succ]
          refine tail_take2 3 rfl (by kernel_rfl) (by kernel_rfl) (by kernel_rfl) (by decide) (fun _ _ _ h => h) (by rfl) (v := ?_) ?_ (by assumption) ?_
          rotate_left 1
          · intro w' hS'; obtain ⟨c0, c1, c2, c3⟩ := hS'; go_simp; try with_reducible rfl
          try simp only [Act.put, List.setIfInBounds_toArray, List.set_cons_zero, List.set_cons_succ]
          refine tail_take2 4 rfl (by kernel_rfl) (by kernel_rfl) (by kernel_rfl) (by decide) (fun _ _ _ h => h) (by rfl) (v := ?_) ?_ (by assumption) ?_
          rotate_left 1
          · intro w' hS'; obtain ⟨c0, c1, c2, c3⟩ := hS'; go_simp; try with_reducible rfl
          try simp only [Act.put, List.setIfInBounds_toArray, List.set_cons_zero, List.set_cons_succ]
          obtain ⟨wz, hwz⟩ : ∃ wz, wy.drew = wz := ⟨_, rfl⟩
          rw [hwz] at HROWe HGe HXe HRXe hS' ⊢
          clear hwz
          obtain ⟨a0', a1', a2', a3'⟩ := HROWe.out.cells (i := p) (by omega)
          have f0 := HROWe.out.frozen (p * 4)
          have f1 := HROWe.out.frozen (p * 4 + 1)
          have f2 := HROWe.out.frozen (p * 4 + 2)
          have f3 := HROWe.out.frozen (p * 4 + 3)
          have HEPd := hide (HEP.out wz HCP.out HROWe.out HGe.out HXe.out)
          have HRXs := hide (show (set4 wz b p ⟨lx, cx, z, m⟩).heap[bx]? = some (.cells #[.int .i64 lx, .int .i64 cx, .int .i64 z, .int .i64 m] 146 (0, 0)) by rw [(set4_grown wz b p ⟨lx, cx, z, m⟩).block bx (Array.getElem?_eq_some_iff.1 HRXe.out).1 (by simp; omega)]; exact HRXe.out)
          refine tail_call 5 rfl (by kernel_rfl) rfl (fun K' hK => ?_)
          go_simp
          refine hK.out _ _ (by (try dsimp only); exact row4 HRXs.out) (fun hS' => ?_)
          clear hK K'
          try simp only [Act.put, List.setIfInBounds_toArray, List.set_cons_zero, List.set_cons_succ]
          refine tail_end (by kernel_rfl) ?_
          clear a0' a1' a2' a3' f0 f1 f2 f3
          go_wp2_with fail
          go_roundw
          case rel => exact HEPd.out
          case measure => simp [intOf]; omega
        · have HCP0 := hide (show cput a ⟨lx, cx, z, m⟩ = if btr ⟨lx, cx, z, m⟩ a then ⟨lx, cx, z, m⟩ else a by unfold cput; rw [if_neg hs0])
          obtain ⟨qal, qac, qas, qam⟩ := a
          have hs0' : qas ≠ 0 := hs0
          have e3 : ((qas : Int) == 0) = false := by simpa using hs0'
          have HSn := hide (fun (wy : World) (h : Below wc.heap.size wc wy) => show (wy.cell? ⟨bx, 0, none⟩ = some (.int .i64 lx) ∧ wy.cell? ⟨bx, 1, none⟩ = some (.int .i64 cx) ∧ wy.cell? ⟨bx, 2, none⟩ = some (.int .i64 z) ∧ wy.cell? ⟨bx, 3, none⟩ = some (.int .i64 m)) ∧ (wy.cell? ⟨b, p * 4, none⟩ = some (.int .i64 qal) ∧ wy.cell? ⟨b, p * 4 + 1, none⟩ = some (.int .i64 qac) ∧ wy.cell? ⟨b, p * 4 + 2, none⟩ = some (.int .i64 qas) ∧ wy.cell? ⟨b, p * 4 + 3, none⟩ = some (.int .i64 qam)) from ⟨row4 (heap_next HRX.out h), by have q := (HROWc.out.next h).cells (i := p) (by omega); rw [upd_at] at q; exact q⟩)
          have HD := hide ((Below.refl wc.heap.size wc).drew)
          clear hs0
          go_wp2_with fail
          refine tail_begin (fun w' => (w'.cell? ⟨bx, 0, none⟩ = some (.int .i64 lx) ∧ w'.cell? ⟨bx, 1, none⟩ = some (.int .i64 cx) ∧ w'.cell? ⟨bx, 2, none⟩ = some (.int .i64 z) ∧ w'.cell? ⟨bx, 3, none⟩ = some (.int .i64 m)) ∧ (w'.cell? ⟨b, p * 4, none⟩ = some (.int .i64 qal) ∧ w'.cell? ⟨b, p * 4 + 1, none⟩ = some (.int .i64 qac) ∧ w'.cell? ⟨b, p * 4 + 2, none⟩ = some (.int .i64 qas) ∧ w'.cell? ⟨b, p * 4 + 3, none⟩ = some (.int .i64 qam))) 16 (by kernel_rfl) (HSn.out _ HD.out) (fun hS' => ?_)
          refine tail_take2 0 rfl (by kernel_rfl) (by kernel_rfl) (by kernel_rfl) (by decide) (fun _ _ _ h => h) (by rfl) (v := ?_) ?_ (by assumption) ?_
          rotate_left 1
          · intro w' hS'; obtain ⟨⟨c0, c1, c2, c3⟩, ⟨e0, e1, e2, e3⟩⟩ := hS'; go_simp; try with_reducible rfl
          try simp only [Act.put, List.setIfInBounds_toArray, List.set_cons_zero, List.set_cons_succ]
          refine tail_take2 1 rfl (by kernel_rfl) (by kernel_rfl) (by kernel_rfl) (by decide) (fun _ _ _ h => h) (by rfl) (v := ?_) ?_ (by assumption) ?_
          rotate_left 1
          · intro w' hS'; obtain ⟨⟨c0, c1, c2, c3⟩, ⟨e0, e1, e2, e3⟩⟩ := hS'; go_simp; try with_reducible rfl
          try simp only [Act.put, List.setIfInBounds_toArray, List.set_cons_zero, List.set_cons_succ]
          refine tail_take2 2 rfl (by kernel_rfl) (by kernel_rfl) (by kernel_rfl) (by decide) (fun _ _ _ h => h) (by rfl) (v := ?_) ?_ (by assumption) ?_
          rotate_left 1
          · intro w' hS'; obtain ⟨⟨c0, c1, c2, c3⟩, ⟨e0, e1, e2, e3⟩⟩ := hS'; go_simp; try with_reducible rfl
          try simp only [Act.put, List.setIfInBounds_toArray, List.set_cons_zero, List.set_cons_succ]
          refine tail_take2 3 rfl (by kernel_rfl) (by kernel_rfl) (by kernel_rfl) (by decide) (fun _ _ _ h => h) (by rfl) (v := ?_) ?_ (by assumption) ?_
          rotate_left 1
          · intro w' hS'; obtain ⟨⟨c0, c1, c2, c3⟩, ⟨e0, e1, e2, e3⟩⟩ := hS'; go_simp; try with_reducible rfl
          try simp only [Act.put, List.setIfInBounds_toArray, List.set_cons_zero, List.set_cons_succ]
          refine tail_take2 4 rfl (by kernel_rfl) (by kernel_rfl) (by kernel_rfl) (by decide) (fun _ _ _ h => h) (by rfl) (v := ?_) ?_ (by assumption) ?_
          rotate_left 1
          · intro w' hS'; obtain ⟨⟨c0, c1, c2, c3⟩, ⟨e0, e1, e2, e3⟩⟩ := hS'; go_simp; try with_reducible rfl
          try simp only [Act.put, List.setIfInBounds_toArray, List.set_cons_zero, List.set_cons_succ]
          refine tail_take2 5 rfl (by kernel_rfl) (by kernel_rfl) (by kernel_rfl) (by decide) (fun _ _ _ h => h) (by rfl) (v := ?_) ?_ (by assumption) ?_
          rotate_left 1
          · intro w' hS'; obtain ⟨⟨c0, c1, c2, c3⟩, ⟨e0, e1, e2, e3⟩⟩ := hS'; go_simp; try with_reducible rfl
          try simp only [Act.put, List.setIfInBounds_toArray, List.set_cons_zero, List.set_cons_succ]
          refine tail_take2 6 rfl (by kernel_rfl) (by kernel_rfl) (by kernel_rfl) (by decide) (fun _ _ _ h => h) (by rfl) (v := .bool false) ?_ (by assumption) ?_
          skip
          · intro w' hS'; skip; by_cases h1 : qal = 0 <;> by_cases h2 : qac = 0 <;> (try subst h1) <;> (try subst h2) <;> go_simp
          try simp only [Act.put, List.setIfInBounds_toArray, List.set_cons_zero, List.set_cons_succ]
          refine tail_take2 7 rfl (by kernel_rfl) (by kernel_rfl) (by kernel_rfl) (by decide) (fun _ _ _ h => h) (by rfl) (v := ?_) ?_ (by assumption) ?_
          rotate_left 1
          · intro w' hS'; obtain ⟨⟨c0, c1, c2, c3⟩, ⟨e0, e1, e2, e3⟩⟩ := hS'; go_simp; try with_reducible rfl
          try simp only [Act.put, List.setIfInBounds_toArray, List.set_cons_zero, List.set_cons_succ]
          refine tail_take2 8 rfl (by kernel_rfl) (by kernel_rfl) (by kernel_rfl) (by decide) (fun _ _ _ h => h) (by rfl) (v := ?_) ?_ (by assumption) ?_
          rotate_left 1
          · intro w' hS'; obtain ⟨⟨c0, c1, c2, c3⟩, ⟨e0, e1, e2, e3⟩⟩ := hS'; go_simp; try with_reducible rfl
          try simp only [Act.put, List.setIfInBounds_toArray, List.set_cons_zero, List.set_cons_succ]
          refine tail_take2 9 rfl (by kernel_rfl) (by kernel_rfl) (by kernel_rfl) (by decide) (fun _ _ _ h => h) (by rfl) (v := ?_) ?_ (by assumption) ?_
          rotate_left 1
          · intro w' hS'; obtain ⟨⟨c0, c1, c2, c3⟩, ⟨e0, e1, e2, e3⟩⟩ := hS'; go_simp; try with_reducible rfl
          try simp only [Act.put, List.setIfInBounds_toArray, List.set_cons_zero, List.set_cons_succ]
          refine tail_take2 10 rfl (by kernel_rfl) (by kernel_rfl) (by kernel_rfl) (by decide) (fun _ _ _ h => h) (by rfl) (v := ?_) ?_ (by assumption) ?_
          rotate_left 1
          · intro w' hS'; obtain ⟨⟨c0, c1, c2, c3⟩, ⟨e0, e1, e2, e3⟩⟩ := hS'; go_simp; try with_reducible rfl
          try simp only [Act.put, List.setIfInBounds_toArray, List.set_cons_zero, List.set_cons_succ]
          refine tail_take2 11 rfl (by kernel_rfl) (by kernel_rfl) (by kernel_rfl) (by decide) (fun _ _ _ h => h) (by rfl) (v := ?_) ?_ (by assumption) ?_
          rotate_left 1
          · intro w' hS'; obtain ⟨⟨c0, c1, c2, c3⟩, ⟨e0, e1, e2, e3⟩⟩ := hS'; go_simp; try with_reducible rfl
          try simp only [Act.put, List.setIfInBounds_toArray, List.set_cons_zero, List.set_cons_succ]
          refine tail_take2 12 rfl (by kernel_rfl) (by kernel_rfl) (by kernel_rfl) (by decide) (fun _ _ _ h => h) (by rfl) (v := ?_) ?_ (by assumption) ?_
          rotate_left 1
          · intro w' hS'; obtain ⟨⟨c0, c1, c2, c3⟩, ⟨e0, e1, e2, e3⟩⟩ := hS'; go_simp; try with_reducible rfl
          try simp only [Act.put, List.setIfInBounds_toArray, List.set_cons_zero, List.set_cons_succ]
          refine tail_take2 13 rfl (by kernel_rfl) (by kernel_rfl) (by kernel_rfl) (by decide) (fun _ _ _ h => h) (by rfl) (v := ?_) ?_ (by assumption) ?_
          rotate_left 1
          · intro w' hS'; obtain ⟨⟨c0, c1, c2, c3⟩, ⟨e0, e1, e2, e3⟩⟩ := hS'; go_simp; try with_reducible rfl
          try simp only [Act.put, List.setIfInBounds_toArray, List.set_cons_zero, List.set_cons_succ]
          refine tail_callG 14 rfl (by kernel_rfl) (by rfl) (fun K hK => ?_)
          go_simp
          (go_at_call 128; refine (implBetter ⟨lx, cx, z, m⟩ ⟨qal, qac, qas, qam⟩ _).mono ?_; rintro e w2 ⟨rfl, hb2⟩; have HD2 := hide (HD.out.trans (hb2.mono HD.out.size)); clear hb2)
          refine hK.out _ _ (by (try dsimp only); exact HSn.out _ HD2.out) (fun hS' => ?_)
          clear hK K
          try simp only [Act.put, List.setIfInBounds_toArray, List.set_cons_zero, List.set_cons_succ]
          refine tail_take2 15 rfl (by kernel_rfl) (by kernel_rfl) (by kernel_rfl) (by decide) (fun _ _ _ h => h) (by rfl) (v := ?_) ?_ (by assumption) ?_
          rotate_left 1
          · intro w' hS'; obtain ⟨⟨c0, c1, c2, c3⟩, ⟨e0, e1, e2, e3⟩⟩ := hS'; go_simp; try with_reducible rfl
          try simp only [Act.put, List.setIfInBounds_toArray, List.set_cons_zero, List.set_cons_succ]
          refine tail_end (by kernel_rfl) ?_
          have HROWd := hide (HROWc.out.next HD2.out)
          have HGd := hide (growBelow HGc.out HD2.out)
          have HXd := hide (heap_next HXc.out HD2.out)
          have HRXd := hide (heap_next HRX.out HD2.out)
          obtain ⟨wy, rfl⟩ : ∃ wy, wy = w2 := ⟨_, rfl⟩
          by_cases hbt : btr ⟨lx, cx, z, m⟩ ⟨qal, qac, qas, qam⟩ = true
          · have HCP := hide (HCP0.out.trans (if_pos hbt))
            rw [hbt]
            clear hbt e3
            go_wp2_with fail
            refine tail_begin (fun w' => (w'.cell? ⟨bx, 0, none⟩ = some (.int .i64 lx) ∧ w'.cell? ⟨bx, 1, none⟩ = some (.int .i64 cx) ∧ w'.cell? ⟨bx, 2, none⟩ = some (.int .i64 z) ∧ w'.cell? ⟨bx, 3, none⟩ = some (.int .i64 m))) 6 (by kernel_rfl) (row4 HRXd.out) (fun hS' => ?_)
            have HROWe := hide HROWd.out.drew
            have HGe := hide (show w.grownBy wy.drew (some b) from growBelow HGd.out (Below.refl _ _).drew)
            have HXe := hide (show wy.drew.heap[w.heap.size]? = _ from HXd.out)
            have HRXe := hide (show wy.drew.heap[bx]? = _ from HRXd.out)
            refine tail_take2 0 rfl (by kernel_rfl) (by kernel_rfl) (by kernel_rfl) (by decide) (fun _ _ _ h => h) (by rfl) (v := ?_) ?_ (by assumption) ?_
            rotate_left 1
            · intro w' hS'; obtain ⟨c0, c1, c2, c3⟩ := hS'; go_simp; try with_reducible rfl
            try simp only [Act.put, List.setIfInBounds_toArray, List.set_cons_zero, List.set_cons_succ]
            refine tail_take2 1 rfl (by kernel_rfl) (by kernel_rfl) (by kernel_rfl) (by decide) (fun _ _ _ h => h) (by rfl) (v := ?_) ?_ (by assumption) ?_
            rotate_left 1
            · intro w' hS'; obtain ⟨c0, c1, c2, c3⟩ := hS'; go_simp; try with_reducible rfl
            try simp only [Act.put, List.setIfInBounds_toArray, List.set_cons_zero, List.set_cons_succ]
            refine tail_take2 2 rfl (by kernel_rfl) (by kernel_rfl) (by kernel_rfl) (by decide) (fun _ _ _ h => h) (by rfl) (v := ?_) ?_ (by assumption) ?_
            rotate_left 1
            · intro w' hS'; obtain ⟨c0, c1, c2, c3⟩ := hS'; go_simp; try with_reducible rfl
            try simp only [Act.put, List.setIfInBounds_toArray, List.set_cons_zero, List.set_cons_succ]
            refine tail_take2 3 rfl (by kernel_rfl) (by kernel_rfl) (by kernel_rfl) (by decide) (fun _ _ _ h => h) (by rfl) (v := ?_) ?_ (by assumption) ?_
            rotate_left 1
            · intro w' hS'; obtain ⟨c0, c1, c2, c3⟩ := hS'; go_simp; try with_reducible rfl
            try simp only [Act.put, List.setIfInBounds_toArray, List.set_cons_zero, List.set_cons_succ]
            refine tail_take2 4 rfl (by kernel_rfl) (by kernel_rfl) (by kernel_rfl) (by decide) (fun _ _ _ h => h) (by rfl) (v := ?_) ?_ (by assumption) ?_
            rotate_left 1
            · intro w' hS'; obtain ⟨c0, c1, c2, c3⟩ := hS'; go_simp; try with_reducible rfl
            try simp only [Act.put, List.setIfInBounds_toArray, List.set_cons_zero, List.set_cons_succ]
            obtain ⟨wz, hwz⟩ : ∃ wz, wy.drew = wz := ⟨_, rfl⟩
            rw [hwz] at HROWe HGe HXe HRXe hS' ⊢
            clear hwz
            obtain ⟨a0', a1', a2', a3'⟩ := HROWe.out.cells (i := p) (by omega)
            have f0 := HROWe.out.frozen (p * 4)
            have f1 := HROWe.out.frozen (p * 4 + 1)
            have f2 := HROWe.out.frozen (p * 4 + 2)
            have f3 := HROWe.out.frozen (p * 4 + 3)
            have HEPd := hide (HEP.out wz HCP.out HROWe.out HGe.out HXe.out)
            have HRXs := hide (show (set4 wz b p ⟨lx, cx, z, m⟩).heap[bx]? = some (.cells #[.int .i64 lx, .int .i64 cx, .int .i64 z, .int .i64 m] 146 (0, 0)) by rw [(set4_grown wz b p ⟨lx, cx, z, m⟩).block bx (Array.getElem?_eq_some_iff.1 HRXe.out).1 (by simp; omega)]; exact HRXe.out)
            refine tail_call 5 rfl (by kernel_rfl) rfl (fun K' hK => ?_)
            go_simp
            refine hK.out _ _ (by (try dsimp only); exact row4 HRXs.out) (fun hS' => ?_)
            clear hK K'
            try simp only [Act.put, List.setIfInBounds_toArray, List.set_cons_zero, List.set_cons_succ]
            refine tail_end (by kernel_rfl) ?_
            clear a0' a1' a2' a3' f0 f1 f2 f3
            go_wp2_with fail
            go_roundw
            case rel => exact HEPd.out
            case measure => simp [intOf]; omega
          · have hbf : btr ⟨lx, cx, z, m⟩ ⟨qal, qac, qas, qam⟩ = false := by simpa using hbt
            have HE2 := hide (HEND2.out ⟨qal, qac, qas, qam⟩ wy (HCP0.out.trans (if_neg hbt)) HROWd.out HGd.out HXd.out)
            rw [hbf]
            clear hbt hbf e3
            go_wp2_with fail
            go_roundw
            case rel => exact HE2.out
            case measure => simp [intOf]; omega
    · have HKE := hide (show k = R by have := HKZ.out; omega)
      have hlast' : ¬ (z : Int) ≤ (R : Int) := by omega
      have HF := hide (show ImpPost b p m R t a0 w (.returned (.tuple #[])) wr from ⟨rfl, by have h := HROW.out; rw [← HA.out, HKE.out] at h; exact h, HG.out⟩)
      clear hlast
      go_wp2_with fail
      first | (refine bodyPost_ret (results_none rfl _ _ _) rfl ?_) | go_end0
      exact HF.out
end Go.Proofs.Ythbmfaogjaahoaa

namespace Go.Proofs.Ythbmfaogjaahoaa
open Go Go.RowKit
set_option linter.unusedSimpArgs false
set_option linter.unusedVariables false

/-- A slice of n reaches whose cells are f 0, f 1, ..: it is owned. -/
def OwnQ (w : World) (base : Nat) (v : Value) (n : Nat) (f : Nat → Value) : Prop := w.ownsRow base 164 4 v n ((List.range (n * 4)).map f)
section
variable {w w' : World} {base n : Nat} {v : Value} {f : Nat → Value}
theorem OwnQ.next (h : OwnQ w base v n f) (hb : Below w.heap.size w w') : OwnQ w' base v n f := by
  refine World.ownsRow.kept h (row := none) ⟨hb.os, hb.tape, hb.output, hb.size, fun i hi _ => hb.block i hi⟩ ?_
  rcases v.ownBlock with _ | g <;> simp
theorem OwnQ.grown {row : Option Nat} (h : OwnQ w base v n f) (hg : w.grownBy w' row) (hne : v.ownBlock = none ∨ v.ownBlock ≠ row) : OwnQ w' base v n f := World.ownsRow.kept h hg hne
theorem OwnQ.congr {f' : Nat → Value} (h : OwnQ w base v n f) (he : ∀ i, i < n * 4 → f' i = f i) : OwnQ w base v n f' := by
  unfold OwnQ
  rw [show ((List.range (n * 4)).map f') = ((List.range (n * 4)).map f) from List.map_congr_left fun i hi => he i (List.mem_range.1 hi)]
  exact h
theorem OwnQ.nil (w : World) (base : Nat) (f : Nat → Value) : OwnQ w base (.slice none 0 0) 0 f := World.ownsRow_nil _ _ _ _
theorem OwnQ.form (h : OwnQ w base v n f) (hn : 0 < n) : ∃ g c cur, v = .slice (some ⟨g, 0, none⟩) n c ∧ base ≤ g ∧ w.heap[g]? = some (.cells cur 164 (0, 0)) ∧ n ≤ c := by
  rcases h.2 with ⟨_, h0⟩ | ⟨g, cap, cur, hv, hb, hg, hnc, _⟩
  · omega
  · exact ⟨g, cap, cur, hv, hb, hg, hnc⟩
theorem OwnQ.cell {g c i : Nat} (h : OwnQ w base (.slice (some ⟨g, 0, none⟩) n c) n f) (hi : i < n * 4) : w.cell? ⟨g, i, none⟩ = some (f i) := by
  rw [World.ownsRow.cellAt h i hi, List.getElem?_map, List.getElem?_range hi]; rfl
theorem OwnQ.frozen {g c : Nat} (h : OwnQ w base (.slice (some ⟨g, 0, none⟩) n c) n f) (i : Nat) : w.frozen? ⟨g, i, none⟩ = false := World.ownsRow.frozenAt h i
theorem OwnQ.put {g c : Nat} (h : OwnQ w base (.slice (some ⟨g, 0, none⟩) n c) n f) (i : Nat) (x : Value) :
    OwnQ (w.setCell ⟨g, i, none⟩ x) base (.slice (some ⟨g, 0, none⟩) n c) n (fun j => if j = i then x else f j) ∧ w.grownBy (w.setCell ⟨g, i, none⟩ x) (some g) := by
  obtain ⟨h1, h2⟩ := World.ownsRow.stored h i x
  refine ⟨?_, h2⟩
  unfold OwnQ
  rw [show ((List.range (n * 4)).map fun j => if j = i then x else f j) = ((List.range (n * 4)).map f).set i x from ?_]
  · exact h1
  · apply List.ext_getElem?
    intro j
    by_cases hj : j < n * 4
    · by_cases hji : j = i
      · subst hji
        rw [List.getElem?_set_self (by simpa using hj), List.getElem?_map, List.getElem?_range hj]
        simp
      · rw [List.getElem?_set_ne (Ne.symm hji), List.getElem?_map, List.getElem?_map, List.getElem?_range hj]
        simp [hji]
    · rw [List.getElem?_eq_none (by simp; omega), List.getElem?_eq_none (by simp; omega)]
/-- An owned row of integers lies in another block. -/
theorem OwnQ.apart {k : IntKind} {base' : Nat} {u : Value} {zs : List Int} (h : OwnQ w base v n f) (h' : Go.Proofs.Ythbmfaogjaahoaa.Own w base' 2 k u zs) : (v.ownBlock = none ∨ v.ownBlock ≠ u.ownBlock) ∧ (u.ownBlock = none ∨ u.ownBlock ≠ v.ownBlock) := by
  rcases h.2 with ⟨rfl, _⟩ | ⟨g, cap, cur, rfl, _, hg, _⟩
  · refine ⟨.inl rfl, ?_⟩
    rcases hu : u.ownBlock with _ | q
    · exact .inl rfl
    · exact .inr (by simp [Value.ownBlock])
  · rcases h'.2 with ⟨rfl, _⟩ | ⟨g', cap', cur', rfl, _, hg', _⟩
    · exact ⟨.inr (by simp [Value.ownBlock]), .inl rfl⟩
    · have hne : g ≠ g' := by
        intro e; subst e; rw [hg] at hg'; cases hg'
      exact ⟨.inr (by simpa [Value.ownBlock] using hne), .inr (by simpa [Value.ownBlock] using hne.symm)⟩
end
theorem elemR : (Try.prog.info? 164).map (fun i => (i.zero, i.size, i.bytes)) = some (some (.agg #[.int .i64 0, .nilIface, .slice none 0 0, .int .i64 0]), 4, 56) := by kernel_rfl
/-- append(reaches, r). -/
theorem wpList_appReach {base : Nat} {v : Value} {n : Nat} {f : Nat → Value} (w : World) {ops : Array Oper} {rest : List Oper} {o : Oper} {a : Act} {Q : Exit → Act → World → Prop} (hgd : o.guard = none) (s x : Operand)
    (ho : o.op = .call { callee := .builtin .append, args := #[s, x], argTypes := #[161, 161] })
    (hs : a.eval s = v) (h : OwnQ w base v n f) (x0 x1 x2 x3 : Value) (h1 : ∀ u ∈ [x0, x1, x2, x3], u.oneCell' = true) (hf : f (n * 4) = x0 ∧ f (n * 4 + 1) = x1 ∧ f (n * 4 + 2) = x2 ∧ f (n * 4 + 3) = x3)
    (hx : a.eval x = .slice (some ⟨w.heap.size, 0, none⟩) 1 1) (hlen : n ≤ 10000) (hbase : base ≤ w.heap.size)
    (hk : ∀ v' w', OwnQ w' base v' (n + 1) f → w.grownBy w' v.ownBlock → wpList Try.prog ops Q rest (a.put o.dst v') w') :
    wpList Try.prog ops Q (o :: rest) a (w.alloc (.cells #[x0, x1, x2, x3] 164)) := by
  obtain ⟨i, hi, hz0, hz1, hz2⟩ := info_parts elemR
  refine wpList_append_own (w := w.alloc (.cells #[x0, x1, x2, x3] 164)) hgd s x 161 ho base 164 i _ 4 56 Try.underlying161 hi hz0 hz1 hz2 rfl (by decide) v n _ hs (World.ownsRow.alloc h _) ⟨w.heap.size, 0, none⟩ 1 1 [x0, x1, x2, x3] hx rfl
    (World.news_of_block (heap_alloc_new w (.cells #[x0, x1, x2, x3] 164))) h1 (by simp only [maxLen]; omega) (by omega) (by rw [alloc_size]; omega) fun v' w' h2 h3 _ => ?_
  refine hk v' w' ?_ (grown_trans (World.grownBy_alloc w _ _) h3)
  unfold OwnQ
  obtain ⟨f0, f1, f2, f3⟩ := hf
  rw [show (n + 1) * 4 = n * 4 + 4 by omega, show (List.range (n * 4 + 4)) = List.range (n * 4) ++ [n * 4, n * 4 + 1, n * 4 + 2, n * 4 + 3] by simp [List.range_succ], List.map_append]
  simp only [List.map_cons, List.map_nil, f0, f1, f2, f3]
  exact h2
/-- The cells of the reaches: mode, characters, lengths, size. -/
def rcv (gs : Nat → Nat) (nl : Nat) (sz : Nat → Nat) (i : Nat) : Value :=
  if i % 4 = 0 then .int .i64 ((i / 4 + 1 : Nat) : Int) else if i % 4 = 1 then MV ((i / 4 + 1 : Nat) : Int) else if i % 4 = 2 then .slice (some ⟨gs (i / 4), 0, none⟩) nl nl else .int .i64 (sz (i / 4) : Nat)
theorem rcv_at (gs : Nat → Nat) (nl : Nat) (sz : Nat → Nat) (j : Nat) : rcv gs nl sz (j * 4) = .int .i64 ((j + 1 : Nat) : Int) ∧ rcv gs nl sz (j * 4 + 1) = MV ((j + 1 : Nat) : Int) ∧ rcv gs nl sz (j * 4 + 2) = .slice (some ⟨gs j, 0, none⟩) nl nl ∧ rcv gs nl sz (j * 4 + 3) = .int .i64 (sz j : Nat) := by
  refine ⟨?_, ?_, ?_, ?_⟩
  · unfold rcv; rw [if_pos (by omega), show j * 4 / 4 = j by omega]
  · unfold rcv; rw [if_neg (by omega), if_pos (by omega), show (j * 4 + 1) / 4 = j by omega]
  · unfold rcv; rw [if_neg (by omega), if_neg (by omega), if_pos (by omega), show (j * 4 + 2) / 4 = j by omega]
  · unfold rcv; rw [if_neg (by omega), if_neg (by omega), if_neg (by omega), show (j * 4 + 3) / 4 = j by omega]
theorem rcv_gs {gs gs' : Nat → Nat} {nl : Nat} {sz : Nat → Nat} {n i : Nat} (h : ∀ j, j < n → gs' j = gs j) (hi : i < n * 4) : rcv gs' nl sz i = rcv gs nl sz i := by
  unfold rcv; rw [h (i / 4) (by omega)]
theorem rcv_sz (gs : Nat → Nat) (nl : Nat) (sz : Nat → Nat) (q x : Nat) : (fun j => if j = q * 4 + 3 then Value.int .i64 (x : Int) else rcv gs nl sz j) = rcv gs nl (fun j => if j = q then x else sz j) := by
  funext j
  by_cases e : j = q * 4 + 3
  · subst e; rw [if_pos rfl, (rcv_at gs nl _ q).2.2.2, if_pos rfl]
  · rw [if_neg e]
    unfold rcv
    by_cases h3 : j % 4 = 3
    · rw [if_neg (by omega), if_neg (by omega), if_neg (by omega), if_neg (by omega), if_neg (by omega), if_neg (by omega)]
      show _ = Value.int .i64 ((if j / 4 = q then x else sz (j / 4) : Nat) : Int)
      rw [if_neg (show ¬ j / 4 = q by omega)]
    · rcases (show j % 4 = 0 ∨ j % 4 = 1 ∨ j % 4 = 2 by omega) with h | h | h
      · rw [if_pos h, if_pos h]
      · rw [if_neg (by omega), if_pos h, if_neg (by omega), if_pos h]
      · rw [if_neg (by omega), if_neg (by omega), if_pos h, if_neg (by omega), if_neg (by omega), if_pos h]
theorem MV_iface (m : Int) : ∃ ty dv, MV m = .iface ty dv := by unfold MV; split <;> exact ⟨_, _, rfl⟩
theorem MV_one (m : Int) : (MV m).oneCell' = true := by unfold MV; split <;> rfl
def lenL (m nl : Nat) : List Int := (List.range nl).map fun k => ((slen (m : Int) k : Nat) : Int)
theorem lenL_len (m nl : Nat) : (lenL m nl).length = nl := by simp [lenL]
theorem lenL_at {m nl k : Nat} (h : k < nl) : (lenL m nl)[k]? = some ((slen (m : Int) k : Nat) : Int) := by simp [lenL, h]
theorem index_modes (q : Nat) (hq : q < 4) (w : World) : (Instr.index 182 (.agg #[.int .i64 1, .int .i64 2, .int .i64 3, .int .i64 4]) (.int .i64 (q : Int))).run Try.prog w = .ok (.int .i64 ((q + 1 : Nat) : Int)) w := by
  rcases (show q = 0 ∨ q = 1 ∨ q = 2 ∨ q = 3 by omega) with rfl | rfl | rfl | rfl <;> kernel_rfl

/-- What reachesUpTo leaves. -/
def ReachPost (nl : Nat) (w : World) (e : Ending) (w' : World) : Prop :=
  ∃ (v : Value) (gs : Nat → Nat), e = .returned v ∧ OwnQ w' w.heap.size v 4 (rcv gs nl (fun _ => 0)) ∧ (∀ j, j < 4 → Go.Proofs.Ythbmfaogjaahoaa.Own w' w.heap.size 2 .i64 (.slice (some ⟨gs j, 0, none⟩) nl nl) (lenL (j + 1) nl)) ∧ Below w.heap.size w w'
def RuRel (w : World) (nl : Nat) (v i : Value) (wr : World) : Prop :=
  ∃ (q : Nat) (gs : Nat → Nat), q ≤ 4 ∧ i = .int .i64 q ∧ OwnQ wr w.heap.size v q (rcv gs nl (fun _ => 0)) ∧ (∀ j, j < q → Go.Proofs.Ythbmfaogjaahoaa.Own wr w.heap.size 2 .i64 (.slice (some ⟨gs j, 0, none⟩) nl nl) (lenL (j + 1) nl)) ∧ Below w.heap.size w wr
def RiRel (wx : World) (gl nl m : Nat) (i : Value) (wr : World) : Prop :=
  ∃ k : Nat, k ≤ nl ∧ i = .int .i64 k ∧ Go.Proofs.Ythbmfaogjaahoaa.Own wr gl 2 .i64 (.slice (some ⟨gl, 0, none⟩) nl nl) ((lenL m nl).take k ++ List.replicate (nl - k) 0) ∧ wx.grownBy wr (some gl)

set_option maxRecDepth 100000 in
set_option maxHeartbeats 4000000 in
theorem implReaches (L nl : Nat) (hL : L ≤ 255) (hnl : L + 1 = nl) (w : World) :
    Calls Try.prog 119 #[.int .i64 L] w (ReachPost nl w) := by
  have HNL := hide hnl
  have hnl2 : nl ≤ 256 := by omega
  have hnlI : (L : Int) + 1 = (nl : Int) := by omega
  have HQ0 := hide (OwnQ.nil w w.heap.size (rcv (fun _ => 0) nl (fun _ => 0)))
  clear hnl
  go_enter Try.func119, Try.ntmps119
  go_wp2_with fail
  go_loopw [3, 9] (fun v i wr => RuRel w nl v i wr) (fun _ i _ => 4 - (intOf i).toNat)
  case atStart => exact ⟨0, fun _ => 0, by omega, rfl, HQ0.out, fun j hj => absurd hj (by omega), Below.refl _ _⟩
  case round =>
    clear HQ0
    obtain ⟨q, gs, hq4, rfl, hov, hol, hb⟩ := hrel
    have HOV := hide hov
    have HOL := hide hol
    have HB := hide hb
    clear hov hol hb
    obtain ⟨v, rfl⟩ : ∃ v : Value, v = u3 := ⟨_, rfl⟩
    by_cases hlt : q < 4
    · have hix := index_modes q hlt
      obtain ⟨mq, hmq⟩ : ∃ mq, q + 1 = mq := ⟨_, rfl⟩
      rw [hmq] at hix
      have HMQ := hide hmq
      have hm1 : 1 ≤ mq := by omega
      have hm4 : mq ≤ 4 := by omega
      clear hmq
      go_wp2_with (at_make; refine wpList_mkN _ rfl _ _ _ rfl elem64 .i64 .i64 _ _ nl rfl rfl (by omega) (by omega) (by omega) ?_; intro w1 hown hbel)
      have HO1 := hide hown
      have HB1 := hide hbel
      have HOV1 := hide (HOV.out.next hbel)
      have HOL1 := hide (fun j hj => (HOL.out j hj).below hbel (Nat.le_refl _))
      have hgl : wr.heap.size < w1.heap.size := (hown.lt rfl).2
      have HGS := hide (fun j hj => ((HOL.out j hj).lt (g := gs j) rfl).2)
      have HMO := hide (implModeOf (mq : Int) ⟨by omega, by omega⟩)
      have HTW0 := hide (fun k hk => implTextWidth (mq : Int) ⟨by omega, by omega⟩ k hk)
      have hMV1 := MV_one (mq : Int)
      obtain ⟨ity, idv, hMv⟩ := MV_iface (mq : Int)
      have HMV := hide hMv
      rw [hMv] at HMO HTW0 hMV1
      clear hown hbel hMv HOV HOL hix
      refine (HMO.out _).mono ?_
      rintro e wm ⟨rfl, hwm⟩
      rw [hwm]
      clear hwm wm
      go_wp2_with fail
      obtain ⟨wx, hwx⟩ : ∃ wx, w1.alloc (.cells #[.int .i64 mq, (.iface ity idv), .slice (some ⟨wr.heap.size, 0, none⟩) nl nl, .int .i64 0] 164) = wx := ⟨_, rfl⟩
      have hbx : Below w1.heap.size w1 wx := by rw [← hwx]; exact (Below.refl _ _).alloc (Nat.le_refl _) _
      have HOx := hide (HO1.out.below hbx (Nat.le_refl _))
      have HOVx := hide (HOV1.out.next hbx)
      have HOLx := hide (fun j hj => (HOL1.out j hj).below hbx (Nat.le_refl _))
      have HBx := hide (HB.out.trans ((HB1.out.trans (hbx.mono HB1.out.size)).mono HB.out.size))
      have HRx := hide (show wx.heap[w1.heap.size]? = some (.cells #[.int .i64 mq, (.iface ity idv), .slice (some ⟨wr.heap.size, 0, none⟩) nl nl, .int .i64 0] 164 (0, 0)) by rw [← hwx]; exact heap_alloc_new w1 _)
      have hgx : wr.heap.size < wx.heap.size := by have := hbx.size; omega
      rw [hwx]
      clear hwx hbx HO1 HB1 HOV1 HOL1 HMO
      obtain ⟨c0, c1, c2, c3⟩ := row4 HRx.out
      go_wp2_with fail
      clear c0 c1 c2 c3
      obtain ⟨gl, hgle⟩ : ∃ gl, wr.heap.size = gl := ⟨_, rfl⟩
      obtain ⟨br, hbre⟩ : ∃ br, w1.heap.size = br := ⟨_, rfl⟩
      have hwgl : w.heap.size ≤ gl := by have := HB.out.size; omega
      rw [hgle] at HOx HRx hgl hgx HGS
      rw [hbre] at HRx hgl
      rw [hgle, hbre]
      clear hgle hbre HB
      have HVG := hide (show v.ownBlock = none ∨ v.ownBlock ≠ some gl from (HOVx.out.apart HOx.out).1)
      go_loopw [26] (fun i wr => RiRel wx gl nl mq i wr) (fun i _ => nl - (intOf i).toNat)
      case atStart => exact ⟨0, Nat.zero_le _, rfl, by simpa using HOx.out, World.grownBy.refl _ _⟩
      case round =>
        clear HOx
        obtain ⟨k, hk, rfl, ho, hg⟩ := hrel
        have HO := hide ho
        have HG := hide hg
        clear ho hg
        have HR := hide (show wr.heap[br]? = some (.cells #[.int .i64 mq, (.iface ity idv), .slice (some ⟨gl, 0, none⟩) nl nl, .int .i64 0] 164 (0, 0)) by rw [HG.out.block br (Array.getElem?_eq_some_iff.1 HRx.out).1 (by simp; omega)]; exact HRx.out)
        by_cases hlt2 : k < nl
        · have HTW := hide (HTW0.out k (by omega))
          obtain ⟨tw, htw⟩ : ∃ tw, twid (mq : Int) k = tw := ⟨_, rfl⟩
          have htl := twid_le (m := (mq : Int)) (n := k) (by omega)
          rw [htw] at HTW htl
          obtain ⟨sl, hsl⟩ : ∃ sl, slen (mq : Int) k = sl := ⟨_, rfl⟩
          have hws : IntKind.i64.wrap (11 + (tw : Int)) = (sl : Int) := by
            have : sl = 11 + tw := by rw [← hsl, slen, htw]
            rw [IntWalk.i64_in _ ⟨by omega, by omega⟩]; omega
          have HAT := hide (show (lenL mq nl)[k]? = some (sl : Int) by rw [lenL_at hlt2, hsl])
          have HSB := hide (fun (wy : World) (h : Below wr.heap.size wr wy) => row4 (heap_next HR.out h))
          have HDr := hide ((Below.refl wr.heap.size wr).drew)
          have HOn := hide (fun (wy : World) (h : Below wr.heap.size wr wy) => HO.out.below h (Nat.le_refl _))
          clear htw hsl
          go_wp2_with fail
          refine tail_begin (fun w' => w'.cell? ⟨br, 0, none⟩ = some (.int .i64 mq) ∧ w'.cell? ⟨br, 1, none⟩ = some (.iface ity idv) ∧ w'.cell? ⟨br, 2, none⟩ = some (.slice (some ⟨gl, 0, none⟩) nl nl) ∧ w'.cell? ⟨br, 3, none⟩ = some (.int .i64 0)) 10 (by kernel_rfl) (HSB.out _ HDr.out) (fun hS' => ?_)
          refine tail_take2 0 rfl (by kernel_rfl) (by kernel_rfl) (by kernel_rfl) (by decide) (fun _ _ _ h => h) (by rfl) (v := ?_) ?_ (by assumption) ?_
          rotate_left 1
          · intro w' hS'; obtain ⟨c0, c1, c2, c3⟩ := hS'; go_simp; try with_reducible rfl
          try simp only [Act.put, List.setIfInBounds_toArray, List.set_cons_zero, List.set_cons_succ]
          refine tail_take2 1 rfl (by kernel_rfl) (by kernel_rfl) (by kernel_rfl) (by decide) (fun _ _ _ h => h) (by rfl) (v := ?_) ?_ (by assumption) ?_
          rotate_left 1
          · intro w' hS'; obtain ⟨c0, c1, c2, c3⟩ := hS'; go_simp; try with_reducible rfl
          try simp only [Act.put, List.setIfInBounds_toArray, List.set_cons_zero, List.set_cons_succ]
          refine tail_take2 2 rfl (by kernel_rfl) (by kernel_rfl) (by kernel_rfl) (by decide) (fun _ _ _ h => h) (by rfl) (v := ?_) ?_ (by assumption) ?_
          rotate_left 1
          · intro w' hS'; obtain ⟨c0, c1, c2, c3⟩ := hS'; go_simp; try with_reducible rfl
          try simp only [Act.put, List.setIfInBounds_toArray, List.set_cons_zero, List.set_cons_succ]
          refine tail_take2 3 rfl (by kernel_rfl) (by kernel_rfl) (by kernel_rfl) (by decide) (fun _ _ _ h => h) (by rfl) (v := ?_) ?_ (by assumption) ?_
          rotate_left 1
          · intro w' hS'; obtain ⟨c0, c1, c2, c3⟩ := hS'; go_simp; try with_reducible rfl
          try simp only [Act.put, List.setIfInBounds_toArray, List.set_cons_zero, List.set_cons_succ]
          refine tail_take2 4 rfl (by kernel_rfl) (by kernel_rfl) (by kernel_rfl) (by decide) (fun _ _ _ h => h) (by rfl) (v := ?_) ?_ (by assumption) ?_
          rotate_left 1
          · intro w' hS'; obtain ⟨c0, c1, c2, c3⟩ := hS'; go_simp; try with_reducible rfl
          try simp only [Act.put, List.setIfInBounds_toArray, List.set_cons_zero, List.set_cons_succ]
          refine tail_take2 5 rfl (by kernel_rfl) (by kernel_rfl) (by kernel_rfl) (by decide) (fun _ _ _ h => h) (by rfl) (v := ?_) ?_ (by assumption) ?_
          rotate_left 1
          · intro w' hS'; obtain ⟨c0, c1, c2, c3⟩ := hS'; go_simp; try with_reducible rfl
          try simp only [Act.put, List.setIfInBounds_toArray, List.set_cons_zero, List.set_cons_succ]
          refine tail_call 6 rfl (by kernel_rfl) rfl (fun K hK => ?_)
          go_simp
          (go_at_call 115; refine (HTW.out _).mono ?_; rintro e w2 ⟨rfl, hb2⟩; have HD2 := hide (HDr.out.trans (hb2.mono HDr.out.size)); clear hb2)
          refine hK.out _ _ (by (try dsimp only); exact HSB.out _ HD2.out) (fun hS' => ?_)
          clear hK K
          try simp only [Act.put, List.setIfInBounds_toArray, List.set_cons_zero, List.set_cons_succ]
          refine tail_take2 7 rfl (by kernel_rfl) (by kernel_rfl) (by kernel_rfl) (by decide) (fun _ _ _ h => h) (by rfl) (v := ?_) ?_ (by assumption) ?_
          rotate_left 1
          · intro w' hS'; obtain ⟨c0, c1, c2, c3⟩ := hS'; go_simp; try with_reducible rfl
          try simp only [Act.put, List.setIfInBounds_toArray, List.set_cons_zero, List.set_cons_succ]
          refine tail_take2 8 rfl (by kernel_rfl) (by kernel_rfl) (by kernel_rfl) (by decide) (fun _ _ _ h => h) (by rfl) (v := ?_) ?_ (by assumption) ?_
          rotate_left 1
          · intro w' hS'; obtain ⟨c0, c1, c2, c3⟩ := hS'; go_simp; try with_reducible rfl
          try simp only [Act.put, List.setIfInBounds_toArray, List.set_cons_zero, List.set_cons_succ]
          have HO2 := hide (HOn.out _ HD2.out)
          have HZ := hide (show (((lenL mq nl).take k) ++ List.replicate (nl - k) 0)[k]? = some (0 : Int) by
            rw [List.getElem?_append_right (by rw [List.length_take, lenL_len]; omega), List.length_take, lenL_len, show k - min k nl = 0 by omega, List.getElem?_replicate, if_pos (by omega)])
          have zc0 := HO2.out.cellAt HZ.out
          have zf0 := HO2.out.frozenAt k
          obtain ⟨q1, q2⟩ := HO2.out.stored k (sl : Int)
          rw [show (((lenL mq nl).take k) ++ List.replicate (nl - k) (0 : Int)) = (lenL mq nl).take k ++ 0 :: List.replicate (nl - (k + 1)) 0 by rw [show nl - k = (nl - (k + 1)) + 1 by omega, List.replicate_succ], set_snoc HAT.out] at q1
          have Q1 := hide q1
          have HGw := hide (show wx.grownBy (w2.setCell ⟨gl, k, none⟩ (.int .i64 (sl : Int))) (some gl) from grown_trans (growBelow HG.out HD2.out) q2)
          have HRw := hide (show (w2.setCell ⟨gl, k, none⟩ (.int .i64 (sl : Int))).heap[br]? = some (.cells #[.int .i64 mq, (.iface ity idv), .slice (some ⟨gl, 0, none⟩) nl nl, .int .i64 0] 164 (0, 0)) by rw [heap_setCell_other w2 ⟨gl, k, none⟩ br _ (by simp; omega)]; exact heap_next HR.out HD2.out)
          clear q1 q2
          refine tail_call 9 rfl (by kernel_rfl) rfl (fun K' hK => ?_)
          go_simp
          refine hK.out _ _ (by (try dsimp only); exact row4 HRw.out) (fun hS' => ?_)
          clear hK K'
          try simp only [Act.put, List.setIfInBounds_toArray, List.set_cons_zero, List.set_cons_succ]
          refine tail_end (by kernel_rfl) ?_
          clear zc0 zf0
          go_wp2_with fail
          go_roundw
          case rel => exact ⟨k + 1, by omega, by go_num, Q1.out, HGw.out⟩
          case measure => simp [intOf]; omega
        · have hkn : k = nl := by omega
          have HOe := hide (show Go.Proofs.Ythbmfaogjaahoaa.Own wr gl 2 .i64 (.slice (some ⟨gl, 0, none⟩) nl nl) (lenL mq nl) by
            have h := HO.out
            rw [hkn, List.take_of_length_le (by rw [lenL_len]; omega), Nat.sub_self, List.replicate_zero, List.append_nil] at h; exact h)
          have HOVe := hide ((HOVx.out.grown HG.out HVG.out).congr (f' := rcv (fun j => if j = q then gl else gs j) nl (fun _ => 0)) (fun i hi => rcv_gs (fun j hj => by rw [if_neg (by omega)]) hi))
          have HOLe := hide (fun j hj => show Go.Proofs.Ythbmfaogjaahoaa.Own wr w.heap.size 2 .i64 (.slice (some ⟨gs j, 0, none⟩) nl nl) (lenL (j + 1) nl) from (HOLx.out j hj).grown HG.out (.inr (by have := HGS.out j hj; simp [Value.ownBlock]; omega)))
          have HBe := hide (HBx.out.grown HG.out HBx.out.size (fun g hg => by cases hg; exact hwgl))
          have HON := hide (show ∀ u ∈ [(.int .i64 mq : Value), .iface ity idv, .slice (some ⟨gl, 0, none⟩) nl nl, .int .i64 0], u.oneCell' = true from fun u hu => by
            simp only [List.mem_cons, List.mem_nil_iff, or_false] at hu
            rcases hu with rfl | rfl | rfl | rfl <;> rfl)
          have HFF := hide (show rcv (fun j => if j = q then gl else gs j) nl (fun _ => 0) (q * 4) = .int .i64 mq ∧ rcv (fun j => if j = q then gl else gs j) nl (fun _ => 0) (q * 4 + 1) = .iface ity idv ∧ rcv (fun j => if j = q then gl else gs j) nl (fun _ => 0) (q * 4 + 2) = .slice (some ⟨gl, 0, none⟩) nl nl ∧ rcv (fun j => if j = q then gl else gs j) nl (fun _ => 0) (q * 4 + 3) = .int .i64 0 from by
            obtain ⟨h0, h1, h2, h3⟩ := rcv_at (fun j => if j = q then gl else gs j) nl (fun _ => 0) q
            rw [HMQ.out] at h0 h1
            rw [HMV.out] at h1
            rw [if_pos rfl] at h2
            exact ⟨h0, h1, h2, h3⟩)
          have hwb : w.heap.size ≤ wr.heap.size := HBe.out.size
          obtain ⟨c0, c1, c2, c3⟩ := row4 HR.out
          clear hkn
          go_wp2_with (at_builtin; refine wpList_appReach wr rfl _ _ rfl rfl HOVe.out (.int .i64 mq) (.iface ity idv) (.slice (some ⟨gl, 0, none⟩) nl nl) (.int .i64 0) HON.out HFF.out rfl (by omega) hwb ?_; intro v3 w3 ho3 hg3)
          have HO3 := hide ho3
          have HL3 := hide (fun j (hj : j < q + 1) => show Go.Proofs.Ythbmfaogjaahoaa.Own w3 w.heap.size 2 .i64 (.slice (some ⟨if j = q then gl else gs j, 0, none⟩) nl nl) (lenL (j + 1) nl) from by
            by_cases e : j = q
            · subst e
              rw [if_pos rfl, HMQ.out]
              exact (HOe.out.low hwgl).grown hg3 (HOVe.out.apart HOe.out).2
            · rw [if_neg e]
              exact (HOLe.out j (by omega)).grown hg3 (HOVe.out.apart (HOLe.out j (by omega))).2)
          have HB3 := hide (HBe.out.grown hg3 HBe.out.size (fun g hg => ((World.ownsRow.lt HOVe.out) g hg).1))
          clear ho3 hg3
          go_wp2_with fail
          go_roundw
          case rel => exact ⟨q + 1, _, by omega, by go_num, HO3.out, HL3.out, HB3.out⟩
          case measure => simp [intOf]; omega
    · have HF := hide (show ReachPost nl w (.returned v) wr from ⟨v, gs, rfl, by have h := HOV.out; rw [show q = 4 by omega] at h; exact h, fun j hj => HOL.out j (by omega), HB.out⟩)
      go_wp2_with fail
      go_ret
      exact HF.out
end Go.Proofs.Ythbmfaogjaahoaa

namespace Go.Proofs.Ythbmfaogjaahoaa
open Go Go.RowKit
set_option linter.unusedSimpArgs false
set_option linter.unusedVariables false

theorem apartQ {w : World} {b N base n : Nat} {t : Nat → Cel} {v : Value} {f : Nat → Value} (h : RowQ w b 148 N t) (h' : OwnQ w base v n f) : v.ownBlock = none ∨ v.ownBlock ≠ some b := by
  obtain ⟨cs, hb, _⟩ := h
  rcases h'.2 with ⟨rfl, _⟩ | ⟨g, cap, cur, rfl, _, hg, _⟩
  · exact .inl rfl
  · refine .inr fun e => ?_
    simp only [Value.ownBlock, Option.some.injEq] at e
    subst e; rw [hb] at hg; cases hg
theorem apartI {w : World} {b N base : Nat} {t : Nat → Cel} {v : Value} {zs : List Int} (h : RowQ w b 148 N t) (h' : Go.Proofs.Ythbmfaogjaahoaa.Own w base 2 .i64 v zs) : v.ownBlock = none ∨ v.ownBlock ≠ some b := by
  obtain ⟨cs, hb, _⟩ := h
  rcases h'.2 with ⟨rfl, _⟩ | ⟨g, cap, cur, rfl, _, hg, _⟩
  · exact .inl rfl
  · refine .inr fun e => ?_
    simp only [Value.ownBlock, Option.some.injEq] at e
    subst e; rw [hb] at hg; cases hg
theorem OwnQ.low {w : World} {base base' n : Nat} {v : Value} {f : Nat → Value} (h : OwnQ w base v n f) (hb : base' ≤ base) : OwnQ w base' v n f := by
  refine ⟨h.1, ?_⟩
  rcases h.2 with h0 | ⟨g, cap, cur, h1, h2, h3⟩
  · exact .inl h0
  · exact .inr ⟨g, cap, cur, h1, Nat.le_trans hb h2, h3⟩
/-- What lies beside the table: the reaches and their lengths, and the result. -/
structure Beside (w : World) (b nl : Nat) (gs : Nat → Nat) (v : Value) (Z : Array Value) (sz : Nat → Nat) (t : Nat → Cel) (wr : World) : Prop where
  row : RowQ wr b 148 401 t
  own : OwnQ wr w.heap.size v 4 (rcv gs nl sz)
  len : ∀ j, j < 4 → Go.Proofs.Ythbmfaogjaahoaa.Own wr w.heap.size 2 .i64 (.slice (some ⟨gs j, 0, none⟩) nl nl) (lenL (j + 1) nl)
  res : wr.heap[w.heap.size]? = some (.cells Z 148 (0, 0))
  bel : Below w.heap.size w wr
theorem Beside.next {w wr wx : World} {b nl : Nat} {gs : Nat → Nat} {v : Value} {Z : Array Value} {sz : Nat → Nat} {t : Nat → Cel} (h : Beside w b nl gs v Z sz t wr) (hb : Below wr.heap.size wr wx) : Beside w b nl gs v Z sz t wx :=
  ⟨h.row.next hb, h.own.next hb, fun j hj => (h.len j hj).below hb (Nat.le_refl _), heap_next h.res hb, h.bel.trans (hb.mono h.bel.size)⟩
/-- The table has changed. -/
theorem Beside.tab {w wr wx : World} {b nl : Nat} {gs : Nat → Nat} {v : Value} {Z : Array Value} {sz : Nat → Nat} {t t' : Nat → Cel} (h : Beside w b nl gs v Z sz t wr) (hr : RowQ wx b 148 401 t') (hg : wr.grownBy wx (some b)) (hb : w.heap.size < b) : Beside w b nl gs v Z sz t' wx :=
  ⟨hr, h.own.grown hg (apartQ h.row h.own), fun j hj => (h.len j hj).grown hg (apartI h.row (h.len j hj)), by rw [hg.block _ (Array.getElem?_eq_some_iff.1 h.res).1 (by simp; omega)]; exact h.res, h.bel.grown hg h.bel.size (fun g e => by cases e; omega)⟩
/-- A size has changed. -/
theorem Beside.size {w wr : World} {b nl gv c : Nat} {gs : Nat → Nat} {Z : Array Value} {sz : Nat → Nat} {t : Nat → Cel} (h : Beside w b nl gs (.slice (some ⟨gv, 0, none⟩) 4 c) Z sz t wr) (q x : Nat) : Beside w b nl gs (.slice (some ⟨gv, 0, none⟩) 4 c) Z (fun j => if j = q then x else sz j) t (wr.setCell ⟨gv, q * 4 + 3, none⟩ (.int .i64 (x : Nat))) := by
  obtain ⟨p1, p2⟩ := h.own.put (q * 4 + 3) (.int .i64 (x : Nat))
  rw [rcv_sz] at p1
  have hgw : w.heap.size ≤ gv := (World.ownsRow.lt h.own gv rfl).1
  have hres : w.heap.size ≠ gv := by
    rintro e
    rcases h.own.2 with ⟨h0, _⟩ | ⟨g, cap, cur, h1, _, hg, _⟩
    · cases h0
    · simp only [Value.slice.injEq, Option.some.injEq, Addr.mk.injEq] at h1
      have := h.res
      rw [e, h1.1.1, hg] at this; cases this
  refine ⟨h.row.grown p2 ?_, p1, fun j hj => (h.len j hj).grown p2 (h.own.apart (h.len j hj)).2, ?_, h.bel.grown p2 h.bel.size (fun g e => by cases e; exact hgw)⟩
  · have := apartQ h.row h.own
    simpa [Value.ownBlock] using this
  · rw [p2.block _ (Array.getElem?_eq_some_iff.1 h.res).1 (by simp; exact hres)]; exact h.res

theorem rcv_congr {gs : Nat → Nat} {nl i : Nat} {sz sz' : Nat → Nat} (h : sz' (i / 4) = sz (i / 4)) : rcv gs nl sz' i = rcv gs nl sz i := by unfold rcv; rw [h]
theorem stb_rch {bs : List Int} {p : Nat} {y m : Int} (h : bs[p]? = some y) : stb m y (rch m (bs.drop (p + 1))) = rch m (bs.drop p) := by
  obtain ⟨hi, hx⟩ := List.getElem?_eq_some_iff.1 h
  rw [List.drop_eq_getElem_cons hi, hx, rch_cons]; rfl

def TcPost (n : Nat) (bs : List Int) (w : World) (e : Ending) (w' : World) : Prop := ∃ cs, e = .returned (.agg cs) ∧ TabQ cs 401 (tabN bs n) ∧ Below w.heap.size w w'
def Ch1 (w : World) (n nl : Nat) (bs : List Int) (gs : Nat → Nat) (v : Value) (Z : Array Value) (i : Value) (wr : World) : Prop :=
  ∃ (x : Int) (q : Nat), i = .int .i64 x ∧ x = (q : Int) - 1 ∧ q ≤ n ∧ Beside w (w.heap.size + 1) nl gs v Z (fun j => rch ((j + 1 : Nat) : Int) (bs.drop q)) (tabN bs (n - q)) wr
def Ch2 (w : World) (nl p : Nat) (bs : List Int) (gs : Nat → Nat) (v : Value) (Z : Array Value) (t : Nat → Cel) (i : Value) (wr : World) : Prop :=
  ∃ q : Nat, q ≤ 4 ∧ i = .int .i64 q ∧ Beside w (w.heap.size + 1) nl gs v Z (fun j => if j < q then rch ((j + 1 : Nat) : Int) (bs.drop p) else rch ((j + 1 : Nat) : Int) (bs.drop (p + 1))) (upd t p (fmd t bs p q)) wr

set_option maxRecDepth 100000 in
set_option maxHeartbeats 8000000 in
theorem implChoices (s : ByteArray) (hs : s.size ≤ 400) (w : World) :
    Calls Try.prog 108 #[.string s] w (TcPost s.size (bytesI s) w) := by
  obtain ⟨Z, hZ, hz⟩ := zero_table
  have HZ := hide hZ
  have HT0 := hide (show (fun _ => zc) = tabN (bytesI s) (s.size - s.size) by rw [Nat.sub_self]; funext i; rfl)
  obtain ⟨w0, hw0⟩ : ∃ w0, (w.alloc (.cells Z 148)).alloc (.cells Z 148) = w0 := ⟨_, rfl⟩
  have HRow := hide (show RowQ w0 (w.heap.size + 1) 148 401 (fun _ => zc) by
    have h := RowQ.new (w.alloc (.cells Z 148)) 148 hZ
    rw [alloc_size] at h; rw [← hw0]; exact h)
  have HRes := hide (show w0.heap[w.heap.size]? = some (.cells Z 148 (0, 0)) by rw [← hw0]; exact row_keep4 (heap_alloc_new w _) _)
  have HB0 := hide (show Below w.heap.size w w0 by rw [← hw0]; exact ((Below.refl _ _).alloc (Nat.le_refl _) _).alloc (by rw [alloc_size]; omega) _)
  have HSZ0 := hide (show w0.heap.size = w.heap.size + 2 by rw [← hw0, alloc_size, alloc_size])
  clear hZ
  have HBS := hide (fun (L nl : Nat) (h : (L = 255 ∧ 255 < s.size) ∨ (L = s.size ∧ s.size ≤ 255)) (hn : L + 1 = nl) => show L ≤ 255 ∧ (∀ R, R ≤ 255 → R ≤ s.size → R < nl) from ⟨by omega, fun R h1 h2 => by omega⟩)
  go_enter Try.func108, Try.ntmps108
  go_wp2_with fail
  case' inl =>
    obtain ⟨L, hL, hLe⟩ : ∃ L : Nat, ((L = 255 ∧ 255 < s.size) ∨ (L = s.size ∧ s.size ≤ 255)) ∧ (255 : Int) = (L : Int) := ⟨255, .inl ⟨rfl, by omega⟩, rfl⟩
    rw [hLe]
  case' inr =>
    obtain ⟨L, hL, hLe⟩ : ∃ L : Nat, ((L = 255 ∧ 255 < s.size) ∨ (L = s.size ∧ s.size ≤ 255)) ∧ (s.size : Int) = (L : Int) := ⟨s.size, .inr ⟨rfl, by omega⟩, rfl⟩
    rw [hLe]
  all_goals
    obtain ⟨nl, hnl⟩ : ∃ nl, L + 1 = nl := ⟨_, rfl⟩
    obtain ⟨hL255, hLR⟩ := HBS.out L nl hL hnl
    have HRE := hide (implReaches L nl hL255 hnl w0)
    have HLR := hide hLR
    clear HBS hLR hL255 hnl hL hLe
    refine HRE.out.mono ?_
    rintro e w1 ⟨v, gs, rfl, hov, hol, hb1⟩
    have HBe := hide (show Beside w (w.heap.size + 1) nl gs v Z (fun j => rch ((j + 1 : Nat) : Int) ((bytesI s).drop s.size)) (tabN (bytesI s) (s.size - s.size)) w1 from
      ⟨by rw [← HT0.out]; exact HRow.out.next hb1, by
        rw [show (fun j : Nat => rch ((j + 1 : Nat) : Int) ((bytesI s).drop s.size)) = fun _ => 0 from by funext j; rw [List.drop_of_length_le (by rw [bytesI_len]; omega)]; rfl]
        exact hov.low (by rw [HSZ0.out]; omega), fun j hj => (hol j hj).low (by rw [HSZ0.out]; omega), heap_next HRes.out hb1, HB0.out.trans (hb1.mono HB0.out.size)⟩)
    clear hov hol hb1 HRE HRow HRes HB0 HSZ0 HT0
    go_wp2_with fail
    go_loopw [5] (fun i wr => Ch1 w s.size nl (bytesI s) gs v Z i wr) (fun i _ => (intOf i + 1).toNat)
    case atStart => exact ⟨_, s.size, rfl, rfl, Nat.le_refl _, HBe.out⟩
    case round =>
      clear HBe
      obtain ⟨x1, q1, rfl, hx1, hq1, hbe⟩ := hrel
      have HBe := hide hbe
      clear hbe
      by_cases hq : q1 = 0
      · have hx0 : x1 < 0 := by omega
        have HB5 := hide (show Beside w (w.heap.size + 1) nl gs v Z (fun j => rch ((j + 1 : Nat) : Int) ((bytesI s).drop q1)) (tabN (bytesI s) s.size) wr by
          have h := HBe.out
          rw [show s.size - q1 = s.size by omega] at h; exact h)
        obtain ⟨cs, hcs, htab⟩ := HB5.out.row
        have HCS := hide hcs
        have HTAB := hide htab
        have HS := hide (show (Try.prog.info? 148).map (·.size) = some cs.size by rw [htab.1]; exact size_table)
        have HZS := hide (show Z.size = cs.size by rw [htab.1, HZ.out.1])
        clear hcs htab HBe hx1 hq hz
        go_wp2_with (first
          | (with_reducible refine wpList_load_row rfl 148 (.tmp 3) rfl (w.heap.size + 1) rfl 148 cs (0, 0) _ HCS.out Try.underlying148 rfl HS.out ?_)
          | (with_reducible refine wpList_store_row rfl 148 (.tmp 2) (.tmp 37) rfl w.heap.size cs rfl rfl 148 Z HB5.out.res HS.out HZS.out HTAB.out.one ?_))
        have HR := hide (setRow_heap wr w.heap.size Z cs 148 _ HB5.out.res)
        refine bodyPost_ret (v := .agg cs) (results_cell_row Try.results108 _ _ w.heap.size 148 cs _ _ rfl HR.out Try.underlying148 rfl HS.out) rfl ⟨cs, rfl, HTAB.out, ?_⟩
        have hbe := HB5.out.bel
        exact ⟨hbe.os, hbe.tape, hbe.output, by simp; exact hbe.size, fun i hi => (setRow_other wr w.heap.size i cs (by omega)).trans (hbe.block i hi)⟩
      · obtain ⟨p, hp⟩ : ∃ p, q1 = p + 1 := ⟨q1 - 1, by omega⟩
        obtain rfl : x1 = (p : Int) := by omega
        have hps : p < s.size := by omega
        obtain ⟨t, ht⟩ : ∃ t, tabN (bytesI s) (s.size - q1) = t := ⟨_, rfl⟩
        have hlen : (bytesI s).length = s.size := bytesI_len s
        have HOK := hide (show ∀ j, Ok s.size j (t j) from fun j => by have h := ok_tab (bytesI s) (s.size - q1) j; rw [hlen, ht] at h; exact h)
        have HZp := hide (show t p = zc by rw [← ht]; exact tabN_zero (.inl (by rw [hlen]; omega)))
        have HSTEP := hide (show upd t p (fmd t (bytesI s) p 4) = tabN (bytesI s) (s.size - p) by
          have h := tabN_step (bs := bytesI s) (j := s.size - q1) (i := p) (by rw [hlen]; omega)
          rw [ht] at h
          rw [show s.size - p = s.size - q1 + 1 by omega]; exact h)
        have HFO := hide (show ∀ q, q ≤ 4 → Ok s.size p (fmd t (bytesI s) p q) from fun q hq' => by have h := ok_fmd (bs := bytesI s) (i := p) (t := t) (by rw [hlen]; exact HOK.out) (by rw [hlen]; omega) q hq'; rw [hlen] at h; exact h)
        have HRL := hide (show ∀ m, rch m ((bytesI s).drop p) ≤ s.size - p ∧ rch m ((bytesI s).drop p) ≤ 255 from fun m => by have h := rch_le m ((bytesI s).drop p); rw [List.length_drop, hlen] at h; exact h)
        rw [ht] at HBe
        obtain ⟨y, hy, hy2, hy0, hy1⟩ := byteAt s hps
        have HY := hide hy2
        have HBe2 := hide (show Beside w (w.heap.size + 1) nl gs v Z (fun j => if j < 0 then rch ((j + 1 : Nat) : Int) ((bytesI s).drop p) else rch ((j + 1 : Nat) : Int) ((bytesI s).drop (p + 1))) (upd t p (fmd t (bytesI s) p 0)) wr by
          rw [show fmd t (bytesI s) p 0 = t p by rw [HZp.out]; rfl, upd_self]
          have h := HBe.out
          rw [hp] at h; exact h)
        obtain ⟨gv, cv, cur, hvv, _, _, _⟩ := HBe.out.own.form (by omega)
        subst hvv
        clear hp hx1 hq ht hq1 HBe hlen hy2
        go_wp2_with fail
        obtain ⟨wo, rfl⟩ : ∃ wo : World, wo = wr := ⟨_, rfl⟩
        go_loopw [20] (fun i wr => Ch2 w nl p (bytesI s) gs (.slice (some ⟨gv, 0, none⟩) 4 cv) Z t i wr) (fun i _ => 4 - (intOf i).toNat)
        case atStart => exact ⟨0, by omega, rfl, HBe2.out⟩
        case round =>
          clear HBe2
          obtain ⟨q, hq4, rfl, hbe⟩ := hrel
          have HBe := hide hbe
          clear hbe
          by_cases hlt : q < 4
          · obtain ⟨mq, hmq⟩ : ∃ mq, q + 1 = mq := ⟨_, rfl⟩
            obtain ⟨h0, h1, h2, h3⟩ := rcv_at gs nl (fun j => if j < q then rch ((j + 1 : Nat) : Int) ((bytesI s).drop p) else rch ((j + 1 : Nat) : Int) ((bytesI s).drop (p + 1))) q
            rw [if_neg (by omega)] at h3
            rw [hmq] at h0 h1 h3
            have C1 := HBe.out.own.cell (i := q * 4 + 1) (by omega)
            have C3 := HBe.out.own.cell (i := q * 4 + 3) (by omega)
            rw [h1] at C1
            rw [h3] at C3
            have hr255 := (rch_le (mq : Int) ((bytesI s).drop (p + 1))).2
            have HST := hide (implStep (mq : Int) ⟨by omega, by omega⟩ gv (q * 4) _ y wr.drew hy0 hy1 hr255 (World.ownsRow.lt HBe.out.own gv rfl).2 C1 C3 (HBe.out.own.frozen (q * 4 + 3)))
            rw [stb_rch HY.out] at HST
            have HMQ := hide hmq
            clear h0 h1 h2 h3 C1 C3 hr255 hmq
            go_wp2_with fail
            refine tail_begin (fun w' => True) 7 (by kernel_rfl) trivial (fun hS' => ?_)
            refine tail_take2 0 rfl (by kernel_rfl) (by kernel_rfl) (by kernel_rfl) (by decide) (fun _ _ _ h => h) (by rfl) (v := ?_) ?_ (by assumption) ?_
            rotate_left 1
            · intro w' hS'; skip; go_simp; try with_reducible rfl
            try simp only [Act.put, List.setIfInBounds_toArray, List.set_cons_zero, List.set_cons_succ]
            refine tail_take2 1 rfl (by kernel_rfl) (by kernel_rfl) (by kernel_rfl) (by decide) (fun _ _ _ h => h) (by rfl) (v := ?_) ?_ (by assumption) ?_
            rotate_left 1
            · intro w' hS'; skip; go_simp; try with_reducible rfl
            try simp only [Act.put, List.setIfInBounds_toArray, List.set_cons_zero, List.set_cons_succ]
            refine tail_take2 2 rfl (by kernel_rfl) (by kernel_rfl) (by kernel_rfl) (by decide) (fun _ _ _ h => h) (by rfl) (v := ?_) ?_ (by assumption) ?_
            rotate_left 1
            · intro w' hS'; skip; go_simp; try with_reducible rfl
            try simp only [Act.put, List.setIfInBounds_toArray, List.set_cons_zero, List.set_cons_succ]
            refine tail_take2 3 rfl (by kernel_rfl) (by kernel_rfl) (by kernel_rfl) (by decide) (fun _ _ _ h => h) (by rfl) (v := ?_) ?_ (by assumption) ?_
            rotate_left 1
            · intro w' hS'; skip; go_simp; try with_reducible rfl
            try simp only [Act.put, List.setIfInBounds_toArray, List.set_cons_zero, List.set_cons_succ]
            refine tail_take2 4 rfl (by kernel_rfl) (by kernel_rfl) (by kernel_rfl) (by decide) (fun _ _ _ h => h) (by rfl) (v := ?_) ?_ (by assumption) ?_
            rotate_left 1
            · intro w' hS'; skip; go_simp; try with_reducible rfl
            try simp only [Act.put, List.setIfInBounds_toArray, List.set_cons_zero, List.set_cons_succ]
            refine tail_take2 5 rfl (by kernel_rfl) (by kernel_rfl) (by kernel_rfl) (by decide) (fun _ _ _ h => h) (by rfl) (v := ?_) ?_ (by assumption) ?_
            rotate_left 1
            · intro w' hS'; skip; go_simp; try with_reducible rfl
            try simp only [Act.put, List.setIfInBounds_toArray, List.set_cons_zero, List.set_cons_succ]
            refine tail_call 6 rfl (by kernel_rfl) rfl (fun K' hK => ?_)
            go_simp
            go_at_call 120
            refine HST.out.mono ?_
            rintro e w2 ⟨rfl, w1', hb1', hw2⟩
            have HB2 := hide (show Beside w (w.heap.size + 1) nl gs (.slice (some ⟨gv, 0, none⟩) 4 cv) Z (fun j => if j < q + 1 then rch ((j + 1 : Nat) : Int) ((bytesI s).drop p) else rch ((j + 1 : Nat) : Int) ((bytesI s).drop (p + 1))) (upd t p (fmd t (bytesI s) p q)) w2 by
              have h := (HBe.out.next ((Below.refl wr.heap.size wr).drew.trans hb1')).size q (rch (mq : Int) ((bytesI s).drop p))
              rw [← hw2] at h
              rw [show (fun j => if j < q + 1 then rch ((j + 1 : Nat) : Int) ((bytesI s).drop p) else rch ((j + 1 : Nat) : Int) ((bytesI s).drop (p + 1))) = (fun j => if j = q then rch (mq : Int) ((bytesI s).drop p) else if j < q then rch ((j + 1 : Nat) : Int) ((bytesI s).drop p) else rch ((j + 1 : Nat) : Int) ((bytesI s).drop (p + 1))) from by
                funext j
                by_cases e : j = q
                · subst e; rw [if_pos (by omega), if_pos rfl, HMQ.out]
                · rw [if_neg e]
                  by_cases e2 : j < q
                  · rw [if_pos (by omega), if_pos e2]
                  · rw [if_neg (by omega), if_neg e2]]
              exact h)
            clear hw2 hb1' HBe HST
            refine hK.out _ _ trivial (fun hS' => ?_)
            clear hK K' hS'
            try simp only [Act.put, List.setIfInBounds_toArray, List.set_cons_zero, List.set_cons_succ]
            refine tail_end (by kernel_rfl) ?_
            obtain ⟨sz2, hsz2⟩ : ∃ sz2, (fun j => if j < q + 1 then rch ((j + 1 : Nat) : Int) ((bytesI s).drop p) else rch ((j + 1 : Nat) : Int) ((bytesI s).drop (p + 1))) = sz2 := ⟨_, rfl⟩
            have hsq : sz2 q = rch (mq : Int) ((bytesI s).drop p) := by rw [← hsz2, ← HMQ.out]; show (if q < q + 1 then _ else _) = _; rw [if_pos (by omega)]
            have HSZ2 := hide hsz2
            rw [hsz2] at HB2
            obtain ⟨h0, h1, h2, h3⟩ := rcv_at gs nl sz2 q
            rw [hsq] at h3
            rw [HMQ.out] at h0 h1
            clear hsz2 hsq
            have C0 := HB2.out.own.cell (i := q * 4) (by omega)
            have C1 := HB2.out.own.cell (i := q * 4 + 1) (by omega)
            have C2 := HB2.out.own.cell (i := q * 4 + 2) (by omega)
            have C3 := HB2.out.own.cell (i := q * 4 + 3) (by omega)
            rw [h0] at C0
            rw [h1] at C1
            rw [h2] at C2
            rw [h3] at C3
            obtain ⟨Mv, hMv⟩ : ∃ Mv, MV (mq : Int) = Mv := ⟨_, rfl⟩
            obtain ⟨R, hR⟩ : ∃ R, rch (mq : Int) ((bytesI s).drop p) = R := ⟨_, rfl⟩
            rw [hMv] at C1
            rw [hR] at C3
            have hRR := HRL.out (mq : Int)
            rw [hR] at hRR
            have HFM := hide (show fmd t (bytesI s) p (q + 1) = fsiz t mq p R (fmd t (bytesI s) p q) by rw [fmd, ← hR, HMQ.out])
            have HFOq := hide (HFO.out q (by omega))
            have HLq := hide (HB2.out.len q hlt)
            rw [HMQ.out] at HLq
            have hgb : gs q ≠ w.heap.size + 1 := by
              rcases apartI HB2.out.row HLq.out with h | h
              · cases h
              · simpa [Value.ownBlock] using h
            have hRnl := HLR.out R (by omega) (by omega)
            have hmq4 : mq ≤ 4 := by have := HMQ.out; omega
            have HIM := hide (implImprove (w.heap.size + 1) p mq R s.size (gs q) nl nl Mv t (fmd t (bytesI s) p q) w2 HB2.out.row (HLq.out.lt (g := gs q) rfl).2 hgb (fun k hk => HLq.out.cellAt (lenL_at hk)) hRnl hRR.2 hs (by omega) (by omega) HOK.out HFOq.out)
            clear h0 h1 h2 h3 hMv hR hRR HFOq HLq hgb hRnl
            go_wp2_with fail
            refine HIM.out.mono ?_
            rintro e w4 ⟨rfl, hr4, hg4⟩
            have HB4 := hide (HB2.out.tab (t' := upd t p (fmd t (bytesI s) p (q + 1))) (by rw [HFM.out]; exact hr4) hg4 (by omega))
            clear hr4 hg4 C0 C1 C2 C3 HIM HB2
            go_wp2_with fail
            go_roundw
            case rel => exact ⟨q + 1, by omega, by go_num, by have h := HB4.out; rw [← HSZ2.out] at h; exact h⟩
            case measure => simp [intOf]; omega
          · have HB5 := hide (show Beside w (w.heap.size + 1) nl gs (.slice (some ⟨gv, 0, none⟩) 4 cv) Z (fun j => rch ((j + 1 : Nat) : Int) ((bytesI s).drop p)) (tabN (bytesI s) (s.size - p)) wr by
              have hq5 : q = 4 := by omega
              have h := HBe.out
              rw [hq5, HSTEP.out] at h
              refine ⟨h.row, h.own.congr (fun i hi => ?_), h.len, h.res, h.bel⟩
              exact rcv_congr (show rch ((i / 4 + 1 : Nat) : Int) ((bytesI s).drop p) = if i / 4 < 4 then rch ((i / 4 + 1 : Nat) : Int) ((bytesI s).drop p) else rch ((i / 4 + 1 : Nat) : Int) ((bytesI s).drop (p + 1)) by rw [if_pos (by omega)]))
            clear HBe
            go_wp2_with fail
            go_roundw
            case rel => exact ⟨_, p, rfl, rfl, by omega, HB5.out⟩
            case measure => simp [intOf]
end Go.Proofs.Ythbmfaogjaahoaa
