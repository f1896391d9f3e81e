/-
  A layout that a call was given; when it is valid, told by its numbers; what its blocks are: the program's part.
  The size, the code and the length of a layout: the model's and the program's.
  When a layout is valid, told by its numbers; what the model and the program say of it.
  Condition: as each statement says.
-/
import Derived.Test.YtncgeoliboidhaaGreatVJ
import Derived.Test.YtncgeoliboidhaaGreatLMath
import Derived.BigQuiet
import Derived.Test.YtncgeoliboidhaaGreatTail2
import Derived.OrdersHeld
namespace Go.Proofs.YtncgeoliboidhaaGreat
open Go.RowKit
set_option linter.unusedSimpArgs false
set_option linter.unusedVariables false

/-- The box of a layout. -/
def YBox (w wr : World) (p k g D K C : Int) : Prop := Bxd w wr 35 #[.int .i64 p, .int .i64 k, .int .i64 g, .int .i64 D, .int .i64 K, .int .i64 C]
section
variable {w wr wr' : World} {p k g D K C : Int}
theorem YBox.start (w : World) (p k g D K C : Int) : YBox w (w.alloc (.cells #[.int .i64 p, .int .i64 k, .int .i64 g, .int .i64 D, .int .i64 K, .int .i64 C] 35)) p k g D K C := Bxd.start w _ _
theorem YBox.lt (h : YBox w wr p k g D K C) : w.heap.size < wr.heap.size := Bxd.lt h
theorem YBox.next (h : YBox w wr p k g D K C) (hb : Below wr.heap.size wr wr') : YBox w wr' p k g D K C := Bxd.next h hb
theorem YBox.alloc (h : YBox w wr p k g D K C) (o : Obj) : YBox w (wr.alloc o) p k g D K C := Bxd.alloc h o
theorem YBox.drew (h : YBox w wr p k g D K C) : YBox w wr.drew p k g D K C := Bxd.drew h
theorem YBox.drewN (h : YBox w wr p k g D K C) (n : Nat) : YBox w (wr.drewN n) p k g D K C := Bxd.drewN h n
theorem YBox.grow {row : Option Nat} (h : YBox w wr p k g D K C) (hg : wr.grownBy wr' row) (hr : ∀ b, row = some b → w.heap.size < b) : YBox w wr' p k g D K C := Bxd.grow h hg hr
theorem YBox.set (h : YBox w wr p k g D K C) {b : Nat} (hb : w.heap.size < b) (j : Nat) (u : Value) : YBox w (wr.setCell ⟨b, j, none⟩ u) p k g D K C := Bxd.set h hb j u
theorem YBox.setRow (h : YBox w wr p k g D K C) {b : Nat} (hb : w.heap.size < b) (ds : Array Value) : YBox w (wr.setRow b ds) p k g D K C := Bxd.setRow h hb ds
theorem YBox.cells (h : YBox w wr p k g D K C) : wr.cell? ⟨w.heap.size, 0, none⟩ = some (.int .i64 p) ∧ wr.cell? ⟨w.heap.size, 1, none⟩ = some (.int .i64 k) ∧ wr.cell? ⟨w.heap.size, 2, none⟩ = some (.int .i64 g) ∧ wr.cell? ⟨w.heap.size, 3, none⟩ = some (.int .i64 D) ∧ wr.cell? ⟨w.heap.size, 4, none⟩ = some (.int .i64 K) ∧ wr.cell? ⟨w.heap.size, 5, none⟩ = some (.int .i64 C) :=
  ⟨Bxd.cell h rfl, Bxd.cell h rfl, Bxd.cell h rfl, Bxd.cell h rfl, Bxd.cell h rfl, Bxd.cell h rfl⟩
end

theorem quoN (D C : Nat) : (D : Int).tdiv (C : Int) = ((D / C : Nat) : Int) := by rw [Int.tdiv_eq_ediv_of_nonneg (by omega)]; rfl
theorem remN (D C : Nat) : (D : Int).tmod (C : Int) = ((D % C : Nat) : Int) := by rw [Int.tmod_eq_emod_of_nonneg (by omega)]; rfl

set_option maxRecDepth 100000 in
set_option maxHeartbeats 2000000 in
theorem implDataLen (p k g K : Int) (D C b : Nat) (hC : 1 ≤ C) (hC2 : C ≤ 9223372036854775807) (hD : D ≤ 9223372036854775807) (hb : b < C) (w : World) :
    Calls Tryz.prog 108 #[.agg #[.int .i64 p, .int .i64 k, .int .i64 g, .int .i64 D, .int .i64 K, .int .i64 C], .int .i64 b] w (Gives (.int .i64 (lsz D C b : Nat)) w) := by
  have HX := hide (YBox.start w p k g D K C)
  obtain ⟨c0, c1, c2, c3, c4, c5⟩ := HX.out.cells
  have hq := quoN D C
  have hr := remN D C
  have hrC : D % C < C := Nat.mod_lt _ hC
  have hqD : D / C ≤ D := Nat.div_le_self _ _
  obtain ⟨q, hq'⟩ : ∃ q, D / C = q := ⟨_, rfl⟩
  obtain ⟨r, hr'⟩ : ∃ r, D % C = r := ⟨_, rfl⟩
  rw [hq'] at hq hqD
  rw [hr'] at hr hrC
  have hqs : C - r ≤ b → (q : Int) + 1 ≤ 9223372036854775807 := fun h => by
    have h1 : C * q ≤ D := by rw [← hq']; exact Nat.mul_div_le D C
    have h2 : 2 * q ≤ C * q := Nat.mul_le_mul_right q (by omega)
    omega
  obtain ⟨X, hX⟩ : ∃ X : Int, X = (D : Int) := ⟨_, rfl⟩
  obtain ⟨Y, hY⟩ : ∃ Y : Int, Y = (C : Int) := ⟨_, rfl⟩
  have hY0 : Y ≠ 0 := by omega
  have hw0 : IntKind.i64.wrap (q : Int) = (q : Int) := IntWalk.i64_in _ ⟨by omega, by omega⟩
  have hw1 : IntKind.i64.wrap (r : Int) = (r : Int) := IntWalk.i64_in _ ⟨by omega, by omega⟩
  have hw2 : IntKind.i64.wrap (Y - (r : Int)) = ((C - r : Nat) : Int) := by rw [IntWalk.i64_in _ ⟨by omega, by omega⟩]; omega
  rw [← hX, ← hY] at HX
  rw [← hX] at c3
  rw [← hY] at c5
  rw [← hX, ← hY] at hq hr
  rw [← hX, ← hY]
  by_cases hlt : C - r ≤ b
  · have z1 : C - r ≤ b := hlt
    have hw3 : IntKind.i64.wrap ((q : Int) + 1) = (q : Int) + 1 := IntWalk.i64_in _ ⟨by omega, hqs hlt⟩
    have HF := hide (show ((lsz D C b : Nat) : Int) = (q : Int) + 1 by rw [lsz_long (by rw [hr']; exact hlt), hq']; rfl)
    generalize C - r = s at hw2 z1
    clear hX hY hq' hr' hqs hlt hrC hqD hC hC2 hD hb
    go_enter Tryz.func108, Tryz.ntmps108
    go_wp2_with fail
    go_quiet (fail)
    go_wp2_with fail
    go_ret
    exact ⟨ret_int HF.out, (HX.out.drewN _).2⟩
  · have z1 : ¬ C - r ≤ b := hlt
    have HF := hide (show ((lsz D C b : Nat) : Int) = (q : Int) by rw [lsz_short (by rw [hr']; omega), hq'])
    generalize C - r = s at hw2 z1
    clear hX hY hq' hr' hqs hlt hrC hqD hC hC2 hD hb
    go_enter Tryz.func108, Tryz.ntmps108
    go_wp2_with fail
    go_quiet (fail)
    go_wp2_with fail
    go_ret
    exact ⟨ret_int HF.out, (HX.out.drewN _).2⟩
end Go.Proofs.YtncgeoliboidhaaGreat

namespace Go.Proofs.YtncgeoliboidhaaGreat
open Go.RowKit
set_option linter.unusedSimpArgs false
set_option linter.unusedVariables false

set_option maxRecDepth 100000 in
set_option maxHeartbeats 2000000 in
theorem specSize7 (p k g K : Int) (D C b : Nat) (hC : 1 ≤ C) (hC2 : C ≤ 9223372036854775807) (hD : D ≤ 9223372036854775807) (hb : b < C) (w : World) :
    Calls Tryz.prog 140 #[.agg #[.int .i64 p, .int .i64 k, .int .i64 g, .int .i64 D, .int .i64 K, .int .i64 C], .int .i64 b] w (Gives (.int .i64 (lsz D C b : Nat)) w) := by
  have HX := hide (YBox.start w p k g D K C)
  obtain ⟨c0, c1, c2, c3, c4, c5⟩ := HX.out.cells
  have hq := quoN D C
  have hr := remN D C
  have hrC : D % C < C := Nat.mod_lt _ hC
  have hqD : D / C ≤ D := Nat.div_le_self _ _
  obtain ⟨q, hq'⟩ : ∃ q, D / C = q := ⟨_, rfl⟩
  obtain ⟨r, hr'⟩ : ∃ r, D % C = r := ⟨_, rfl⟩
  rw [hq'] at hq hqD
  rw [hr'] at hr hrC
  have hqs : C - r ≤ b → (q : Int) + 1 ≤ 9223372036854775807 := fun h => by
    have h1 : C * q ≤ D := by rw [← hq']; exact Nat.mul_div_le D C
    have h2 : 2 * q ≤ C * q := Nat.mul_le_mul_right q (by omega)
    omega
  obtain ⟨X, hX⟩ : ∃ X : Int, X = (D : Int) := ⟨_, rfl⟩
  obtain ⟨Y, hY⟩ : ∃ Y : Int, Y = (C : Int) := ⟨_, rfl⟩
  have hY0 : Y ≠ 0 := by omega
  have hw0 : IntKind.i64.wrap (q : Int) = (q : Int) := IntWalk.i64_in _ ⟨by omega, by omega⟩
  have hw1 : IntKind.i64.wrap (r : Int) = (r : Int) := IntWalk.i64_in _ ⟨by omega, by omega⟩
  have hw2 : IntKind.i64.wrap (Y - (r : Int)) = ((C - r : Nat) : Int) := by rw [IntWalk.i64_in _ ⟨by omega, by omega⟩]; omega
  rw [← hX, ← hY] at HX
  rw [← hX] at c3
  rw [← hY] at c5
  rw [← hX, ← hY] at hq hr
  rw [← hX, ← hY]
  by_cases hlt : C - r ≤ b
  · have z1 : C - r ≤ b := hlt
    have hw3 : IntKind.i64.wrap ((q : Int) + 1) = (q : Int) + 1 := IntWalk.i64_in _ ⟨by omega, hqs hlt⟩
    have HF := hide (show ((lsz D C b : Nat) : Int) = (q : Int) + 1 by rw [lsz_long (by rw [hr']; exact hlt), hq']; rfl)
    generalize C - r = s at hw2 z1
    clear hX hY hq' hr' hqs hlt hrC hqD hC hC2 hD hb
    go_enter Tryz.func140, Tryz.ntmps140
    go_wp2_with fail
    go_quiet (fail)
    go_wp2_with fail
    go_ret
    exact ⟨ret_int HF.out, (HX.out.drewN _).2⟩
  · have z1 : ¬ C - r ≤ b := hlt
    have HF := hide (show ((lsz D C b : Nat) : Int) = (q : Int) by rw [lsz_short (by rw [hr']; omega), hq'])
    generalize C - r = s at hw2 z1
    clear hX hY hq' hr' hqs hlt hrC hqD hC hC2 hD hb
    go_enter Tryz.func140, Tryz.ntmps140
    go_wp2_with fail
    go_quiet (fail)
    go_wp2_with fail
    go_ret
    exact ⟨ret_int HF.out, (HX.out.drewN _).2⟩
theorem implDataLenZ (p k g K : Int) (D C b : Nat) (Z : Int) (hZ : Z = (b : Nat)) (hC : 1 ≤ C) (hC2 : C ≤ 9223372036854775807) (hD : D ≤ 9223372036854775807) (hb : b < C) (w : World) :
    Calls Tryz.prog 108 #[.agg #[.int .i64 p, .int .i64 k, .int .i64 g, .int .i64 D, .int .i64 K, .int .i64 C], .int .i64 Z] w (Gives (.int .i64 (lsz D C b : Nat)) w) := by
  subst hZ
  exact implDataLen p k g K D C b hC hC2 hD hb w
theorem specSizeZ (p k g K : Int) (D C b : Nat) (Z : Int) (hZ : Z = (b : Nat)) (hC : 1 ≤ C) (hC2 : C ≤ 9223372036854775807) (hD : D ≤ 9223372036854775807) (hb : b < C) (w : World) :
    Calls Tryz.prog 140 #[.agg #[.int .i64 p, .int .i64 k, .int .i64 g, .int .i64 D, .int .i64 K, .int .i64 C], .int .i64 Z] w (Gives (.int .i64 (lsz D C b : Nat)) w) := by
  subst hZ
  exact specSize7 p k g K D C b hC hC2 hD hb w

/-- The six cells of a layout and the row of a code that is being made. -/
def Cells6 (w : World) (b : Nat) (p k g D K C : Int) : Prop :=
  w.cell? ⟨b, 0, none⟩ = some (.int .i64 p) ∧ w.cell? ⟨b, 1, none⟩ = some (.int .i64 k) ∧ w.cell? ⟨b, 2, none⟩ = some (.int .i64 g) ∧ w.cell? ⟨b, 3, none⟩ = some (.int .i64 D) ∧ w.cell? ⟨b, 4, none⟩ = some (.int .i64 K) ∧ w.cell? ⟨b, 5, none⟩ = some (.int .i64 C)
theorem row5z {w : World} {b : Nat} {x0 x1 x2 x3 x4 : Value} {t : TypeId} (h : w.heap[b]? = some (.cells #[x0, x1, x2, x3, x4] t (0, 0))) :
    w.frozen? ⟨b, 0, none⟩ = false ∧ w.frozen? ⟨b, 1, none⟩ = false ∧ w.frozen? ⟨b, 2, none⟩ = false ∧ w.frozen? ⟨b, 3, none⟩ = false ∧ w.frozen? ⟨b, 4, none⟩ = false ∧ w.cell? ⟨b, 0, none⟩ = some x0 ∧ w.cell? ⟨b, 1, none⟩ = some x1 ∧ w.cell? ⟨b, 2, none⟩ = some x2 ∧ w.cell? ⟨b, 3, none⟩ = some x3 ∧ w.cell? ⟨b, 4, none⟩ = some x4 :=
  ⟨frozen_of_row w b 0 _ _ h, frozen_of_row w b 1 _ _ h, frozen_of_row w b 2 _ _ h, frozen_of_row w b 3 _ _ h, frozen_of_row w b 4 _ _ h, cell_of_row w b 0 _ _ _ h, cell_of_row w b 1 _ _ _ h, cell_of_row w b 2 _ _ _ h, cell_of_row w b 3 _ _ _ h, cell_of_row w b 4 _ _ _ h⟩

set_option maxRecDepth 100000 in
set_option maxHeartbeats 2000000 in
theorem implLayCode (p k g K : Int) (D C b : Nat) (Z : Int) (hZ : Z = (b : Nat)) (hC : 1 ≤ C) (hC2 : C ≤ 9223372036854775807) (hD : D ≤ 9223372036854775807) (hb : b < C) (w : World) :
    Calls Tryz.prog 64 #[.agg #[.int .i64 p, .int .i64 k, .int .i64 g, .int .i64 D, .int .i64 K, .int .i64 C], .int .i64 Z] w (Gives (.agg #[.int .i64 p, .int .i64 k, .int .i64 g, .int .i64 (IntKind.i64.wrap ((lsz D C b : Nat) + K)), .int .i64 K]) w) := by
  have HX := hide (YBox.alloc (YBox.start w p k g D K C) (.cells #[.int .i64 0, .int .i64 0, .int .i64 0, .int .i64 0, .int .i64 0] 91))
  have hr0 := heap_alloc_new (w.alloc (.cells #[.int .i64 p, .int .i64 k, .int .i64 g, .int .i64 D, .int .i64 K, .int .i64 C] 35)) (.cells #[.int .i64 0, .int .i64 0, .int .i64 0, .int .i64 0, .int .i64 0] 91)
  rw [alloc_size] at hr0
  have HR := hide hr0
  have hLV : ∃ L : Int, IntKind.i64.wrap ((lsz D C b : Nat) + K) = L := ⟨_, rfl⟩
  obtain ⟨L, hL⟩ := hLV
  rw [hL]
  have HCON := hide (fun w' => implDataLenZ p k g K D C b Z hZ hC hC2 hD hb w')
  generalize lsz D C b = s at hL HCON
  clear hr0 hZ hC hC2 hD hb
  go_enter Tryz.func64, Tryz.ntmps64
  go_wp2_with fail
  refine tail_begin (fun w' => Cells6 w' w.heap.size p k g D K C ∧ w'.heap[w.heap.size + 1]? = some (.cells #[.int .i64 0, .int .i64 0, .int .i64 0, .int .i64 0, .int .i64 0] 91 (0, 0))) 11 (by kernel_rfl) ⟨HX.out.drew.cells, HR.out⟩ (fun hS' => ?_)
  refine tail_take 0 rfl (by kernel_rfl) (by kernel_rfl) (by kernel_rfl) (by kernel_rfl) (fun _ _ _ h => h) (by rfl) (v := ?_) ?_ (by assumption) ?_
  rotate_left 1
  · intro w' hS'; obtain ⟨⟨c0, c1, c2, c3, c4, c5⟩, _⟩ := hS'; go_simp; try with_reducible rfl
  try simp only [Act.put, List.setIfInBounds_toArray, List.set_cons_zero, List.set_cons_succ]
  refine tail_take 1 rfl (by kernel_rfl) (by kernel_rfl) (by kernel_rfl) (by kernel_rfl) (fun _ _ _ h => h) (by rfl) (v := ?_) ?_ (by assumption) ?_
  rotate_left 1
  · intro w' hS'; obtain ⟨⟨c0, c1, c2, c3, c4, c5⟩, _⟩ := hS'; go_simp; try with_reducible rfl
  try simp only [Act.put, List.setIfInBounds_toArray, List.set_cons_zero, List.set_cons_succ]
  refine tail_take 2 rfl (by kernel_rfl) (by kernel_rfl) (by kernel_rfl) (by kernel_rfl) (fun _ _ _ h => h) (by rfl) (v := ?_) ?_ (by assumption) ?_
  rotate_left 1
  · intro w' hS'; obtain ⟨⟨c0, c1, c2, c3, c4, c5⟩, _⟩ := hS'; go_simp; try with_reducible rfl
  try simp only [Act.put, List.setIfInBounds_toArray, List.set_cons_zero, List.set_cons_succ]
  refine tail_take 3 rfl (by kernel_rfl) (by kernel_rfl) (by kernel_rfl) (by kernel_rfl) (fun _ _ _ h => h) (by rfl) (v := ?_) ?_ (by assumption) ?_
  rotate_left 1
  · intro w' hS'; obtain ⟨⟨c0, c1, c2, c3, c4, c5⟩, _⟩ := hS'; go_simp; try with_reducible rfl
  try simp only [Act.put, List.setIfInBounds_toArray, List.set_cons_zero, List.set_cons_succ]
  refine tail_take 5 rfl (by kernel_rfl) (by kernel_rfl) (by kernel_rfl) (by kernel_rfl) (fun _ _ _ h => h) (by rfl) (v := ?_) ?_ (by assumption) ?_
  rotate_left 1
  · intro w' hS'; obtain ⟨⟨c0, c1, c2, c3, c4, c5⟩, _⟩ := hS'; go_simp; try with_reducible rfl
  try simp only [Act.put, List.setIfInBounds_toArray, List.set_cons_zero, List.set_cons_succ]
  refine tail_take 6 rfl (by kernel_rfl) (by kernel_rfl) (by kernel_rfl) (by kernel_rfl) (fun _ _ _ h => h) (by rfl) (v := ?_) ?_ (by assumption) ?_
  rotate_left 1
  · intro w' hS'; obtain ⟨⟨c0, c1, c2, c3, c4, c5⟩, _⟩ := hS'; go_simp; try with_reducible rfl
  try simp only [Act.put, List.setIfInBounds_toArray, List.set_cons_zero, List.set_cons_succ]
  refine tail_take 8 rfl (by kernel_rfl) (by kernel_rfl) (by kernel_rfl) (by kernel_rfl) (fun _ _ _ h => h) (by rfl) (v := ?_) ?_ (by assumption) ?_
  rotate_left 1
  · intro w' hS'; obtain ⟨⟨c0, c1, c2, c3, c4, c5⟩, _⟩ := hS'; go_simp; try with_reducible rfl
  try simp only [Act.put, List.setIfInBounds_toArray, List.set_cons_zero, List.set_cons_succ]
  refine tail_take 9 rfl (by kernel_rfl) (by kernel_rfl) (by kernel_rfl) (by kernel_rfl) (fun _ _ _ h => h) (by rfl) (v := ?_) ?_ (by assumption) ?_
  rotate_left 1
  · intro w' hS'; obtain ⟨⟨c0, c1, c2, c3, c4, c5⟩, _⟩ := hS'; go_simp; try with_reducible rfl
  try simp only [Act.put, List.setIfInBounds_toArray, List.set_cons_zero, List.set_cons_succ]
  refine tail_call 4 rfl (by kernel_rfl) rfl (fun K hK => ?_)
  go_simp
  go_at_call 108; refine (HCON.out _).mono ?_; rintro e w2 ⟨rfl, hb⟩; have HX2 := hide (HX.out.drew.next hb); have HR2 := hide ((hb.block _ (Array.getElem?_eq_some_iff.1 HR.out).1).trans HR.out); clear hb
  refine hK.out _ _ (by (try dsimp only); exact ⟨HX2.out.cells, HR2.out⟩) (fun hS' => ?_)
  clear hK K
  try simp only [Act.put, List.setIfInBounds_toArray, List.set_cons_zero, List.set_cons_succ]
  clear HX HR
  refine tail_take 7 rfl (by kernel_rfl) (by kernel_rfl) (by kernel_rfl) (by kernel_rfl) (fun _ _ _ h => h) (by rfl) (v := ?_) ?_ (by assumption) ?_
  rotate_left 1
  · intro w' hS'; obtain ⟨⟨c0, c1, c2, c3, c4, c5⟩, _⟩ := hS'; go_simp; try with_reducible rfl
  try simp only [Act.put, List.setIfInBounds_toArray, List.set_cons_zero, List.set_cons_succ]
  refine tail_take 10 rfl (by kernel_rfl) (by kernel_rfl) (by kernel_rfl) (by kernel_rfl) (fun _ _ _ h => h) (by rfl) (v := ?_) ?_ (by assumption) ?_
  rotate_left 1
  · intro w' hS'; obtain ⟨⟨c0, c1, c2, c3, c4, c5⟩, _⟩ := hS'; go_simp; try with_reducible rfl
  try simp only [Act.put, List.setIfInBounds_toArray, List.set_cons_zero, List.set_cons_succ]
  obtain ⟨f0, f1, f2, f3, f4, z0, z1, z2, z3, z4⟩ := row5z HR2.out
  refine tail_last 11 rfl (by kernel_rfl) (by kernel_rfl) rfl rfl (fun K hK => ?_)
  go_simp
  refine hK.out _ _ ?_
  clear hK K
  try simp only [Act.put, List.setIfInBounds_toArray, List.set_cons_zero, List.set_cons_succ]
  go_wp2_with fail
  refine bodyPost_ret (v := .agg #[.int .i64 p, .int .i64 k, .int .i64 g, .int .i64 L, .int .i64 K]) (by simp [results, Tryz.results64, go_sem, z0, z1, z2, z3, z4, hL]) rfl ⟨rfl, ?_⟩
  have q1 : w.heap.size ≤ w.heap.size + 1 := Nat.le_succ _
  repeat (with_reducible refine Below.setCell ?_ q1 _)
  exact HX2.out.2

set_option maxRecDepth 100000 in
set_option maxHeartbeats 2000000 in
theorem specBlock (p k g K : Int) (D C b : Nat) (Z : Int) (hZ : Z = (b : Nat)) (hC : 1 ≤ C) (hC2 : C ≤ 9223372036854775807) (hD : D ≤ 9223372036854775807) (hb : b < C) (w : World) :
    Calls Tryz.prog 113 #[.agg #[.int .i64 p, .int .i64 k, .int .i64 g, .int .i64 D, .int .i64 K, .int .i64 C], .int .i64 Z] w (Gives (.agg #[.int .i64 p, .int .i64 k, .int .i64 g, .int .i64 (IntKind.i64.wrap ((lsz D C b : Nat) + K)), .int .i64 K]) w) := by
  have HX := hide (YBox.alloc (YBox.start w p k g D K C) (.cells #[.int .i64 0, .int .i64 0, .int .i64 0, .int .i64 0, .int .i64 0] 91))
  have hr0 := heap_alloc_new (w.alloc (.cells #[.int .i64 p, .int .i64 k, .int .i64 g, .int .i64 D, .int .i64 K, .int .i64 C] 35)) (.cells #[.int .i64 0, .int .i64 0, .int .i64 0, .int .i64 0, .int .i64 0] 91)
  rw [alloc_size] at hr0
  have HR := hide hr0
  have hLV : ∃ L : Int, IntKind.i64.wrap ((lsz D C b : Nat) + K) = L := ⟨_, rfl⟩
  obtain ⟨L, hL⟩ := hLV
  rw [hL]
  have HCON := hide (fun w' => specSizeZ p k g K D C b Z hZ hC hC2 hD hb w')
  generalize lsz D C b = s at hL HCON
  clear hr0 hZ hC hC2 hD hb
  go_enter Tryz.func113, Tryz.ntmps113
  go_wp2_with fail
  refine tail_begin (fun w' => Cells6 w' w.heap.size p k g D K C ∧ w'.heap[w.heap.size + 1]? = some (.cells #[.int .i64 0, .int .i64 0, .int .i64 0, .int .i64 0, .int .i64 0] 91 (0, 0))) 11 (by kernel_rfl) ⟨HX.out.drew.cells, HR.out⟩ (fun hS' => ?_)
  refine tail_take 0 rfl (by kernel_rfl) (by kernel_rfl) (by kernel_rfl) (by kernel_rfl) (fun _ _ _ h => h) (by rfl) (v := ?_) ?_ (by assumption) ?_
  rotate_left 1
  · intro w' hS'; obtain ⟨⟨c0, c1, c2, c3, c4, c5⟩, _⟩ := hS'; go_simp; try with_reducible rfl
  try simp only [Act.put, List.setIfInBounds_toArray, List.set_cons_zero, List.set_cons_succ]
  refine tail_take 1 rfl (by kernel_rfl) (by kernel_rfl) (by kernel_rfl) (by kernel_rfl) (fun _ _ _ h => h) (by rfl) (v := ?_) ?_ (by assumption) ?_
  rotate_left 1
  · intro w' hS'; obtain ⟨⟨c0, c1, c2, c3, c4, c5⟩, _⟩ := hS'; go_simp; try with_reducible rfl
  try simp only [Act.put, List.setIfInBounds_toArray, List.set_cons_zero, List.set_cons_succ]
  refine tail_take 2 rfl (by kernel_rfl) (by kernel_rfl) (by kernel_rfl) (by kernel_rfl) (fun _ _ _ h => h) (by rfl) (v := ?_) ?_ (by assumption) ?_
  rotate_left 1
  · intro w' hS'; obtain ⟨⟨c0, c1, c2, c3, c4, c5⟩, _⟩ := hS'; go_simp; try with_reducible rfl
  try simp only [Act.put, List.setIfInBounds_toArray, List.set_cons_zero, List.set_cons_succ]
  refine tail_take 3 rfl (by kernel_rfl) (by kernel_rfl) (by kernel_rfl) (by kernel_rfl) (fun _ _ _ h => h) (by rfl) (v := ?_) ?_ (by assumption) ?_
  rotate_left 1
  · intro w' hS'; obtain ⟨⟨c0, c1, c2, c3, c4, c5⟩, _⟩ := hS'; go_simp; try with_reducible rfl
  try simp only [Act.put, List.setIfInBounds_toArray, List.set_cons_zero, List.set_cons_succ]
  refine tail_take 5 rfl (by kernel_rfl) (by kernel_rfl) (by kernel_rfl) (by kernel_rfl) (fun _ _ _ h => h) (by rfl) (v := ?_) ?_ (by assumption) ?_
  rotate_left 1
  · intro w' hS'; obtain ⟨⟨c0, c1, c2, c3, c4, c5⟩, _⟩ := hS'; go_simp; try with_reducible rfl
  try simp only [Act.put, List.setIfInBounds_toArray, List.set_cons_zero, List.set_cons_succ]
  refine tail_take 6 rfl (by kernel_rfl) (by kernel_rfl) (by kernel_rfl) (by kernel_rfl) (fun _ _ _ h => h) (by rfl) (v := ?_) ?_ (by assumption) ?_
  rotate_left 1
  · intro w' hS'; obtain ⟨⟨c0, c1, c2, c3, c4, c5⟩, _⟩ := hS'; go_simp; try with_reducible rfl
  try simp only [Act.put, List.setIfInBounds_toArray, List.set_cons_zero, List.set_cons_succ]
  refine tail_take 8 rfl (by kernel_rfl) (by kernel_rfl) (by kernel_rfl) (by kernel_rfl) (fun _ _ _ h => h) (by rfl) (v := ?_) ?_ (by assumption) ?_
  rotate_left 1
  · intro w' hS'; obtain ⟨⟨c0, c1, c2, c3, c4, c5⟩, _⟩ := hS'; go_simp; try with_reducible rfl
  try simp only [Act.put, List.setIfInBounds_toArray, List.set_cons_zero, List.set_cons_succ]
  refine tail_take 9 rfl (by kernel_rfl) (by kernel_rfl) (by kernel_rfl) (by kernel_rfl) (fun _ _ _ h => h) (by rfl) (v := ?_) ?_ (by assumption) ?_
  rotate_left 1
  · intro w' hS'; obtain ⟨⟨c0, c1, c2, c3, c4, c5⟩, _⟩ := hS'; go_simp; try with_reducible rfl
  try simp only [Act.put, List.setIfInBounds_toArray, List.set_cons_zero, List.set_cons_succ]
  refine tail_call 4 rfl (by kernel_rfl) rfl (fun K hK => ?_)
  go_simp
  go_at_call 140; refine (HCON.out _).mono ?_; rintro e w2 ⟨rfl, hb⟩; have HX2 := hide (HX.out.drew.next hb); have HR2 := hide ((hb.block _ (Array.getElem?_eq_some_iff.1 HR.out).1).trans HR.out); clear hb
  refine hK.out _ _ (by (try dsimp only); exact ⟨HX2.out.cells, HR2.out⟩) (fun hS' => ?_)
  clear hK K
  try simp only [Act.put, List.setIfInBounds_toArray, List.set_cons_zero, List.set_cons_succ]
  clear HX HR
  refine tail_take 7 rfl (by kernel_rfl) (by kernel_rfl) (by kernel_rfl) (by kernel_rfl) (fun _ _ _ h => h) (by rfl) (v := ?_) ?_ (by assumption) ?_
  rotate_left 1
  · intro w' hS'; obtain ⟨⟨c0, c1, c2, c3, c4, c5⟩, _⟩ := hS'; go_simp; try with_reducible rfl
  try simp only [Act.put, List.setIfInBounds_toArray, List.set_cons_zero, List.set_cons_succ]
  refine tail_take 10 rfl (by kernel_rfl) (by kernel_rfl) (by kernel_rfl) (by kernel_rfl) (fun _ _ _ h => h) (by rfl) (v := ?_) ?_ (by assumption) ?_
  rotate_left 1
  · intro w' hS'; obtain ⟨⟨c0, c1, c2, c3, c4, c5⟩, _⟩ := hS'; go_simp; try with_reducible rfl
  try simp only [Act.put, List.setIfInBounds_toArray, List.set_cons_zero, List.set_cons_succ]
  obtain ⟨f0, f1, f2, f3, f4, z0, z1, z2, z3, z4⟩ := row5z HR2.out
  refine tail_last 11 rfl (by kernel_rfl) (by kernel_rfl) rfl rfl (fun K hK => ?_)
  go_simp
  refine hK.out _ _ ?_
  clear hK K
  try simp only [Act.put, List.setIfInBounds_toArray, List.set_cons_zero, List.set_cons_succ]
  go_wp2_with fail
  refine bodyPost_ret (v := .agg #[.int .i64 p, .int .i64 k, .int .i64 g, .int .i64 L, .int .i64 K]) (by simp [results, Tryz.results113, go_sem, z0, z1, z2, z3, z4, hL]) rfl ⟨rfl, ?_⟩
  have q1 : w.heap.size ≤ w.heap.size + 1 := Nat.le_succ _
  repeat (with_reducible refine Below.setCell ?_ q1 _)
  exact HX2.out.2

set_option maxRecDepth 100000 in
set_option maxHeartbeats 2000000 in
theorem implStreamLen (p k g D K C N : Int) (h : IntKind.i64.wrap (D + IntKind.i64.wrap (C * K)) = N) (w : World) :
    Calls Tryz.prog 66 #[.agg #[.int .i64 p, .int .i64 k, .int .i64 g, .int .i64 D, .int .i64 K, .int .i64 C]] w (Gives (.int .i64 N) w) := by
  have HX := hide (YBox.start w p k g D K C)
  obtain ⟨c0, c1, c2, c3, c4, c5⟩ := HX.out.cells
  obtain ⟨M, hM⟩ : ∃ M, IntKind.i64.wrap (C * K) = M := ⟨_, rfl⟩
  rw [hM] at h
  go_enter Tryz.func66, Tryz.ntmps66
  go_wp2_with fail
  go_ret
  exact ⟨ret_int (by rw [← h, ← hM]), HX.out.2⟩

end Go.Proofs.YtncgeoliboidhaaGreat

namespace Go.Proofs.YtncgeoliboidhaaGreat
open Go.RowKit
set_option linter.unusedSimpArgs false
set_option linter.unusedVariables false

theorem lsz_last {D C b : Nat} (hb : b < C) : lsz D C b ≤ lsz D C (C - 1) := by
  rcases Nat.lt_or_ge b (C - D % C) with h | h
  · rw [lsz_short h]; exact lsz_ge D C _
  · rw [lsz_long h, lsz_long (show C - D % C ≤ C - 1 by omega)]; exact Nat.le_refl _
theorem lsz_one {D C b : Nat} (hC : 1 ≤ C) (h : C ≤ D) : 1 ≤ lsz D C b := Nat.le_trans (Nat.div_pos h hC) (lsz_ge D C b)
theorem lsz_total {D C : Nat} (hC : 1 ≤ C) : D ≤ C * lsz D C (C - 1) := by
  have h1 := dm D C
  have h2 := Nat.mod_lt D hC
  by_cases h : D % C = 0
  · rw [Nat.mul_comm]
    have := Nat.mul_le_mul_right C (lsz_ge D C (C - 1))
    omega
  · rw [lsz_long (show C - D % C ≤ C - 1 by omega), Nat.mul_add, Nat.mul_one, Nat.mul_comm C]
    omega

/-- Whether a layout is valid, by its numbers. -/
def layB (p k g D K C : Int) : Bool := decide (1 ≤ C ∧ C ≤ 16 ∧ C ≤ D ∧ D ≤ 1500 ∧ 1 ≤ K ∧ K ≤ 64 ∧ D + C * K ≤ 1500) && codeB p k g ((lsz D.toNat C.toNat (C.toNat - 1) : Nat) + K) K
/-- A valid layout: its field, its generator, its numbers. -/
structure LayIs (R : Fld) (γ : El R) (p k g : Int) (D K C : Nat) : Prop where
  c1 : 1 ≤ C
  c16 : C ≤ 16
  cd : C ≤ D
  tot : D + C * K ≤ 1500
  code : ∀ b, b < C → CodeIs R γ p k g (lsz D C b + K) K
theorem LayIs.k1 {R : Fld} {γ : El R} {p k g : Int} {D K C : Nat} (h : LayIs R γ p k g D K C) : 1 ≤ K ∧ K ≤ 64 := ⟨(h.code 0 h.c1).c1, (h.code 0 h.c1).c64⟩
theorem LayIs.fld {R : Fld} {γ : El R} {p k g : Int} {D K C : Nat} (h : LayIs R γ p k g D K C) : FldIs R p k g := (h.code 0 h.c1).fld
theorem LayIs.d1500 {R : Fld} {γ : El R} {p k g : Int} {D K C : Nat} (h : LayIs R γ p k g D K C) : D ≤ 1500 := Nat.le_trans (Nat.le_add_right _ _) h.tot
theorem layB_open {p k g D K C : Int} (h : layB p k g D K C = true) : ∃ (R : Fld) (γ : El R) (d c m : Nat), D = d ∧ K = c ∧ C = m ∧ LayIs R γ p k g d c m := by
  rw [layB, Bool.and_eq_true, decide_eq_true_eq] at h
  obtain ⟨⟨h1, h2, h3, h4, h5, h6, h7⟩, hc⟩ := h
  obtain ⟨d, rfl⟩ : ∃ d : Nat, D = d := ⟨D.toNat, by omega⟩
  obtain ⟨c, rfl⟩ : ∃ c : Nat, K = c := ⟨K.toNat, by omega⟩
  obtain ⟨m, rfl⟩ : ∃ m : Nat, C = m := ⟨C.toNat, by omega⟩
  simp only [Int.toNat_natCast] at hc
  obtain ⟨R, γ, l, c', hl, hc', hI⟩ := codeB_open hc
  have e1 : l = lsz d m (m - 1) + c := by omega
  have e2 : c' = c := by omega
  subst e1 e2
  refine ⟨R, γ, d, c', m, rfl, rfl, rfl, by omega, by omega, by omega, by have e : ((m * c' : Nat) : Int) = (m : Int) * (c' : Int) := Int.natCast_mul m c'; omega, fun b hb => ?_⟩
  have a1 := lsz_last (D := d) hb
  have a2 := lsz_one (D := d) (b := b) (show 1 ≤ m by omega) (by omega)
  have := hI.cl; have := hI.l255; have := hI.lq
  exact ⟨hI.fld, hI.ok, hI.gval, hI.ggen, hI.c1, hI.c64, by omega, by omega, by omega⟩
theorem layB_is {R : Fld} {γ : El R} {p k g : Int} {D K C : Nat} (h : LayIs R γ p k g D K C) : layB p k g D K C = true := by
  rw [layB, Bool.and_eq_true, decide_eq_true_eq]
  have a1 := h.c1; have a2 := h.c16; have a3 := h.cd; have a4 := h.tot; have a5 := h.k1; have a6 := h.d1500
  refine ⟨⟨by omega, by omega, by omega, by omega, by omega, by omega, by have e : ((C * K : Nat) : Int) = (C : Int) * (K : Int) := Int.natCast_mul C K; omega⟩, ?_⟩
  simp only [Int.toNat_natCast]
  exact codeB_is (h.code (C - 1) (by omega))
theorem layB_no {p k g D K C : Int} (h : ¬ (1 ≤ C ∧ C ≤ 16 ∧ C ≤ D ∧ D ≤ 1500 ∧ 1 ≤ K ∧ K ≤ 64 ∧ D + C * K ≤ 1500)) : layB p k g D K C = false := by
  rw [layB, Bool.and_eq_false_iff]; left
  rw [decide_eq_false_iff_not]; exact h
theorem layB_yes {p k g D K C : Int} (h : 1 ≤ C ∧ C ≤ 16 ∧ C ≤ D ∧ D ≤ 1500 ∧ 1 ≤ K ∧ K ≤ 64 ∧ D + C * K ≤ 1500) : layB p k g D K C = codeB p k g ((lsz D.toNat C.toNat (C.toNat - 1) : Nat) + K) K := by
  rw [layB, decide_eq_true h, Bool.true_and]
theorem codeB_bd {p k g L C : Int} (h : codeB p k g L C = true) : 1 ≤ C ∧ C ≤ 64 ∧ C < L ∧ L ≤ 255 := by
  simp only [codeB, Bool.and_eq_true, decide_eq_true_eq] at h
  omega
/-- The program asks the code of the last block first. -/
theorem layB_cno {p k g K : Int} {d m : Nat} (h : codeB p k g (IntKind.i64.wrap ((lsz d m (m - 1) : Nat) + K)) K = false) : layB p k g d K m = false := by
  by_cases hh : 1 ≤ (m : Int) ∧ (m : Int) ≤ 16 ∧ (m : Int) ≤ d ∧ (d : Int) ≤ 1500 ∧ 1 ≤ K ∧ K ≤ 64 ∧ (d : Int) + m * K ≤ 1500
  · rw [layB_yes hh]
    simp only [Int.toNat_natCast]
    have a1 := lsz_le d m (m - 1)
    have a2 := Nat.div_le_self d m
    rw [IntWalk.i64_in _ ⟨by omega, by omega⟩] at h
    exact h
  · exact layB_no hh
theorem layB_cyes {p k g K : Int} {d m : Nat} (hm : 1 ≤ m) (hm2 : m ≤ 16) (hd : m ≤ d) (hd2 : d ≤ 9223372036854775807) (h : codeB p k g (IntKind.i64.wrap ((lsz d m (m - 1) : Nat) + K)) K = true) :
    layB p k g d K m = decide ((d : Int) + m * K ≤ 1500) ∧ IntKind.i64.wrap (d + IntKind.i64.wrap (m * K)) = d + m * K := by
  obtain ⟨b1, b2, b3, b4⟩ := codeB_bd h
  have a1 := lsz_le d m (m - 1)
  have a2 := Nat.div_le_self d m
  have e : IntKind.i64.wrap ((lsz d m (m - 1) : Nat) + K) = (lsz d m (m - 1) : Nat) + K := by
    rw [IntKind.wrap_i64] at b3 b4 ⊢
    omega
  rw [e] at b3 b4 h
  have a3 := lsz_total (D := d) hm
  have a4 : m * lsz d m (m - 1) ≤ 16 * 255 := Nat.mul_le_mul hm2 (by omega)
  obtain ⟨c, rfl⟩ : ∃ c : Nat, K = c := ⟨K.toNat, by omega⟩
  have a5 : m * c ≤ 16 * 64 := Nat.mul_le_mul hm2 (by omega)
  have a6 : ((m : Int) * (c : Int)) = ((m * c : Nat) : Int) := by push_cast; rfl
  refine ⟨?_, ?_⟩
  · by_cases ht : (d : Int) + m * c ≤ 1500
    · rw [decide_eq_true ht, layB_yes ⟨by omega, by omega, by omega, by rw [a6] at ht; omega, by omega, by omega, ht⟩]
      simp only [Int.toNat_natCast]
      exact h
    · rw [decide_eq_false ht]
      exact layB_no fun hh => ht hh.2.2.2.2.2.2
  · rw [a6, IntWalk.i64_in ((m * c : Nat) : Int) ⟨by omega, by omega⟩, IntWalk.i64_in _ ⟨by omega, by omega⟩]

set_option maxRecDepth 100000 in
set_option maxHeartbeats 2000000 in
theorem implLayValid (p k g D K C : Int) (w : World) (hC : -9223372036854775808 ≤ C ∧ C ≤ 9223372036854775807) (hD : -9223372036854775808 ≤ D ∧ D ≤ 9223372036854775807) :
    Calls Tryz.prog 24 #[.agg #[.int .i64 p, .int .i64 k, .int .i64 g, .int .i64 D, .int .i64 K, .int .i64 C]] w (Gives (.bool (layB p k g D K C)) w) := by
  have HX := hide (YBox.start w p k g D K C)
  obtain ⟨c0, c1, c2, c3, c4, c5⟩ := HX.out.cells
  rcases (show decide (1 ≤ C) = false ∨ (decide (1 ≤ C) = true ∧ decide (C ≤ 16) = false) ∨ (decide (1 ≤ C) = true ∧ decide (C ≤ 16) = true ∧ decide (C ≤ D) = false) ∨ (decide (1 ≤ C) = true ∧ decide (C ≤ 16) = true ∧ decide (C ≤ D) = true) by
    simp only [decide_eq_false_iff_not, decide_eq_true_eq]; omega) with h1 | ⟨h1, h2⟩ | ⟨h1, h2, h3⟩ | ⟨h1, h2, h3⟩
  rotate_left 3
  · have b1 := of_decide_eq_true h1
    have b2 := of_decide_eq_true h2
    have b3 := of_decide_eq_true h3
    obtain ⟨d, rfl⟩ : ∃ d : Nat, D = d := ⟨D.toNat, by omega⟩
    obtain ⟨m, rfl⟩ : ∃ m : Nat, C = m := ⟨C.toNat, by omega⟩
    have hw1 : IntKind.i64.wrap ((m : Int) - 1) = (m : Int) - 1 := IntWalk.i64_in _ ⟨by omega, by omega⟩
    obtain ⟨L, hL⟩ : ∃ L, IntKind.i64.wrap ((lsz d m (m - 1) : Nat) + K) = L := ⟨_, rfl⟩
    have HCO := hide (fun w' => implLayCode p k g K d m (m - 1) ((m : Int) - 1) (by omega) (by omega) (by omega) (by omega) (by omega) w')
    have HVA := hide (fun w' => implCodeValid p k g L K w')
    rw [hL] at HCO
    have b3' : m ≤ d := by omega
    rcases hv : codeB p k g L K with _ | _
    · have HF := hide (show layB p k g d K m = false from layB_cno (by rw [hL]; exact hv))
      rw [hv] at HVA
      clear hL hv b1 b2 b3 h3 hC hD
      go_enter Tryz.func24, Tryz.ntmps24
      go_wp2_with fail
      refine (HCO.out _).mono ?_
      rintro e w1 ⟨rfl, hb⟩
      have HX1 := hide (HX.out.next hb)
      clear hb c0 c1 c2 c3 c4 c5
      obtain ⟨c0, c1, c2, c3, c4, c5⟩ := HX1.out.cells
      go_wp2_with fail
      refine (HVA.out _).mono ?_
      rintro e w2 ⟨rfl, hb⟩
      have HX2 := hide (HX1.out.next hb)
      clear hb c0 c1 c2 c3 c4 c5
      obtain ⟨c0, c1, c2, c3, c4, c5⟩ := HX2.out.cells
      go_wp2_with fail
      go_ret
      exact ⟨ret_bool HF.out, HX2.out.2⟩
    · obtain ⟨hf, ht⟩ := layB_cyes (p := p) (k := k) (g := g) (K := K) (d := d) (m := m) (by omega) (by omega) b3' (by omega) (by rw [hL]; exact hv)
      obtain ⟨T, hT⟩ : ∃ T : Int, (d : Int) + m * K = T := ⟨_, rfl⟩
      rw [hT] at hf ht
      have HST := hide (fun w' => implStreamLen p k g d K m T ht w')
      rw [hv] at HVA
      have HF := hide hf
      clear hL hv b1 b2 b3 h3 hC hD hf ht hT
      rcases hz : decide (T ≤ 1500) with _ | _ <;> (
        have HZ := hide hz
        go_enter Tryz.func24, Tryz.ntmps24
        go_wp2_with fail
        refine (HCO.out _).mono ?_
        rintro e w1 ⟨rfl, hb⟩
        have HX1 := hide (HX.out.next hb)
        clear hb c0 c1 c2 c3 c4 c5
        obtain ⟨c0, c1, c2, c3, c4, c5⟩ := HX1.out.cells
        go_wp2_with fail
        refine (HVA.out _).mono ?_
        rintro e w2 ⟨rfl, hb⟩
        have HX2 := hide (HX1.out.next hb)
        clear hb c0 c1 c2 c3 c4 c5
        obtain ⟨c0, c1, c2, c3, c4, c5⟩ := HX2.out.cells
        go_wp2_with fail
        refine (HST.out _).mono ?_
        rintro e w3 ⟨rfl, hb⟩
        have HX3 := hide (HX2.out.next hb)
        clear hb c0 c1 c2 c3 c4 c5
        obtain ⟨c0, c1, c2, c3, c4, c5⟩ := HX3.out.cells
        go_wp2_with fail
        go_ret
        exact ⟨ret_bool (by rw [HF.out, HZ.out]), HX3.out.2⟩)
  all_goals
    have HF := hide (show layB p k g D K C = false from layB_no (by simp only [decide_eq_false_iff_not, decide_eq_true_eq] at *; omega))
    go_enter Tryz.func24, Tryz.ntmps24
    go_wp2_with fail
    go_ret
    exact ⟨ret_bool HF, HX.out.2⟩

set_option maxRecDepth 100000 in
set_option maxHeartbeats 4000000 in
theorem specIsLayout (p k g D K C : Int) (w : World) :
    Calls Tryz.prog 74 #[.agg #[.int .i64 p, .int .i64 k, .int .i64 g, .int .i64 D, .int .i64 K, .int .i64 C]] w (Gives (.bool (layB p k g D K C)) w) := by
  have HX := hide (YBox.start w p k g D K C)
  obtain ⟨c0, c1, c2, c3, c4, c5⟩ := HX.out.cells
  have HA := hide (fun (z lo hi : Int) (b : Bool) (h : inR z lo hi = b) (w' : World) => specIn_is z lo hi b w' h)
  by_cases h1 : 1 ≤ C ∧ C ≤ 16
  · have i1 := hide (show inR C 1 16 = true from inR_yes h1.1 h1.2)
    by_cases h2 : C ≤ D ∧ D ≤ 1500
    · have i2 := hide (show inR D C 1500 = true from inR_yes h2.1 h2.2)
      by_cases h3 : 1 ≤ K ∧ K ≤ 64
      · have i3 := hide (show inR K 1 64 = true from inR_yes h3.1 h3.2)
        obtain ⟨d, rfl⟩ : ∃ d : Nat, D = d := ⟨D.toNat, by omega⟩
        obtain ⟨m, rfl⟩ : ∃ m : Nat, C = m := ⟨C.toNat, by omega⟩
        obtain ⟨c, rfl⟩ : ∃ c : Nat, K = c := ⟨K.toNat, by omega⟩
        have hmc : m * c ≤ 16 * 64 := Nat.mul_le_mul (by omega) (by omega)
        have hcast : ((m * c : Nat) : Int) = (m : Int) * (c : Int) := Int.natCast_mul m c
        obtain ⟨t, ht⟩ : ∃ t : Nat, m * c = t := ⟨_, rfl⟩
        rw [ht] at hmc hcast
        have hw1 : IntKind.i64.wrap ((m : Int) * (c : Int)) = (t : Int) := by rw [← hcast]; exact IntWalk.i64_in _ ⟨by omega, by omega⟩
        have hw2 : IntKind.i64.wrap ((d : Int) + (t : Int)) = (d : Int) + (t : Int) := IntWalk.i64_in _ ⟨by omega, by omega⟩
        by_cases h4 : (d : Int) + t ≤ 1500
        · have hY := layB_yes (p := p) (k := k) (g := g) (show 1 ≤ (m : Int) ∧ (m : Int) ≤ 16 ∧ (m : Int) ≤ d ∧ (d : Int) ≤ 1500 ∧ 1 ≤ (c : Int) ∧ (c : Int) ≤ 64 ∧ (d : Int) + m * c ≤ 1500 from ⟨h1.1, h1.2, h2.1, h2.2, h3.1, h3.2, by rw [← hcast]; exact h4⟩)
          simp only [Int.toNat_natCast] at hY
          have a1 := lsz_le d m (m - 1)
          have a2 := Nat.div_le_self d m
          have a3 := lsz_last (D := d) (show 0 < m by omega)
          have a4 := lsz_one (D := d) (b := 0) (show 1 ≤ m by omega) (by omega)
          have hL0 : IntKind.i64.wrap ((lsz d m 0 : Nat) + (c : Int)) = (lsz d m 0 : Nat) + (c : Int) := IntWalk.i64_in _ ⟨by omega, by omega⟩
          have hL1 : IntKind.i64.wrap ((lsz d m (m - 1) : Nat) + (c : Int)) = (lsz d m (m - 1) : Nat) + (c : Int) := IntWalk.i64_in _ ⟨by omega, by omega⟩
          have HB0 := hide (fun w' => specBlock p k g c d m 0 0 rfl (by omega) (by omega) (by omega) (by omega) w')
          have HB1 := hide (fun w' => specBlock p k g c d m (m - 1) ((m : Int) - 1) (by omega) (by omega) (by omega) (by omega) (by omega) w')
          rw [hL0] at HB0
          rw [hL1] at HB1
          obtain ⟨L0, hl0⟩ : ∃ L : Int, (lsz d m 0 : Nat) + (c : Int) = L := ⟨_, rfl⟩
          obtain ⟨L1, hl1⟩ : ∃ L : Int, (lsz d m (m - 1) : Nat) + (c : Int) = L := ⟨_, rfl⟩
          rw [hl0] at HB0
          rw [hl1] at HB1 hY
          have HV0 := hide (fun w' => specIsCode p k g L0 c w' ⟨by omega, by omega⟩)
          have HV1 := hide (fun w' => specIsCode p k g L1 c w' ⟨by omega, by omega⟩)
          have hmono : codeB p k g L0 c = false → codeB p k g L1 c = false := fun h => by
            rcases hv : codeB p k g L1 c with _ | _
            · rfl
            · obtain ⟨R, γ, l, c', e1, e2, hI⟩ := codeB_open hv
              have := codeB_is (R := R) (γ := γ) (p := p) (k := k) (g := g) (l := lsz d m 0 + c) (c := c) (by
                have e3 : c' = c := by omega
                subst e3
                have := hI.cl; have := hI.l255; have := hI.lq
                exact ⟨hI.fld, hI.ok, hI.gval, hI.ggen, hI.c1, hI.c64, by omega, by omega, by omega⟩)
              rw [← hl0] at h
              rw [Int.natCast_add] at this
              rw [this] at h; cases h
          have h4' : d + t ≤ 1500 := by omega
          rcases hv0 : codeB p k g L0 c with _ | _
          · have HF := hide (show layB p k g d c m = false by rw [hY]; exact hmono hv0)
            rw [hv0] at HV0
            clear hY hL0 hL1 hl0 hl1 hmono hv0 ht a1 a2 a3 a4 hcast h4
            go_enter Tryz.func74, Tryz.ntmps74
            go_wp2_with fail
            refine (HA.out _ 1 16 true i1.out _).mono ?_
            rintro e w1 ⟨rfl, rfl⟩
            go_wp2_with fail
            refine (HA.out _ _ 1500 true i2.out _).mono ?_
            rintro e w1 ⟨rfl, rfl⟩
            go_wp2_with fail
            refine (HA.out _ 1 64 true i3.out _).mono ?_
            rintro e w1 ⟨rfl, rfl⟩
            go_wp2_with fail
            refine (HB0.out _).mono ?_
            rintro e w2 ⟨rfl, hb⟩
            have HX2 := hide (HX.out.next hb)
            clear hb c0 c1 c2 c3 c4 c5
            obtain ⟨c0, c1, c2, c3, c4, c5⟩ := HX2.out.cells
            go_wp2_with fail
            refine (HV0.out _).mono ?_
            rintro e w3 ⟨rfl, hb⟩
            have HX3 := hide (HX2.out.next hb)
            clear hb c0 c1 c2 c3 c4 c5
            obtain ⟨c0, c1, c2, c3, c4, c5⟩ := HX3.out.cells
            go_wp2_with fail
            go_ret
            exact ⟨ret_bool HF.out, HX3.out.2⟩
          · rcases hv1 : codeB p k g L1 c with _ | _ <;> (
              have HF := hide hY
              have HV := hide hv1
              rw [hv0] at HV0
              rw [hv1] at HV1
              clear hY hL0 hL1 hl0 hl1 hmono hv0 hv1 ht a1 a2 a3 a4 hcast h4
              go_enter Tryz.func74, Tryz.ntmps74
              go_wp2_with fail
              refine (HA.out _ 1 16 true i1.out _).mono ?_
              rintro e w1 ⟨rfl, rfl⟩
              go_wp2_with fail
              refine (HA.out _ _ 1500 true i2.out _).mono ?_
              rintro e w1 ⟨rfl, rfl⟩
              go_wp2_with fail
              refine (HA.out _ 1 64 true i3.out _).mono ?_
              rintro e w1 ⟨rfl, rfl⟩
              go_wp2_with fail
              refine (HB0.out _).mono ?_
              rintro e w2 ⟨rfl, hb⟩
              have HX2 := hide (HX.out.next hb)
              clear hb c0 c1 c2 c3 c4 c5
              obtain ⟨c0, c1, c2, c3, c4, c5⟩ := HX2.out.cells
              go_wp2_with fail
              refine (HV0.out _).mono ?_
              rintro e w3 ⟨rfl, hb⟩
              have HX3 := hide (HX2.out.next hb)
              clear hb c0 c1 c2 c3 c4 c5
              obtain ⟨c0, c1, c2, c3, c4, c5⟩ := HX3.out.cells
              go_wp2_with fail
              refine (HB1.out _).mono ?_
              rintro e w4 ⟨rfl, hb⟩
              have HX4 := hide (HX3.out.next hb)
              clear hb c0 c1 c2 c3 c4 c5
              obtain ⟨c0, c1, c2, c3, c4, c5⟩ := HX4.out.cells
              go_wp2_with fail
              refine (HV1.out _).mono ?_
              rintro e w5 ⟨rfl, hb⟩
              have HX5 := hide (HX4.out.next hb)
              clear hb c0 c1 c2 c3 c4 c5
              obtain ⟨c0, c1, c2, c3, c4, c5⟩ := HX5.out.cells
              go_wp2_with fail
              go_ret
              exact ⟨ret_bool (by rw [HF.out, HV.out]), HX5.out.2⟩)
        · have HF := hide (show layB p k g d c m = false from layB_no fun hh => h4 (by rw [hcast]; exact hh.2.2.2.2.2.2))
          have h4' : 1500 < d + t := by omega
          clear h4 ht hcast
          go_enter Tryz.func74, Tryz.ntmps74
          go_wp2_with fail
          refine (HA.out _ 1 16 true i1.out _).mono ?_
          rintro e w1 ⟨rfl, rfl⟩
          go_wp2_with fail
          refine (HA.out _ _ 1500 true i2.out _).mono ?_
          rintro e w1 ⟨rfl, rfl⟩
          go_wp2_with fail
          refine (HA.out _ 1 64 true i3.out _).mono ?_
          rintro e w1 ⟨rfl, rfl⟩
          go_wp2_with fail
          go_ret
          exact ⟨ret_bool HF.out, HX.out.2⟩
      · have HF := hide (show layB p k g D K C = false from layB_no fun hh => h3 ⟨hh.2.2.2.2.1, hh.2.2.2.2.2.1⟩)
        have i3 := hide (show inR K 1 64 = false from inR_no (by omega))
        go_enter Tryz.func74, Tryz.ntmps74
        go_wp2_with fail
        refine (HA.out _ 1 16 true i1.out _).mono ?_
        rintro e w1 ⟨rfl, rfl⟩
        go_wp2_with fail
        refine (HA.out _ _ 1500 true i2.out _).mono ?_
        rintro e w1 ⟨rfl, rfl⟩
        go_wp2_with fail
        refine (HA.out _ 1 64 false i3.out _).mono ?_
        rintro e w1 ⟨rfl, rfl⟩
        go_wp2_with fail
        go_ret
        exact ⟨ret_bool HF.out, HX.out.2⟩
    · have HF := hide (show layB p k g D K C = false from layB_no fun hh => h2 ⟨hh.2.2.1, hh.2.2.2.1⟩)
      have i2 := hide (show inR D C 1500 = false from inR_no (by omega))
      go_enter Tryz.func74, Tryz.ntmps74
      go_wp2_with fail
      refine (HA.out _ 1 16 true i1.out _).mono ?_
      rintro e w1 ⟨rfl, rfl⟩
      go_wp2_with fail
      refine (HA.out _ _ 1500 false i2.out _).mono ?_
      rintro e w1 ⟨rfl, rfl⟩
      go_wp2_with fail
      go_ret
      exact ⟨ret_bool HF.out, HX.out.2⟩
  · have HF := hide (show layB p k g D K C = false from layB_no fun hh => h1 ⟨hh.1, hh.2.1⟩)
    have i1 := hide (show inR C 1 16 = false from inR_no (by omega))
    go_enter Tryz.func74, Tryz.ntmps74
    go_wp2_with fail
    refine (HA.out _ 1 16 false i1.out _).mono ?_
    rintro e w1 ⟨rfl, rfl⟩
    go_wp2_with fail
    go_ret
    exact ⟨ret_bool HF.out, HX.out.2⟩
end Go.Proofs.YtncgeoliboidhaaGreat
