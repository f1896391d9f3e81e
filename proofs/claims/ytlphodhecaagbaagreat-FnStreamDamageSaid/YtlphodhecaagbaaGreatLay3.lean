/-
  The size, the code and the length of a layout: the model's and the program's.
  Condition: as each statement says.
-/
import Derived.Test.YtlphodhecaagbaaGreatLay1
import Derived.Test.YtlphodhecaagbaaGreatTail2
import Derived.OrdersHeld
namespace Go.Proofs.YtlphodhecaagbaaGreat
open Go.RowKit
set_option linter.unusedSimpArgs false
set_option linter.unusedVariables false

set_option maxRecDepth 100000 in
set_option maxHeartbeats 2000000 in
theorem specSize7 (p k g K : Int) (D C b : Nat) (hC : 1 ≤ C) (hC2 : C ≤ 9223372036854775807) (hD : D ≤ 9223372036854775807) (hb : b < C) (w : World) :
    Calls Tryz.prog 59 #[.agg #[.int .i64 p, .int .i64 k, .int .i64 g, .int .i64 D, .int .i64 K, .int .i64 C], .int .i64 b] w (Gives (.int .i64 (lsz D C b : Nat)) w) := by
  have HX := hide (YBox.start w p k g D K C)
  obtain ⟨c0, c1, c2, c3, c4, c5⟩ := HX.out.cells
  have hq := quoN D C
  have hr := remN D C
  have hrC : D % C < C := Nat.mod_lt _ hC
  have hqD : D / C ≤ D := Nat.div_le_self _ _
  obtain ⟨q, hq'⟩ : ∃ q, D / C = q := ⟨_, rfl⟩
  obtain ⟨r, hr'⟩ : ∃ r, D % C = r := ⟨_, rfl⟩
  rw [hq'] at hq hqD
  rw [hr'] at hr hrC
  have hqs : C - r ≤ b → (q : Int) + 1 ≤ 9223372036854775807 := fun h => by
    have h1 : C * q ≤ D := by rw [← hq']; exact Nat.mul_div_le D C
    have h2 : 2 * q ≤ C * q := Nat.mul_le_mul_right q (by omega)
    omega
  obtain ⟨X, hX⟩ : ∃ X : Int, X = (D : Int) := ⟨_, rfl⟩
  obtain ⟨Y, hY⟩ : ∃ Y : Int, Y = (C : Int) := ⟨_, rfl⟩
  have hY0 : Y ≠ 0 := by omega
  have hw0 : IntKind.i64.wrap (q : Int) = (q : Int) := IntWalk.i64_in _ ⟨by omega, by omega⟩
  have hw1 : IntKind.i64.wrap (r : Int) = (r : Int) := IntWalk.i64_in _ ⟨by omega, by omega⟩
  have hw2 : IntKind.i64.wrap (Y - (r : Int)) = ((C - r : Nat) : Int) := by rw [IntWalk.i64_in _ ⟨by omega, by omega⟩]; omega
  rw [← hX, ← hY] at HX
  rw [← hX] at c3
  rw [← hY] at c5
  rw [← hX, ← hY] at hq hr
  rw [← hX, ← hY]
  by_cases hlt : C - r ≤ b
  · have z1 : C - r ≤ b := hlt
    have hw3 : IntKind.i64.wrap ((q : Int) + 1) = (q : Int) + 1 := IntWalk.i64_in _ ⟨by omega, hqs hlt⟩
    have HF := hide (show ((lsz D C b : Nat) : Int) = (q : Int) + 1 by rw [lsz_long (by rw [hr']; exact hlt), hq']; rfl)
    generalize C - r = s at hw2 z1
    clear hX hY hq' hr' hqs hlt hrC hqD hC hC2 hD hb
    go_enter Tryz.func59, Tryz.ntmps59
    go_wp2_with fail
    go_quiet (fail)
    go_wp2_with fail
    go_ret
    exact ⟨ret_int HF.out, (HX.out.drewN _).2⟩
  · have z1 : ¬ C - r ≤ b := hlt
    have HF := hide (show ((lsz D C b : Nat) : Int) = (q : Int) by rw [lsz_short (by rw [hr']; omega), hq'])
    generalize C - r = s at hw2 z1
    clear hX hY hq' hr' hqs hlt hrC hqD hC hC2 hD hb
    go_enter Tryz.func59, Tryz.ntmps59
    go_wp2_with fail
    go_quiet (fail)
    go_wp2_with fail
    go_ret
    exact ⟨ret_int HF.out, (HX.out.drewN _).2⟩
theorem implDataLenZ (p k g K : Int) (D C b : Nat) (Z : Int) (hZ : Z = (b : Nat)) (hC : 1 ≤ C) (hC2 : C ≤ 9223372036854775807) (hD : D ≤ 9223372036854775807) (hb : b < C) (w : World) :
    Calls Tryz.prog 93 #[.agg #[.int .i64 p, .int .i64 k, .int .i64 g, .int .i64 D, .int .i64 K, .int .i64 C], .int .i64 Z] w (Gives (.int .i64 (lsz D C b : Nat)) w) := by
  subst hZ
  exact implDataLen p k g K D C b hC hC2 hD hb w
theorem specSizeZ (p k g K : Int) (D C b : Nat) (Z : Int) (hZ : Z = (b : Nat)) (hC : 1 ≤ C) (hC2 : C ≤ 9223372036854775807) (hD : D ≤ 9223372036854775807) (hb : b < C) (w : World) :
    Calls Tryz.prog 59 #[.agg #[.int .i64 p, .int .i64 k, .int .i64 g, .int .i64 D, .int .i64 K, .int .i64 C], .int .i64 Z] w (Gives (.int .i64 (lsz D C b : Nat)) w) := by
  subst hZ
  exact specSize7 p k g K D C b hC hC2 hD hb w

/-- The six cells of a layout and the row of a code that is being made. -/
def Cells6 (w : World) (b : Nat) (p k g D K C : Int) : Prop :=
  w.cell? ⟨b, 0, none⟩ = some (.int .i64 p) ∧ w.cell? ⟨b, 1, none⟩ = some (.int .i64 k) ∧ w.cell? ⟨b, 2, none⟩ = some (.int .i64 g) ∧ w.cell? ⟨b, 3, none⟩ = some (.int .i64 D) ∧ w.cell? ⟨b, 4, none⟩ = some (.int .i64 K) ∧ w.cell? ⟨b, 5, none⟩ = some (.int .i64 C)
theorem row5z {w : World} {b : Nat} {x0 x1 x2 x3 x4 : Value} {t : TypeId} (h : w.heap[b]? = some (.cells #[x0, x1, x2, x3, x4] t (0, 0))) :
    w.frozen? ⟨b, 0, none⟩ = false ∧ w.frozen? ⟨b, 1, none⟩ = false ∧ w.frozen? ⟨b, 2, none⟩ = false ∧ w.frozen? ⟨b, 3, none⟩ = false ∧ w.frozen? ⟨b, 4, none⟩ = false ∧ w.cell? ⟨b, 0, none⟩ = some x0 ∧ w.cell? ⟨b, 1, none⟩ = some x1 ∧ w.cell? ⟨b, 2, none⟩ = some x2 ∧ w.cell? ⟨b, 3, none⟩ = some x3 ∧ w.cell? ⟨b, 4, none⟩ = some x4 :=
  ⟨frozen_of_row w b 0 _ _ h, frozen_of_row w b 1 _ _ h, frozen_of_row w b 2 _ _ h, frozen_of_row w b 3 _ _ h, frozen_of_row w b 4 _ _ h, cell_of_row w b 0 _ _ _ h, cell_of_row w b 1 _ _ _ h, cell_of_row w b 2 _ _ _ h, cell_of_row w b 3 _ _ _ h, cell_of_row w b 4 _ _ _ h⟩

set_option maxRecDepth 100000 in
set_option maxHeartbeats 2000000 in
theorem implLayCode (p k g K : Int) (D C b : Nat) (Z : Int) (hZ : Z = (b : Nat)) (hC : 1 ≤ C) (hC2 : C ≤ 9223372036854775807) (hD : D ≤ 9223372036854775807) (hb : b < C) (w : World) :
    Calls Tryz.prog 66 #[.agg #[.int .i64 p, .int .i64 k, .int .i64 g, .int .i64 D, .int .i64 K, .int .i64 C], .int .i64 Z] w (Gives (.agg #[.int .i64 p, .int .i64 k, .int .i64 g, .int .i64 (IntKind.i64.wrap ((lsz D C b : Nat) + K)), .int .i64 K]) w) := by
  have HX := hide (YBox.alloc (YBox.start w p k g D K C) (.cells #[.int .i64 0, .int .i64 0, .int .i64 0, .int .i64 0, .int .i64 0] 89))
  have hr0 := heap_alloc_new (w.alloc (.cells #[.int .i64 p, .int .i64 k, .int .i64 g, .int .i64 D, .int .i64 K, .int .i64 C] 27)) (.cells #[.int .i64 0, .int .i64 0, .int .i64 0, .int .i64 0, .int .i64 0] 89)
  rw [alloc_size] at hr0
  have HR := hide hr0
  have hLV : ∃ L : Int, IntKind.i64.wrap ((lsz D C b : Nat) + K) = L := ⟨_, rfl⟩
  obtain ⟨L, hL⟩ := hLV
  rw [hL]
  have HCON := hide (fun w' => implDataLenZ p k g K D C b Z hZ hC hC2 hD hb w')
  generalize lsz D C b = s at hL HCON
  clear hr0 hZ hC hC2 hD hb
  go_enter Tryz.func66, Tryz.ntmps66
  go_wp2_with fail
  refine tail_begin (fun w' => Cells6 w' w.heap.size p k g D K C ∧ w'.heap[w.heap.size + 1]? = some (.cells #[.int .i64 0, .int .i64 0, .int .i64 0, .int .i64 0, .int .i64 0] 89 (0, 0))) 11 (by kernel_rfl) ⟨HX.out.drew.cells, HR.out⟩ (fun hS' => ?_)
  refine tail_take 0 rfl (by kernel_rfl) (by kernel_rfl) (by kernel_rfl) (by kernel_rfl) (fun _ _ _ h => h) (by rfl) (v := ?_) ?_ (by assumption) ?_
  rotate_left 1
  · intro w' hS'; obtain ⟨⟨c0, c1, c2, c3, c4, c5⟩, _⟩ := hS'; go_simp; try with_reducible rfl
  try simp only [Act.put, List.setIfInBounds_toArray, List.set_cons_zero, List.set_cons_succ]
  refine tail_take 1 rfl (by kernel_rfl) (by kernel_rfl) (by kernel_rfl) (by kernel_rfl) (fun _ _ _ h => h) (by rfl) (v := ?_) ?_ (by assumption) ?_
  rotate_left 1
  · intro w' hS'; obtain ⟨⟨c0, c1, c2, c3, c4, c5⟩, _⟩ := hS'; go_simp; try with_reducible rfl
  try simp only [Act.put, List.setIfInBounds_toArray, List.set_cons_zero, List.set_cons_succ]
  refine tail_take 2 rfl (by kernel_rfl) (by kernel_rfl) (by kernel_rfl) (by kernel_rfl) (fun _ _ _ h => h) (by rfl) (v := ?_) ?_ (by assumption) ?_
  rotate_left 1
  · intro w' hS'; obtain ⟨⟨c0, c1, c2, c3, c4, c5⟩, _⟩ := hS'; go_simp; try with_reducible rfl
  try simp only [Act.put, List.setIfInBounds_toArray, List.set_cons_zero, List.set_cons_succ]
  refine tail_take 3 rfl (by kernel_rfl) (by kernel_rfl) (by kernel_rfl) (by kernel_rfl) (fun _ _ _ h => h) (by rfl) (v := ?_) ?_ (by assumption) ?_
  rotate_left 1
  · intro w' hS'; obtain ⟨⟨c0, c1, c2, c3, c4, c5⟩, _⟩ := hS'; go_simp; try with_reducible rfl
  try simp only [Act.put, List.setIfInBounds_toArray, List.set_cons_zero, List.set_cons_succ]
  refine tail_take 5 rfl (by kernel_rfl) (by kernel_rfl) (by kernel_rfl) (by kernel_rfl) (fun _ _ _ h => h) (by rfl) (v := ?_) ?_ (by assumption) ?_
  rotate_left 1
  · intro w' hS'; obtain ⟨⟨c0, c1, c2, c3, c4, c5⟩, _⟩ := hS'; go_simp; try with_reducible rfl
  try simp only [Act.put, List.setIfInBounds_toArray, List.set_cons_zero, List.set_cons_succ]
  refine tail_take 6 rfl (by kernel_rfl) (by kernel_rfl) (by kernel_rfl) (by kernel_rfl) (fun _ _ _ h => h) (by rfl) (v := ?_) ?_ (by assumption) ?_
  rotate_left 1
  · intro w' hS'; obtain ⟨⟨c0, c1, c2, c3, c4, c5⟩, _⟩ := hS'; go_simp; try with_reducible rfl
  try simp only [Act.put, List.setIfInBounds_toArray, List.set_cons_zero, List.set_cons_succ]
  refine tail_take 8 rfl (by kernel_rfl) (by kernel_rfl) (by kernel_rfl) (by kernel_rfl) (fun _ _ _ h => h) (by rfl) (v := ?_) ?_ (by assumption) ?_
  rotate_left 1
  · intro w' hS'; obtain ⟨⟨c0, c1, c2, c3, c4, c5⟩, _⟩ := hS'; go_simp; try with_reducible rfl
  try simp only [Act.put, List.setIfInBounds_toArray, List.set_cons_zero, List.set_cons_succ]
  refine tail_take 9 rfl (by kernel_rfl) (by kernel_rfl) (by kernel_rfl) (by kernel_rfl) (fun _ _ _ h => h) (by rfl) (v := ?_) ?_ (by assumption) ?_
  rotate_left 1
  · intro w' hS'; obtain ⟨⟨c0, c1, c2, c3, c4, c5⟩, _⟩ := hS'; go_simp; try with_reducible rfl
  try simp only [Act.put, List.setIfInBounds_toArray, List.set_cons_zero, List.set_cons_succ]
  refine tail_call 4 rfl (by kernel_rfl) rfl (fun K hK => ?_)
  go_simp
  go_at_call 93; refine (HCON.out _).mono ?_; rintro e w2 ⟨rfl, hb⟩; have HX2 := hide (HX.out.drew.next hb); have HR2 := hide ((hb.block _ (Array.getElem?_eq_some_iff.1 HR.out).1).trans HR.out); clear hb
  refine hK.out _ _ (by (try dsimp only); exact ⟨HX2.out.cells, HR2.out⟩) (fun hS' => ?_)
  clear hK K
  try simp only [Act.put, List.setIfInBounds_toArray, List.set_cons_zero, List.set_cons_succ]
  clear HX HR
  refine tail_take 7 rfl (by kernel_rfl) (by kernel_rfl) (by kernel_rfl) (by kernel_rfl) (fun _ _ _ h => h) (by rfl) (v := ?_) ?_ (by assumption) ?_
  rotate_left 1
  · intro w' hS'; obtain ⟨⟨c0, c1, c2, c3, c4, c5⟩, _⟩ := hS'; go_simp; try with_reducible rfl
  try simp only [Act.put, List.setIfInBounds_toArray, List.set_cons_zero, List.set_cons_succ]
  refine tail_take 10 rfl (by kernel_rfl) (by kernel_rfl) (by kernel_rfl) (by kernel_rfl) (fun _ _ _ h => h) (by rfl) (v := ?_) ?_ (by assumption) ?_
  rotate_left 1
  · intro w' hS'; obtain ⟨⟨c0, c1, c2, c3, c4, c5⟩, _⟩ := hS'; go_simp; try with_reducible rfl
  try simp only [Act.put, List.setIfInBounds_toArray, List.set_cons_zero, List.set_cons_succ]
  obtain ⟨f0, f1, f2, f3, f4, z0, z1, z2, z3, z4⟩ := row5z HR2.out
  refine tail_last 11 rfl (by kernel_rfl) (by kernel_rfl) rfl rfl (fun K hK => ?_)
  go_simp
  refine hK.out _ _ ?_
  clear hK K
  try simp only [Act.put, List.setIfInBounds_toArray, List.set_cons_zero, List.set_cons_succ]
  go_wp2_with fail
  refine bodyPost_ret (v := .agg #[.int .i64 p, .int .i64 k, .int .i64 g, .int .i64 L, .int .i64 K]) (by simp [results, Tryz.results66, go_sem, z0, z1, z2, z3, z4, hL]) rfl ⟨rfl, ?_⟩
  have q1 : w.heap.size ≤ w.heap.size + 1 := Nat.le_succ _
  repeat (with_reducible refine Below.setCell ?_ q1 _)
  exact HX2.out.2

set_option maxRecDepth 100000 in
set_option maxHeartbeats 2000000 in
theorem specBlock (p k g K : Int) (D C b : Nat) (Z : Int) (hZ : Z = (b : Nat)) (hC : 1 ≤ C) (hC2 : C ≤ 9223372036854775807) (hD : D ≤ 9223372036854775807) (hb : b < C) (w : World) :
    Calls Tryz.prog 58 #[.agg #[.int .i64 p, .int .i64 k, .int .i64 g, .int .i64 D, .int .i64 K, .int .i64 C], .int .i64 Z] w (Gives (.agg #[.int .i64 p, .int .i64 k, .int .i64 g, .int .i64 (IntKind.i64.wrap ((lsz D C b : Nat) + K)), .int .i64 K]) w) := by
  have HX := hide (YBox.alloc (YBox.start w p k g D K C) (.cells #[.int .i64 0, .int .i64 0, .int .i64 0, .int .i64 0, .int .i64 0] 89))
  have hr0 := heap_alloc_new (w.alloc (.cells #[.int .i64 p, .int .i64 k, .int .i64 g, .int .i64 D, .int .i64 K, .int .i64 C] 27)) (.cells #[.int .i64 0, .int .i64 0, .int .i64 0, .int .i64 0, .int .i64 0] 89)
  rw [alloc_size] at hr0
  have HR := hide hr0
  have hLV : ∃ L : Int, IntKind.i64.wrap ((lsz D C b : Nat) + K) = L := ⟨_, rfl⟩
  obtain ⟨L, hL⟩ := hLV
  rw [hL]
  have HCON := hide (fun w' => specSizeZ p k g K D C b Z hZ hC hC2 hD hb w')
  generalize lsz D C b = s at hL HCON
  clear hr0 hZ hC hC2 hD hb
  go_enter Tryz.func58, Tryz.ntmps58
  go_wp2_with fail
  refine tail_begin (fun w' => Cells6 w' w.heap.size p k g D K C ∧ w'.heap[w.heap.size + 1]? = some (.cells #[.int .i64 0, .int .i64 0, .int .i64 0, .int .i64 0, .int .i64 0] 89 (0, 0))) 11 (by kernel_rfl) ⟨HX.out.drew.cells, HR.out⟩ (fun hS' => ?_)
  refine tail_take 0 rfl (by kernel_rfl) (by kernel_rfl) (by kernel_rfl) (by kernel_rfl) (fun _ _ _ h => h) (by rfl) (v := ?_) ?_ (by assumption) ?_
  rotate_left 1
  · intro w' hS'; obtain ⟨⟨c0, c1, c2, c3, c4, c5⟩, _⟩ := hS'; go_simp; try with_reducible rfl
  try simp only [Act.put, List.setIfInBounds_toArray, List.set_cons_zero, List.set_cons_succ]
  refine tail_take 1 rfl (by kernel_rfl) (by kernel_rfl) (by kernel_rfl) (by kernel_rfl) (fun _ _ _ h => h) (by rfl) (v := ?_) ?_ (by assumption) ?_
  rotate_left 1
  · intro w' hS'; obtain ⟨⟨c0, c1, c2, c3, c4, c5⟩, _⟩ := hS'; go_simp; try with_reducible rfl
  try simp only [Act.put, List.setIfInBounds_toArray, List.set_cons_zero, List.set_cons_succ]
  refine tail_take 2 rfl (by kernel_rfl) (by kernel_rfl) (by kernel_rfl) (by kernel_rfl) (fun _ _ _ h => h) (by rfl) (v := ?_) ?_ (by assumption) ?_
  rotate_left 1
  · intro w' hS'; obtain ⟨⟨c0, c1, c2, c3, c4, c5⟩, _⟩ := hS'; go_simp; try with_reducible rfl
  try simp only [Act.put, List.setIfInBounds_toArray, List.set_cons_zero, List.set_cons_succ]
  refine tail_take 3 rfl (by kernel_rfl) (by kernel_rfl) (by kernel_rfl) (by kernel_rfl) (fun _ _ _ h => h) (by rfl) (v := ?_) ?_ (by assumption) ?_
  rotate_left 1
  · intro w' hS'; obtain ⟨⟨c0, c1, c2, c3, c4, c5⟩, _⟩ := hS'; go_simp; try with_reducible rfl
  try simp only [Act.put, List.setIfInBounds_toArray, List.set_cons_zero, List.set_cons_succ]
  refine tail_take 5 rfl (by kernel_rfl) (by kernel_rfl) (by kernel_rfl) (by kernel_rfl) (fun _ _ _ h => h) (by rfl) (v := ?_) ?_ (by assumption) ?_
  rotate_left 1
  · intro w' hS'; obtain ⟨⟨c0, c1, c2, c3, c4, c5⟩, _⟩ := hS'; go_simp; try with_reducible rfl
  try simp only [Act.put, List.setIfInBounds_toArray, List.set_cons_zero, List.set_cons_succ]
  refine tail_take 6 rfl (by kernel_rfl) (by kernel_rfl) (by kernel_rfl) (by kernel_rfl) (fun _ _ _ h => h) (by rfl) (v := ?_) ?_ (by assumption) ?_
  rotate_left 1
  · intro w' hS'; obtain ⟨⟨c0, c1, c2, c3, c4, c5⟩, _⟩ := hS'; go_simp; try with_reducible rfl
  try simp only [Act.put, List.setIfInBounds_toArray, List.set_cons_zero, List.set_cons_succ]
  refine tail_take 8 rfl (by kernel_rfl) (by kernel_rfl) (by kernel_rfl) (by kernel_rfl) (fun _ _ _ h => h) (by rfl) (v := ?_) ?_ (by assumption) ?_
  rotate_left 1
  · intro w' hS'; obtain ⟨⟨c0, c1, c2, c3, c4, c5⟩, _⟩ := hS'; go_simp; try with_reducible rfl
  try simp only [Act.put, List.setIfInBounds_toArray, List.set_cons_zero, List.set_cons_succ]
  refine tail_take 9 rfl (by kernel_rfl) (by kernel_rfl) (by kernel_rfl) (by kernel_rfl) (fun _ _ _ h => h) (by rfl) (v := ?_) ?_ (by assumption) ?_
  rotate_left 1
  · intro w' hS'; obtain ⟨⟨c0, c1, c2, c3, c4, c5⟩, _⟩ := hS'; go_simp; try with_reducible rfl
  try simp only [Act.put, List.setIfInBounds_toArray, List.set_cons_zero, List.set_cons_succ]
  refine tail_call 4 rfl (by kernel_rfl) rfl (fun K hK => ?_)
  go_simp
  go_at_call 59; refine (HCON.out _).mono ?_; rintro e w2 ⟨rfl, hb⟩; have HX2 := hide (HX.out.drew.next hb); have HR2 := hide ((hb.block _ (Array.getElem?_eq_some_iff.1 HR.out).1).trans HR.out); clear hb
  refine hK.out _ _ (by (try dsimp only); exact ⟨HX2.out.cells, HR2.out⟩) (fun hS' => ?_)
  clear hK K
  try simp only [Act.put, List.setIfInBounds_toArray, List.set_cons_zero, List.set_cons_succ]
  clear HX HR
  refine tail_take 7 rfl (by kernel_rfl) (by kernel_rfl) (by kernel_rfl) (by kernel_rfl) (fun _ _ _ h => h) (by rfl) (v := ?_) ?_ (by assumption) ?_
  rotate_left 1
  · intro w' hS'; obtain ⟨⟨c0, c1, c2, c3, c4, c5⟩, _⟩ := hS'; go_simp; try with_reducible rfl
  try simp only [Act.put, List.setIfInBounds_toArray, List.set_cons_zero, List.set_cons_succ]
  refine tail_take 10 rfl (by kernel_rfl) (by kernel_rfl) (by kernel_rfl) (by kernel_rfl) (fun _ _ _ h => h) (by rfl) (v := ?_) ?_ (by assumption) ?_
  rotate_left 1
  · intro w' hS'; obtain ⟨⟨c0, c1, c2, c3, c4, c5⟩, _⟩ := hS'; go_simp; try with_reducible rfl
  try simp only [Act.put, List.setIfInBounds_toArray, List.set_cons_zero, List.set_cons_succ]
  obtain ⟨f0, f1, f2, f3, f4, z0, z1, z2, z3, z4⟩ := row5z HR2.out
  refine tail_last 11 rfl (by kernel_rfl) (by kernel_rfl) rfl rfl (fun K hK => ?_)
  go_simp
  refine hK.out _ _ ?_
  clear hK K
  try simp only [Act.put, List.setIfInBounds_toArray, List.set_cons_zero, List.set_cons_succ]
  go_wp2_with fail
  refine bodyPost_ret (v := .agg #[.int .i64 p, .int .i64 k, .int .i64 g, .int .i64 L, .int .i64 K]) (by simp [results, Tryz.results58, go_sem, z0, z1, z2, z3, z4, hL]) rfl ⟨rfl, ?_⟩
  have q1 : w.heap.size ≤ w.heap.size + 1 := Nat.le_succ _
  repeat (with_reducible refine Below.setCell ?_ q1 _)
  exact HX2.out.2

set_option maxRecDepth 100000 in
set_option maxHeartbeats 2000000 in
theorem implStreamLen (p k g D K C N : Int) (h : IntKind.i64.wrap (D + IntKind.i64.wrap (C * K)) = N) (w : World) :
    Calls Tryz.prog 41 #[.agg #[.int .i64 p, .int .i64 k, .int .i64 g, .int .i64 D, .int .i64 K, .int .i64 C]] w (Gives (.int .i64 N) w) := by
  have HX := hide (YBox.start w p k g D K C)
  obtain ⟨c0, c1, c2, c3, c4, c5⟩ := HX.out.cells
  obtain ⟨M, hM⟩ : ∃ M, IntKind.i64.wrap (C * K) = M := ⟨_, rfl⟩
  rw [hM] at h
  go_enter Tryz.func41, Tryz.ntmps41
  go_wp2_with fail
  go_ret
  exact ⟨ret_int (by rw [← h, ← hM]), HX.out.2⟩

set_option maxRecDepth 100000 in
set_option maxHeartbeats 2000000 in
theorem specTotal (p k g D K C N : Int) (h : IntKind.i64.wrap (D + IntKind.i64.wrap (C * K)) = N) (w : World) :
    Calls Tryz.prog 48 #[.agg #[.int .i64 p, .int .i64 k, .int .i64 g, .int .i64 D, .int .i64 K, .int .i64 C]] w (Gives (.int .i64 N) w) := by
  have HX := hide (YBox.start w p k g D K C)
  obtain ⟨c0, c1, c2, c3, c4, c5⟩ := HX.out.cells
  obtain ⟨M, hM⟩ : ∃ M, IntKind.i64.wrap (C * K) = M := ⟨_, rfl⟩
  rw [hM] at h
  go_enter Tryz.func48, Tryz.ntmps48
  go_wp2_with fail
  go_ret
  exact ⟨ret_int (by rw [← h, ← hM]), HX.out.2⟩
end Go.Proofs.YtlphodhecaagbaaGreat
