/-
  A layout that a call was given; when it is valid, told by its numbers; what its blocks are: the program's part.
  Condition: none.
-/
import Derived.Test.YtlphodhecaagbaaGreatCode2
import Derived.Test.YtlphodhecaagbaaGreatLMath
import Derived.BigQuiet
namespace Go.Proofs.YtlphodhecaagbaaGreat
open Go.RowKit
set_option linter.unusedSimpArgs false
set_option linter.unusedVariables false

/-- The box of a layout. -/
def YBox (w wr : World) (p k g D K C : Int) : Prop := Bxd w wr 27 #[.int .i64 p, .int .i64 k, .int .i64 g, .int .i64 D, .int .i64 K, .int .i64 C]
section
variable {w wr wr' : World} {p k g D K C : Int}
theorem YBox.start (w : World) (p k g D K C : Int) : YBox w (w.alloc (.cells #[.int .i64 p, .int .i64 k, .int .i64 g, .int .i64 D, .int .i64 K, .int .i64 C] 27)) p k g D K C := Bxd.start w _ _
theorem YBox.lt (h : YBox w wr p k g D K C) : w.heap.size < wr.heap.size := Bxd.lt h
theorem YBox.next (h : YBox w wr p k g D K C) (hb : Below wr.heap.size wr wr') : YBox w wr' p k g D K C := Bxd.next h hb
theorem YBox.alloc (h : YBox w wr p k g D K C) (o : Obj) : YBox w (wr.alloc o) p k g D K C := Bxd.alloc h o
theorem YBox.drew (h : YBox w wr p k g D K C) : YBox w wr.drew p k g D K C := Bxd.drew h
theorem YBox.drewN (h : YBox w wr p k g D K C) (n : Nat) : YBox w (wr.drewN n) p k g D K C := Bxd.drewN h n
theorem YBox.grow {row : Option Nat} (h : YBox w wr p k g D K C) (hg : wr.grownBy wr' row) (hr : ∀ b, row = some b → w.heap.size < b) : YBox w wr' p k g D K C := Bxd.grow h hg hr
theorem YBox.set (h : YBox w wr p k g D K C) {b : Nat} (hb : w.heap.size < b) (j : Nat) (u : Value) : YBox w (wr.setCell ⟨b, j, none⟩ u) p k g D K C := Bxd.set h hb j u
theorem YBox.setRow (h : YBox w wr p k g D K C) {b : Nat} (hb : w.heap.size < b) (ds : Array Value) : YBox w (wr.setRow b ds) p k g D K C := Bxd.setRow h hb ds
theorem YBox.cells (h : YBox w wr p k g D K C) : wr.cell? ⟨w.heap.size, 0, none⟩ = some (.int .i64 p) ∧ wr.cell? ⟨w.heap.size, 1, none⟩ = some (.int .i64 k) ∧ wr.cell? ⟨w.heap.size, 2, none⟩ = some (.int .i64 g) ∧ wr.cell? ⟨w.heap.size, 3, none⟩ = some (.int .i64 D) ∧ wr.cell? ⟨w.heap.size, 4, none⟩ = some (.int .i64 K) ∧ wr.cell? ⟨w.heap.size, 5, none⟩ = some (.int .i64 C) :=
  ⟨Bxd.cell h rfl, Bxd.cell h rfl, Bxd.cell h rfl, Bxd.cell h rfl, Bxd.cell h rfl, Bxd.cell h rfl⟩
end

theorem quoN (D C : Nat) : (D : Int).tdiv (C : Int) = ((D / C : Nat) : Int) := by rw [Int.tdiv_eq_ediv_of_nonneg (by omega)]; rfl
theorem remN (D C : Nat) : (D : Int).tmod (C : Int) = ((D % C : Nat) : Int) := by rw [Int.tmod_eq_emod_of_nonneg (by omega)]; rfl

set_option maxRecDepth 100000 in
set_option maxHeartbeats 2000000 in
theorem implDataLen (p k g K : Int) (D C b : Nat) (hC : 1 ≤ C) (hC2 : C ≤ 9223372036854775807) (hD : D ≤ 9223372036854775807) (hb : b < C) (w : World) :
    Calls Tryz.prog 93 #[.agg #[.int .i64 p, .int .i64 k, .int .i64 g, .int .i64 D, .int .i64 K, .int .i64 C], .int .i64 b] w (Gives (.int .i64 (lsz D C b : Nat)) w) := by
  have HX := hide (YBox.start w p k g D K C)
  obtain ⟨c0, c1, c2, c3, c4, c5⟩ := HX.out.cells
  have hq := quoN D C
  have hr := remN D C
  have hrC : D % C < C := Nat.mod_lt _ hC
  have hqD : D / C ≤ D := Nat.div_le_self _ _
  obtain ⟨q, hq'⟩ : ∃ q, D / C = q := ⟨_, rfl⟩
  obtain ⟨r, hr'⟩ : ∃ r, D % C = r := ⟨_, rfl⟩
  rw [hq'] at hq hqD
  rw [hr'] at hr hrC
  have hqs : C - r ≤ b → (q : Int) + 1 ≤ 9223372036854775807 := fun h => by
    have h1 : C * q ≤ D := by rw [← hq']; exact Nat.mul_div_le D C
    have h2 : 2 * q ≤ C * q := Nat.mul_le_mul_right q (by omega)
    omega
  obtain ⟨X, hX⟩ : ∃ X : Int, X = (D : Int) := ⟨_, rfl⟩
  obtain ⟨Y, hY⟩ : ∃ Y : Int, Y = (C : Int) := ⟨_, rfl⟩
  have hY0 : Y ≠ 0 := by omega
  have hw0 : IntKind.i64.wrap (q : Int) = (q : Int) := IntWalk.i64_in _ ⟨by omega, by omega⟩
  have hw1 : IntKind.i64.wrap (r : Int) = (r : Int) := IntWalk.i64_in _ ⟨by omega, by omega⟩
  have hw2 : IntKind.i64.wrap (Y - (r : Int)) = ((C - r : Nat) : Int) := by rw [IntWalk.i64_in _ ⟨by omega, by omega⟩]; omega
  rw [← hX, ← hY] at HX
  rw [← hX] at c3
  rw [← hY] at c5
  rw [← hX, ← hY] at hq hr
  rw [← hX, ← hY]
  by_cases hlt : C - r ≤ b
  · have z1 : C - r ≤ b := hlt
    have hw3 : IntKind.i64.wrap ((q : Int) + 1) = (q : Int) + 1 := IntWalk.i64_in _ ⟨by omega, hqs hlt⟩
    have HF := hide (show ((lsz D C b : Nat) : Int) = (q : Int) + 1 by rw [lsz_long (by rw [hr']; exact hlt), hq']; rfl)
    generalize C - r = s at hw2 z1
    clear hX hY hq' hr' hqs hlt hrC hqD hC hC2 hD hb
    go_enter Tryz.func93, Tryz.ntmps93
    go_wp2_with fail
    go_quiet (fail)
    go_wp2_with fail
    go_ret
    exact ⟨ret_int HF.out, (HX.out.drewN _).2⟩
  · have z1 : ¬ C - r ≤ b := hlt
    have HF := hide (show ((lsz D C b : Nat) : Int) = (q : Int) by rw [lsz_short (by rw [hr']; omega), hq'])
    generalize C - r = s at hw2 z1
    clear hX hY hq' hr' hqs hlt hrC hqD hC hC2 hD hb
    go_enter Tryz.func93, Tryz.ntmps93
    go_wp2_with fail
    go_quiet (fail)
    go_wp2_with fail
    go_ret
    exact ⟨ret_int HF.out, (HX.out.drewN _).2⟩
end Go.Proofs.YtlphodhecaagbaaGreat
