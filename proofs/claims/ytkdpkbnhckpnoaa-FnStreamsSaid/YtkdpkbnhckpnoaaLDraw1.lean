/-
  The contract of the draw of a layout: what is drawn lies in bounds; only the source's own block changes.
  Condition: the code has at most 4096 bytes.
-/
import Derived.Test.YtkdpkbnhckpnoaaJR
import Derived.Test.YtkdpkbnhckpnoaaTail2
import Derived.Test.YtkdpkbnhckpnoaaLay5
namespace Go.Proofs.Ytkdpkbnhckpnoaa
open Go.RowKit
set_option linter.unusedVariables false
set_option linter.unusedSimpArgs false

theorem row6c {w : World} {b : Nat} {x0 x1 x2 x3 x4 x5 : Value} {t : TypeId} (h : w.heap[b]? = some (.cells #[x0, x1, x2, x3, x4, x5] t (0, 0))) :
    w.cell? ⟨b, 0, none⟩ = some x0 ∧ w.cell? ⟨b, 1, none⟩ = some x1 ∧ w.cell? ⟨b, 2, none⟩ = some x2 ∧ w.cell? ⟨b, 3, none⟩ = some x3 ∧ w.cell? ⟨b, 4, none⟩ = some x4 ∧ w.cell? ⟨b, 5, none⟩ = some x5 ∧
    w.frozen? ⟨b, 0, none⟩ = false ∧ w.frozen? ⟨b, 1, none⟩ = false ∧ w.frozen? ⟨b, 2, none⟩ = false ∧ w.frozen? ⟨b, 3, none⟩ = false ∧ w.frozen? ⟨b, 4, none⟩ = false ∧ w.frozen? ⟨b, 5, none⟩ = false :=
  ⟨cell_of_row w b 0 _ _ _ h, cell_of_row w b 1 _ _ _ h, cell_of_row w b 2 _ _ _ h, cell_of_row w b 3 _ _ _ h, cell_of_row w b 4 _ _ _ h, cell_of_row w b 5 _ _ _ h,
   frozen_of_row w b 0 _ _ h, frozen_of_row w b 1 _ _ h, frozen_of_row w b 2 _ _ h, frozen_of_row w b 3 _ _ h, frozen_of_row w b 4 _ _ h, frozen_of_row w b 5 _ _ h⟩
/-- A layout's six numbers are stored. -/
def set6 (w : World) (N : Nat) (x0 x1 x2 x3 x4 x5 : Value) : World := (((((w.setCell ⟨N, 0, none⟩ x0).setCell ⟨N, 1, none⟩ x1).setCell ⟨N, 2, none⟩ x2).setCell ⟨N, 3, none⟩ x3).setCell ⟨N, 4, none⟩ x4).setCell ⟨N, 5, none⟩ x5
theorem grown_set6 {a w : World} {row : Option Nat} (h : a.grownBy w row) (N : Nat) (hN : a.heap.size ≤ N) (x0 x1 x2 x3 x4 x5 : Value) : a.grownBy (set6 w N x0 x1 x2 x3 x4 x5) row := by
  unfold set6; exact grown_set2 (grown_set2 (grown_set2 (grown_set2 (grown_set2 (grown_set2 h N 0 _ hN) N 1 _ hN) N 2 _ hN) N 3 _ hN) N 4 _ hN) N 5 _ hN
theorem src_set6 {w : World} {g Bc N : Nat} {A : Option Addr} {n c : Nat} {code : List Int} (h : Src w g Bc A n c code) (hN : g < N) (x0 x1 x2 x3 x4 x5 : Value) : Src (set6 w N x0 x1 x2 x3 x4 x5) g Bc A n c code := by
  have h0 := set1_src h hN 0 x0
  have h1 := set1_src h0 hN 1 x1
  have h2 := set1_src h1 hN 2 x2
  have h3 := set1_src h2 hN 3 x3
  have h4 := set1_src h3 hN 4 x4
  have h5 := set1_src h4 hN 5 x5
  exact h5
theorem row_set6 {w : World} {N : Nat} {y0 y1 y2 y3 y4 y5 : Value} {t : TypeId} (h : w.heap[N]? = some (.cells #[y0, y1, y2, y3, y4, y5] t (0, 0))) (x0 x1 x2 x3 x4 x5 : Value) : (set6 w N x0 x1 x2 x3 x4 x5).heap[N]? = some (.cells #[x0, x1, x2, x3, x4, x5] t (0, 0)) := by
  unfold set6
  have h0 : (w.setCell ⟨N, 0, none⟩ x0).heap[N]? = some (.cells #[x0, y1, y2, y3, y4, y5] t (0, 0)) := heap_setCell_same _ N 0 _ _ _ h
  have h1 : ((w.setCell ⟨N, 0, none⟩ x0).setCell ⟨N, 1, none⟩ x1).heap[N]? = some (.cells #[x0, x1, y2, y3, y4, y5] t (0, 0)) := heap_setCell_same _ N 1 _ _ _ h0
  have h2 : (((w.setCell ⟨N, 0, none⟩ x0).setCell ⟨N, 1, none⟩ x1).setCell ⟨N, 2, none⟩ x2).heap[N]? = some (.cells #[x0, x1, x2, y3, y4, y5] t (0, 0)) := heap_setCell_same _ N 2 _ _ _ h1
  have h3 : ((((w.setCell ⟨N, 0, none⟩ x0).setCell ⟨N, 1, none⟩ x1).setCell ⟨N, 2, none⟩ x2).setCell ⟨N, 3, none⟩ x3).heap[N]? = some (.cells #[x0, x1, x2, x3, y4, y5] t (0, 0)) := heap_setCell_same _ N 3 _ _ _ h2
  have h4 : (((((w.setCell ⟨N, 0, none⟩ x0).setCell ⟨N, 1, none⟩ x1).setCell ⟨N, 2, none⟩ x2).setCell ⟨N, 3, none⟩ x3).setCell ⟨N, 4, none⟩ x4).heap[N]? = some (.cells #[x0, x1, x2, x3, x4, y5] t (0, 0)) := heap_setCell_same _ N 4 _ _ _ h3
  have h5 : ((((((w.setCell ⟨N, 0, none⟩ x0).setCell ⟨N, 1, none⟩ x1).setCell ⟨N, 2, none⟩ x2).setCell ⟨N, 3, none⟩ x3).setCell ⟨N, 4, none⟩ x4).setCell ⟨N, 5, none⟩ x5).heap[N]? = some (.cells #[x0, x1, x2, x3, x4, x5] t (0, 0)) := heap_setCell_same _ N 5 _ _ _ h4
  exact h5
/-- What a draw of a layout leaves. -/
def DrawnY (g Bc : Nat) (A : Option Addr) (n c : Nat) (code : List Int) (w : World) (x : Ending) (w' : World) : Prop :=
  ∃ p k γ D K C : Int, x = .returned (.agg #[.int .i64 p, .int .i64 k, .int .i64 γ, .int .i64 D, .int .i64 K, .int .i64 C]) ∧ 0 ≤ D ∧ D ≤ 3000 ∧ 0 ≤ K ∧ K ≤ 3000 ∧ 0 ≤ C ∧ C ≤ 4000 ∧ Src w' g Bc A n c code ∧ w.grownBy w' (some g)
/-- A field that lies in a block, and whether it is small. -/
def fs11 (wr : World) (N : Nat) : Nat := match wr.heap[N]? with
  | some (Obj.cells cs _ _) => (match cs[0]?, cs[1]? with | some (Value.int _ p), some (Value.int _ k) => if sizeI p k < 11 then 1 else 0 | _, _ => 0)
  | _ => 0
theorem fs11_is {wr : World} {N : Nat} {p k γ : Int} {t : TypeId} {fr : Nat × Nat} (h : wr.heap[N]? = some (.cells #[.int .i64 p, .int .i64 k, .int .i64 γ] t fr)) : fs11 wr N = if sizeI p k < 11 then 1 else 0 := by
  unfold fs11; rw [h]; rfl
def LyRel (w : World) (g Bc : Nat) (A : Option Addr) (n c : Nat) (code : List Int) (N : Nat) (u : Value) (wr : World) : Prop :=
  ∃ (p k γ : Int) (q : Nat) (mul : Nat → Nat → Nat), wr.heap[N]? = some (.cells #[.int .i64 p, .int .i64 k, .int .i64 γ] 25 (0, 0)) ∧ Hid (Kd p k γ q mul ∧ q ≤ 256) ∧ Src wr g Bc A n c code ∧ YRow wr w.heap.size 0 0 0 0 0 0 ∧ w.grownBy wr (some g)

set_option maxRecDepth 100000 in
set_option maxHeartbeats 4000000 in
theorem drawLay (g Bc : Nat) (A : Option Addr) (n c : Nat) (code : List Int) (w : World) (hS : Src w g Bc A n c code) :
    Calls Try.prog 69 #[.pointer (some ⟨g, 0, none⟩)] w (DrawnY g Bc A n c code w) := by
  have hgl := hS.lt
  have HS := hide ((hS.still (World.grownBy_alloc w (.cells #[.int .i64 0, .int .i64 0, .int .i64 0, .int .i64 0, .int .i64 0, .int .i64 0] 27) none) (by simp)))
  have HZ := hide (show YRow (w.alloc (.cells #[.int .i64 0, .int .i64 0, .int .i64 0, .int .i64 0, .int .i64 0, .int .i64 0] 27)) w.heap.size 0 0 0 0 0 0 from heap_alloc_new w _)
  clear hS
  go_enter Try.func69, Try.ntmps69
  go_wp2_with fail
  refine (drawFieldV g Bc A n c code _ HS.out).mono ?_
  rintro e w1 ⟨p, k, γ, q, mul, rfl, hf, hK, hq, hs, hg⟩
  have HS1 := hide (hs.still (World.grownBy_alloc w1 (.cells #[.int .i64 p, .int .i64 k, .int .i64 γ] 25) none) (by simp))
  have hz1 := row_grown HZ.out hg (show g ≠ w.heap.size by omega)
  have HZ1 := hide (show YRow (w1.alloc (.cells #[.int .i64 p, .int .i64 k, .int .i64 γ] 25)) w.heap.size 0 0 0 0 0 0 from row_old hz1 _)
  have HG1 := hide (grown_alloc (grown_trans (World.grownBy_alloc w _ (some g)) hg) (.cells #[.int .i64 p, .int .i64 k, .int .i64 γ] 25))
  have HF1 := hide (heap_alloc_new w1 (.cells #[.int .i64 p, .int .i64 k, .int .i64 γ] 25 (0, 0)))
  have hl1 : w.heap.size < w1.heap.size := (Array.getElem?_eq_some_iff.1 hz1).1
  have HQ1 := hide (And.intro hK hq)
  clear hs hg hf hK hq hz1
  go_wp2_with fail
  obtain ⟨N, hN⟩ : ∃ N, N = w1.heap.size := ⟨_, rfl⟩
  rw [← hN] at HF1
  have hwN : w.heap.size < N := by omega
  have hgN : g < N := by omega
  go_loopw [8] (fun u wr => LyRel w g Bc A n c code N u wr) (fun _ wr => fs11 wr N)
  case atStart => exact ⟨p, k, γ, q, mul, HF1.out, HQ1.out, HS1.out, HZ1.out, HG1.out⟩
  case round =>
    clear HF1 HQ1 HS1 HZ1 HG1 HS HZ
    obtain ⟨p, k, γ, q, mul, HF, HQ, HS, HZ, HG⟩ := hrel
    have HF := hide HF
    have HS := hide HS
    have HZ := hide HZ
    have HG := hide HG
    rw [← hN]
    clear hN
    obtain ⟨c0, c1, c2⟩ := cells3 HF.out
    have HM := hide (fs11_is HF.out)
    rw [HQ.out.1.size] at HM
    have hq3 := HQ.out.1.big.1
    have hq256 := HQ.out.2
    by_cases hlt : (q : Int) < 11
    · have HM1 := hide (show fs11 wr N = 1 by rw [HM.out, if_pos hlt])
      go_wp2_with fail
      refine (specSize HQ.out.1 _).mono ?_
      rintro e w2 ⟨rfl, hb⟩
      have HF2 := hide (heap_below HF.out hb)
      have HS2 := hide (HS.out.below hb HS.out.lt)
      have HZ2 := hide (HZ.out.next hb)
      have HG2 := hide (grown_below HG.out hb HG.out.size)
      clear hb c0 c1 c2
      go_wp2_with fail
      refine (specFieldOf 16 _).mono ?_
      rintro e w3 ⟨rfl, hb⟩
      have HF3 := hide (heap_below HF2.out hb)
      have HS3 := hide (HS2.out.below hb HS2.out.lt)
      have HZ3 := hide (HZ2.out.next hb)
      have HG3 := hide (grown_below HG2.out hb HG2.out.size)
      obtain ⟨hfz, hfs⟩ := fo_size (s := 16) (by simp [Size12])
      obtain ⟨q', mul', hK', hq'⟩ := size_kd hfz hfs
      have HQ3 := hide (And.intro hK' (show q' ≤ 256 by omega))
      have HQ7 := hide hq'
      clear hb hfz hfs hK' hq'
      generalize foP 16 = p' at HQ3
      generalize foK 16 = k' at HQ3
      generalize foG 16 = γ' at HQ3
      generalize foC 16 = cc
      obtain ⟨c0, c1, c2⟩ := cells3 HF3.out
      have e0 : w3.frozen? ⟨N, 0, none⟩ = false := frozen_of_row w3 _ 0 _ _ HF3.out
      have e1 : w3.frozen? ⟨N, 1, none⟩ = false := frozen_of_row w3 _ 1 _ _ HF3.out
      have e2 : w3.frozen? ⟨N, 2, none⟩ = false := frozen_of_row w3 _ 2 _ _ HF3.out
      have HF4 := hide (show (((w3.setCell ⟨N, 0, none⟩ (.int .i64 p')).setCell ⟨N, 1, none⟩ (.int .i64 k')).setCell ⟨N, 2, none⟩ (.int .i64 γ')).heap[N]? = some (.cells #[.int .i64 p', .int .i64 k', .int .i64 γ'] 25 (0, 0)) from heap_setCell_same _ N 2 _ _ _ (heap_setCell_same _ N 1 _ _ _ (heap_setCell_same w3 N 0 _ _ _ HF3.out)))
      have HM4 := hide (fs11_is (p := p') (k := k') (γ := γ') HF4.out)
      rw [HQ3.out.1.size, ← HQ7.out, if_neg (by omega)] at HM4
      have HZ4 := hide (show YRow (((w3.setCell ⟨N, 0, none⟩ (.int .i64 p')).setCell ⟨N, 1, none⟩ (.int .i64 k')).setCell ⟨N, 2, none⟩ (.int .i64 γ')) w.heap.size 0 0 0 0 0 0 from
        row_set (row_set (row_set HZ3.out (by omega)) (by omega)) (by omega))
      go_wp2_with fail
      go_roundw
      case rel => exact ⟨p', k', γ', q', mul', HF4.out, HQ3, set3_src HS3.out hgN _ _ _, HZ4.out, set3_grown HG3.out N (Nat.le_of_lt hwN) _ _ _⟩
      case measure =>
        show fs11 _ _ < fs11 _ _
        rw [HM1.out, HM4.out]; exact Nat.zero_lt_one
    · have hd : decide ((q : Int) < 11) = false := by simpa using hlt
      go_wp2_with fail
      refine (specSize HQ.out.1 _).mono ?_
      rintro e w2 ⟨rfl, hb⟩
      have HF2 := hide (heap_below HF.out hb)
      have HS2 := hide (HS.out.below hb HS.out.lt)
      have HZ2 := hide (HZ.out.next hb)
      have HG2 := hide (grown_below HG.out hb HG.out.size)
      clear hb c0 c1 c2
      go_wp2_with fail
      refine (next_any g Bc A n c code 4 _ HS2.out (by omega)).mono ?_
      rintro e w3 ⟨y, rfl, hy0, hy1, hs, hg⟩
      have hy4 : y ≤ 3 := by omega
      have HF3 := hide (row_grown HF2.out hg (by omega))
      have HS3 := hide hs
      have HZ3 := hide (show YRow w3 w.heap.size 0 0 0 0 0 0 from row_grown HZ2.out hg (by omega))
      have HG3 := hide (grown_trans HG2.out hg)
      clear hs hg hy1
      obtain ⟨c0, c1, c2⟩ := cells3 HF3.out
      go_wp2_with fail
      refine (specSize HQ.out.1 _).mono ?_
      rintro e w4 ⟨rfl, hb⟩
      have HF4 := hide (heap_below HF3.out hb)
      have HS4 := hide (HS3.out.below hb HS3.out.lt)
      have HZ4 := hide (HZ3.out.next hb)
      have HG4 := hide (grown_below HG3.out hb HG3.out.size)
      clear hb c0 c1 c2 hlt
      go_wp2_with fail
      refine (next_any g Bc A n c code (min 5 ((q : Int) - 6)) _ HS4.out (by omega)).mono ?_
      rintro e w5 ⟨z, rfl, hz0, hz1, hs, hg⟩
      have hz5 : z ≤ 5 := by omega
      have HF5 := hide (row_grown HF4.out hg (by omega))
      have HS5 := hide hs
      have HZ5 := hide (show YRow w5 w.heap.size 0 0 0 0 0 0 from row_grown HZ4.out hg (by omega))
      have HG5 := hide (grown_trans HG4.out hg)
      clear hs hg hz1
      obtain ⟨c0, c1, c2⟩ := cells3 HF5.out
      obtain ⟨M, hM⟩ : ∃ M, IntKind.i64.wrap ((1 + y) * (1 + z)) = M := ⟨_, rfl⟩
      have hM2 : 0 ≤ M ∧ M ≤ 24 := by
        have h1 : 0 ≤ (1 + y) * (1 + z) := Int.mul_nonneg (by omega) (by omega)
        have h2 : (1 + y) * (1 + z) ≤ 4 * 6 := Int.mul_le_mul (by omega) (by omega) (by omega) (by omega)
        rw [← hM, IntWalk.i64_in _ ⟨by omega, by omega⟩]; omega
      go_wp2_with fail
      refine tail_begin (fun w' => w'.cell? ⟨N, 0, none⟩ = some (.int .i64 p) ∧ w'.cell? ⟨N, 1, none⟩ = some (.int .i64 k) ∧ w'.cell? ⟨N, 2, none⟩ = some (.int .i64 γ)) 19 (by kernel_rfl) ⟨c0, c1, c2⟩ (fun hS' => ?_)
      clear c0 c1 c2
      refine tail_take 0 rfl (by kernel_rfl) (by kernel_rfl) (by kernel_rfl) (by kernel_rfl) (fun _ _ _ h => h) (by rfl) (v := ?_) ?_ (by assumption) ?_
      rotate_left 1
      · intro w' hS'; obtain ⟨c0, c1, c2⟩ := hS'; go_simp; try with_reducible rfl
      try simp only [Act.put, List.setIfInBounds_toArray, List.set_cons_zero, List.set_cons_succ]
      refine tail_take 1 rfl (by kernel_rfl) (by kernel_rfl) (by kernel_rfl) (by kernel_rfl) (fun _ _ _ h => h) (by rfl) (v := ?_) ?_ (by assumption) ?_
      rotate_left 1
      · intro w' hS'; obtain ⟨c0, c1, c2⟩ := hS'; go_simp; try with_reducible rfl
      try simp only [Act.put, List.setIfInBounds_toArray, List.set_cons_zero, List.set_cons_succ]
      refine tail_take 2 rfl (by kernel_rfl) (by kernel_rfl) (by kernel_rfl) (by kernel_rfl) (fun _ _ _ h => h) (by rfl) (v := ?_) ?_ (by assumption) ?_
      rotate_left 1
      · intro w' hS'; obtain ⟨c0, c1, c2⟩ := hS'; go_simp; try with_reducible rfl
      try simp only [Act.put, List.setIfInBounds_toArray, List.set_cons_zero, List.set_cons_succ]
      refine tail_take 3 rfl (by kernel_rfl) (by kernel_rfl) (by kernel_rfl) (by kernel_rfl) (fun _ _ _ h => h) (by rfl) (v := ?_) ?_ (by assumption) ?_
      rotate_left 1
      · intro w' hS'; obtain ⟨c0, c1, c2⟩ := hS'; go_simp; try with_reducible rfl
      try simp only [Act.put, List.setIfInBounds_toArray, List.set_cons_zero, List.set_cons_succ]
      refine tail_take 4 rfl (by kernel_rfl) (by kernel_rfl) (by kernel_rfl) (by kernel_rfl) (fun _ _ _ h => h) (by rfl) (v := ?_) ?_ (by assumption) ?_
      rotate_left 1
      · intro w' hS'; obtain ⟨c0, c1, c2⟩ := hS'; go_simp; try with_reducible rfl
      try simp only [Act.put, List.setIfInBounds_toArray, List.set_cons_zero, List.set_cons_succ]
      refine tail_take 5 rfl (by kernel_rfl) (by kernel_rfl) (by kernel_rfl) (by kernel_rfl) (fun _ _ _ h => h) (by rfl) (v := ?_) ?_ (by assumption) ?_
      rotate_left 1
      · intro w' hS'; obtain ⟨c0, c1, c2⟩ := hS'; go_simp; try with_reducible rfl
      try simp only [Act.put, List.setIfInBounds_toArray, List.set_cons_zero, List.set_cons_succ]
      refine tail_take 8 rfl (by kernel_rfl) (by kernel_rfl) (by kernel_rfl) (by kernel_rfl) (fun _ _ _ h => h) (by rfl) (v := ?_) ?_ (by assumption) ?_
      rotate_left 1
      · intro w' hS'; obtain ⟨c0, c1, c2⟩ := hS'; go_simp; try with_reducible rfl
      try simp only [Act.put, List.setIfInBounds_toArray, List.set_cons_zero, List.set_cons_succ]
      refine tail_take 9 rfl (by kernel_rfl) (by kernel_rfl) (by kernel_rfl) (by kernel_rfl) (fun _ _ _ h => h) (by rfl) (v := ?_) ?_ (by assumption) ?_
      rotate_left 1
      · intro w' hS'; obtain ⟨c0, c1, c2⟩ := hS'; go_simp; try with_reducible rfl
      try simp only [Act.put, List.setIfInBounds_toArray, List.set_cons_zero, List.set_cons_succ]
      refine tail_take 12 rfl (by kernel_rfl) (by kernel_rfl) (by kernel_rfl) (by kernel_rfl) (fun _ _ _ h => h) (by rfl) (v := ?_) ?_ (by assumption) ?_
      rotate_left 1
      · intro w' hS'; obtain ⟨c0, c1, c2⟩ := hS'; go_simp; try with_reducible rfl
      try simp only [Act.put, List.setIfInBounds_toArray, List.set_cons_zero, List.set_cons_succ]
      refine tail_take 17 rfl (by kernel_rfl) (by kernel_rfl) (by kernel_rfl) (by kernel_rfl) (fun _ _ _ h => h) (by rfl) (v := ?_) ?_ (by assumption) ?_
      rotate_left 1
      · intro w' hS'; obtain ⟨c0, c1, c2⟩ := hS'; go_simp; try with_reducible rfl
      try simp only [Act.put, List.setIfInBounds_toArray, List.set_cons_zero, List.set_cons_succ]
      refine tail_call 6 rfl (by kernel_rfl) rfl (fun K hK => ?_)
      go_simp
      go_at_call 70; refine (next_any g Bc A n c code (1 + y) _ HS5.out.drew' (by omega)).mono ?_; rintro e w6 ⟨u, rfl, hu0, hu1, hs, hg⟩; have hu4 : u ≤ 4 := (by omega); have HF6 := hide (row_grown (w := w5.drew) HF5.out hg (by omega)); have HS6 := hide hs; have HZ6 := hide (show YRow w6 w.heap.size 0 0 0 0 0 0 from row_grown (w := w5.drew) HZ5.out hg (by omega)); have HG6 := hide (grown_trans (grown_drew HG5.out) hg); clear hs hg hu1
      refine hK.out _ _ (by (try dsimp only); exact cells3 HF6.out) (fun hS' => ?_)
      clear hK K
      try simp only [Act.put, List.setIfInBounds_toArray, List.set_cons_zero, List.set_cons_succ]
      have hwu : IntKind.i64.wrap (M + u) = M + u := IntWalk.i64_in _ ⟨by omega, by omega⟩
      refine tail_take 7 rfl (by kernel_rfl) (by kernel_rfl) (by kernel_rfl) (by kernel_rfl) (fun _ _ _ h => h) (by rfl) (v := ?_) ?_ (by assumption) ?_
      rotate_left 1
      · intro w' hS'; obtain ⟨c0, c1, c2⟩ := hS'; go_simp; try with_reducible rfl
      try simp only [Act.put, List.setIfInBounds_toArray, List.set_cons_zero, List.set_cons_succ]
      refine tail_call 10 rfl (by kernel_rfl) rfl (fun K hK => ?_)
      go_simp
      go_at_call 77; refine (specSize HQ.out.1 _).mono ?_; rintro e w7 ⟨rfl, hb⟩; have HF7 := hide (heap_below HF6.out hb); have HS7 := hide (HS6.out.below hb HS6.out.lt); have HZ7 := hide (HZ6.out.next hb); have HG7 := hide (grown_below HG6.out hb HG6.out.size); clear hb
      refine hK.out _ _ (by (try dsimp only); exact cells3 HF7.out) (fun hS' => ?_)
      clear hK K
      try simp only [Act.put, List.setIfInBounds_toArray, List.set_cons_zero, List.set_cons_succ]
      have hw3 : IntKind.i64.wrap ((q : Int) - 3) = (q : Int) - 3 := IntWalk.i64_in _ ⟨by omega, by omega⟩
      have hw4 : IntKind.i64.wrap ((q : Int) - 3 - (1 + z)) = (q : Int) - 3 - (1 + z) := IntWalk.i64_in _ ⟨by omega, by omega⟩
      refine tail_take 11 rfl (by kernel_rfl) (by kernel_rfl) (by kernel_rfl) (by kernel_rfl) (fun _ _ _ h => h) (by rfl) (v := ?_) ?_ (by assumption) ?_
      rotate_left 1
      · intro w' hS'; obtain ⟨c0, c1, c2⟩ := hS'; go_simp; try with_reducible rfl
      try simp only [Act.put, List.setIfInBounds_toArray, List.set_cons_zero, List.set_cons_succ]
      refine tail_take 13 rfl (by kernel_rfl) (by kernel_rfl) (by kernel_rfl) (by kernel_rfl) (fun _ _ _ h => h) (by rfl) (v := ?_) ?_ (by assumption) ?_
      rotate_left 1
      · intro w' hS'; obtain ⟨c0, c1, c2⟩ := hS'; go_simp; try with_reducible rfl
      try simp only [Act.put, List.setIfInBounds_toArray, List.set_cons_zero, List.set_cons_succ]
      refine tail_take 14 rfl (by kernel_rfl) (by kernel_rfl) (by kernel_rfl) (by kernel_rfl) (fun _ _ _ h => h) (by rfl) (v := ?_) ?_ (by assumption) ?_
      rotate_left 1
      · intro w' hS'; obtain ⟨c0, c1, c2⟩ := hS'; go_simp; try with_reducible rfl
      try simp only [Act.put, List.setIfInBounds_toArray, List.set_cons_zero, List.set_cons_succ]
      refine tail_call 15 rfl (by kernel_rfl) rfl (fun K hK => ?_)
      go_simp
      go_at_call 70; refine (next_any g Bc A n c code (min 6 ((q : Int) - 3 - (1 + z))) _ HS7.out (by omega)).mono ?_; rintro e w8 ⟨v, rfl, hv0, hv1, hs, hg⟩; have hv6 : v ≤ 6 := (by omega); have HF8 := hide (row_grown HF7.out hg (by omega)); have HS8 := hide hs; have HZ8 := hide (show YRow w8 w.heap.size 0 0 0 0 0 0 from row_grown HZ7.out hg (by omega)); have HG8 := hide (grown_trans HG7.out hg); clear hs hg hv1
      refine hK.out _ _ (by (try dsimp only); exact cells3 HF8.out) (fun hS' => ?_)
      clear hK K
      try simp only [Act.put, List.setIfInBounds_toArray, List.set_cons_zero, List.set_cons_succ]
      have hw5 : IntKind.i64.wrap (1 + v) = 1 + v := IntWalk.i64_in _ ⟨by omega, by omega⟩
      refine tail_take 16 rfl (by kernel_rfl) (by kernel_rfl) (by kernel_rfl) (by kernel_rfl) (fun _ _ _ h => h) (by rfl) (v := ?_) ?_ (by assumption) ?_
      rotate_left 1
      · intro w' hS'; obtain ⟨c0, c1, c2⟩ := hS'; go_simp; try with_reducible rfl
      try simp only [Act.put, List.setIfInBounds_toArray, List.set_cons_zero, List.set_cons_succ]
      refine tail_take 18 rfl (by kernel_rfl) (by kernel_rfl) (by kernel_rfl) (by kernel_rfl) (fun _ _ _ h => h) (by rfl) (v := ?_) ?_ (by assumption) ?_
      rotate_left 1
      · intro w' hS'; obtain ⟨c0, c1, c2⟩ := hS'; go_simp; try with_reducible rfl
      try simp only [Act.put, List.setIfInBounds_toArray, List.set_cons_zero, List.set_cons_succ]
      obtain ⟨z0, z1, z2, z3, z4, z5, f0, f1, f2, f3, f4, f5⟩ := row6c HZ8.out
      refine tail_last 19 rfl (by kernel_rfl) (by kernel_rfl) rfl rfl (fun K hK => ?_)
      go_simp
      refine hK.out _ _ ?_
      clear hK K
      try simp only [Act.put, List.setIfInBounds_toArray, List.set_cons_zero, List.set_cons_succ]
      have HZ9 := hide (row_set6 HZ8.out (.int .i64 p) (.int .i64 k) (.int .i64 γ) (.int .i64 (M + u)) (.int .i64 (1 + v)) (.int .i64 (1 + y)))
      have HS9 := hide (src_set6 HS8.out hgl (.int .i64 p) (.int .i64 k) (.int .i64 γ) (.int .i64 (M + u)) (.int .i64 (1 + v)) (.int .i64 (1 + y)))
      have HG9 := hide (grown_set6 HG8.out w.heap.size (Nat.le_refl _) (.int .i64 p) (.int .i64 k) (.int .i64 γ) (.int .i64 (M + u)) (.int .i64 (1 + v)) (.int .i64 (1 + y)))
      have hz9 := HZ9.out
      unfold set6 at hz9
      obtain ⟨y0, y1, y2, y3, y4, y5, -, -, -, -, -, -⟩ := row6c hz9
      clear hz9 z0 z1 z2 z3 z4 z5 f0 f1 f2 f3 f4 f5
      go_wp2_with fail
      refine bodyPost_ret (v := .agg #[.int .i64 p, .int .i64 k, .int .i64 γ, .int .i64 (M + u), .int .i64 (1 + v), .int .i64 (1 + y)]) (by simp [results, Try.results69, go_sem, y0, y1, y2, y3, y4, y5]) rfl ⟨p, k, γ, _, _, _, rfl, by omega, by omega, by omega, by omega, by omega, by omega, HS9.out, HG9.out⟩
end Go.Proofs.Ytkdpkbnhckpnoaa
