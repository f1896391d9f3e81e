/-
  The layout of a symbol, before it is asked whether it is valid: the program.
  Condition: the family is valid, the size is one of its sizes.
-/
import Derived.Test.YtncgeoliboidhaaGreatFmImpl3
import Derived.Test.YtncgeoliboidhaaGreatVK
namespace Go.Proofs.YtncgeoliboidhaaGreat
open Go.RowKit
set_option linter.unusedSimpArgs false
set_option linter.unusedVariables false

theorem row6F {w : World} {b : Nat} {x0 x1 x2 x3 x4 x5 : Value} {t : TypeId} (h : w.heap[b]? = some (.cells #[x0, x1, x2, x3, x4, x5] t (0, 0))) :
    w.cell? ⟨b, 0, none⟩ = some x0 ∧ w.cell? ⟨b, 1, none⟩ = some x1 ∧ w.cell? ⟨b, 2, none⟩ = some x2 ∧ w.cell? ⟨b, 3, none⟩ = some x3 ∧ w.cell? ⟨b, 4, none⟩ = some x4 ∧ w.cell? ⟨b, 5, none⟩ = some x5 ∧
    w.frozen? ⟨b, 0, none⟩ = false ∧ w.frozen? ⟨b, 1, none⟩ = false ∧ w.frozen? ⟨b, 2, none⟩ = false ∧ w.frozen? ⟨b, 3, none⟩ = false ∧ w.frozen? ⟨b, 4, none⟩ = false ∧ w.frozen? ⟨b, 5, none⟩ = false :=
  ⟨cell_of_row w b 0 _ _ _ h, cell_of_row w b 1 _ _ _ h, cell_of_row w b 2 _ _ _ h, cell_of_row w b 3 _ _ _ h, cell_of_row w b 4 _ _ _ h, cell_of_row w b 5 _ _ _ h, frozen_of_row w b 0 _ _ h, frozen_of_row w b 1 _ _ h, frozen_of_row w b 2 _ _ h, frozen_of_row w b 3 _ _ h, frozen_of_row w b 4 _ _ h, frozen_of_row w b 5 _ _ h⟩
/-- The numbers of a layout, by name. -/
theorem lo_nums {E M P : Nat} (hE1 : 1 ≤ E) (hE : E ≤ 1408) (hM1 : 1 ≤ M) (hM : M ≤ 255) (hP : P ≤ 80) :
    ∃ a cN b b2 x kN t : Nat, E + M - 1 = a ∧ a / M = cN ∧ loC E M = cN ∧ E * P = b ∧ b / 100 = b2 ∧ b2 / cN = x ∧ min (max x 2) 64 = kN ∧ loK E M P = kN ∧ cN * kN = t ∧ loD E M P = (E : Int) - (t : Int) ∧
      1 ≤ cN ∧ cN ≤ 1408 ∧ a ≤ 1700 ∧ b ≤ 112640 ∧ b2 ≤ 112640 ∧ x ≤ 112640 ∧ 2 ≤ kN ∧ kN ≤ 64 ∧ t ≤ 90112 := by
  have hc := lo_c (E := E) (M := M) hE1 hM1
  have hk := lo_k (E := E) (M := M) (P := P)
  have hb : E * P ≤ 1408 * 80 := Nat.mul_le_mul hE hP
  have hb2 := Nat.div_le_self (E * P) 100
  have hx := Nat.div_le_self (E * P / 100) (loC E M)
  have ht : loC E M * loK E M P ≤ 1408 * 64 := Nat.mul_le_mul (by omega) hk.2
  exact ⟨_, _, _, _, _, _, _, rfl, rfl, rfl, rfl, rfl, rfl, rfl, rfl, rfl, rfl, hc.1, by unfold loC at hc; omega, by omega, by omega, by omega, by unfold loC at hx; omega, hk.1, hk.2, by unfold loK loC at ht; omega⟩

set_option maxRecDepth 100000 in
set_option maxHeartbeats 8000000 in
theorem implLo {p k g : Int} {q : Nat} {mul : Nat → Nat → Nat} (hK : Kd p k g q mul) (s : ByteArray) (κ : Int) (A : Option Addr) (n c : Nat) (C : Int) (A' : Option Addr) (n' c' : Nat) (zs ls : List Int) (hF : FmIs κ p k g zs C ls) (z : Int) (hz : z ∈ zs) (P : Nat) (hP : P ≤ 80) (w : World) :
    Calls Tryz.prog 23 #[.agg #[.string s, .int .i64 κ, .int .i64 p, .int .i64 k, .int .i64 g, .slice A n c, .int .i64 C, .slice A' n' c'], .int .i64 z, .int .i64 P] w (Gives (.agg #[.int .i64 p, .int .i64 k, .int .i64 g, .int .i64 (loD (elN κ (wdt q) z C) (q - 1) P), .int .i64 (loK (elN κ (wdt q) z C) (q - 1) P : Nat), .int .i64 (loC (elN κ (wdt q) z C) (q - 1) : Nat)]) w) := by
  have HX := hide ((FBox.start w s κ p k g A n c C A' n' c').alloc (.cells #[.int .i64 0, .int .i64 0, .int .i64 0, .int .i64 0, .int .i64 0, .int .i64 0] 35))
  obtain ⟨wa, hwa⟩ : ∃ wa, w.alloc (.cells #[.string s, .int .i64 κ, .int .i64 p, .int .i64 k, .int .i64 g, .slice A n c, .int .i64 C, .slice A' n' c'] 28) = wa := ⟨_, rfl⟩
  rw [hwa] at HX
  obtain ⟨wb, hwb⟩ : ∃ wb, wa.alloc (.cells #[.int .i64 0, .int .i64 0, .int .i64 0, .int .i64 0, .int .i64 0, .int .i64 0] 35) = wb := ⟨_, rfl⟩
  rw [hwb] at HX
  have HR := hide (show wb.heap[wa.heap.size]? = some (.cells #[.int .i64 0, .int .i64 0, .int .i64 0, .int .i64 0, .int .i64 0, .int .i64 0] 35 (0, 0)) by rw [← hwb]; exact heap_alloc_new _ _)
  have HRL := hide (show wa.heap.size < wb.heap.size by rw [← hwb, alloc_size]; omega)
  have HRG := hide (show w.heap.size ≤ wa.heap.size by rw [← hwa, alloc_size]; omega)
  obtain ⟨hq8, hq256⟩ := fm_q hF.two hK
  obtain ⟨hw1, hw9, _, _⟩ := wdt_is hK.big.1 hK.big.2
  have hel := el_le hF hw1 hw9 hz
  have HEL := hide (fun w' => implEl hK s κ A n c C A' n' c' zs ls hF z hz w')
  have HSZ := hide (fun w' => implSize hK w')
  obtain ⟨E, hE⟩ : ∃ E, elN κ (wdt q) z C = E := ⟨_, rfl⟩
  rw [hE] at HEL hel
  rw [hE]
  obtain ⟨M, hM⟩ : ∃ M, q - 1 = M := ⟨_, rfl⟩
  rw [hM]
  have e1 : (q : Int) - 1 = (M : Int) := by omega
  have hM1 : 7 ≤ M := by omega
  have hM2 : M ≤ 255 := by omega
  obtain ⟨a, cN, b, b2, x, kN, t, n1, n2, n3, n4, n5, n6, n7, n8, n9, n10, r1, r2, r3, r4, r5, r6, r7, r8, r9⟩ := lo_nums (E := E) (M := M) (P := P) hel.1 hel.2 (by omega) hM2 hP
  have HN3 := hide n3
  have HN8 := hide n8
  have HN10 := hide n10
  have f1 : (E : Int) + (M : Int) - 1 = (a : Int) := by omega
  have f2 : (a : Int) / (M : Int) = (cN : Int) := by rw [← n2]; rfl
  have f2' : (a : Int).tdiv (M : Int) = (cN : Int) := by rw [Int.tdiv_eq_ediv_of_nonneg (by omega)]; exact f2
  have f3 : (E : Int) * (P : Int) = (b : Int) := by rw [← n4]; push_cast; rfl
  have f4 : (b : Int) / 100 = (b2 : Int) := by rw [← n5]; rfl
  have f4' : (b : Int).tdiv 100 = (b2 : Int) := by rw [Int.tdiv_eq_ediv_of_nonneg (by omega)]; exact f4
  have f5 : (b2 : Int) / (cN : Int) = (x : Int) := by rw [← n6]; rfl
  have f5' : (b2 : Int).tdiv (cN : Int) = (x : Int) := by rw [Int.tdiv_eq_ediv_of_nonneg (by omega)]; exact f5
  have f6 : (cN : Int) * (kN : Int) = (t : Int) := by rw [← n9]; push_cast; rfl
  have f7 : min (max (x : Int) 2) 64 = (kN : Int) := by omega
  have hM0 : (M : Int) ≠ 0 := by omega
  have hc0 : (cN : Int) ≠ 0 := by omega
  have hEE := hel.2
  obtain ⟨Dd, hDd⟩ : ∃ Dd : Int, (E : Int) - (t : Int) = Dd := ⟨_, rfl⟩
  have HDD := hide hDd
  clear n1 n2 n3 n4 n5 n6 n7 n8 n9 n10 hE hM hel hF hz
  obtain ⟨c0, c1, c2, c3, c4, c5, c6, c7⟩ := HX.out.cells
  go_enter Tryz.func23, Tryz.ntmps23
  go_wp2_with fail
  refine (HEL.out _).mono ?_
  rintro e w1 ⟨rfl, hb⟩
  have HX1 := hide (HX.out.next hb)
  have HR1 := hide (show w1.heap[wa.heap.size]? = some (.cells #[.int .i64 0, .int .i64 0, .int .i64 0, .int .i64 0, .int .i64 0, .int .i64 0] 35 (0, 0)) by rw [hb.block _ HRL.out]; exact HR.out)
  have HRL1 := hide (Nat.lt_of_lt_of_le HRL.out hb.size)
  clear hb c0 c1 c2 c3 c4 c5 c6 c7
  obtain ⟨c0, c1, c2, c3, c4, c5, c6, c7⟩ := HX1.out.cells
  go_wp2_with fail
  refine (HSZ.out _).mono ?_
  rintro e w2 ⟨rfl, hb⟩
  have HX2 := hide (HX1.out.next hb)
  have HR2 := hide (show w2.heap[wa.heap.size]? = some (.cells #[.int .i64 0, .int .i64 0, .int .i64 0, .int .i64 0, .int .i64 0, .int .i64 0] 35 (0, 0)) by rw [hb.block _ HRL1.out]; exact HR1.out)
  clear hb c0 c1 c2 c3 c4 c5 c6 c7
  obtain ⟨c0, c1, c2, c3, c4, c5, c6, c7⟩ := HX2.out.cells
  obtain ⟨b0, b1, b2', b3, b4, b5, g0, g1, g2, g3, g4, g5⟩ := row6F HR2.out
  have HBF := hide HX2.out.2
  clear hwa hwb HDD
  go_wp2_with fail
  have q1 : w.heap.size ≤ wa.heap.size := HRG.out
  refine bodyPost_ret (v := .agg #[.int .i64 p, .int .i64 k, .int .i64 g, .int .i64 Dd, .int .i64 kN, .int .i64 cN]) (by simp [results, Tryz.results23, go_sem, b0, b1, b2', b3, b4, b5]) rfl ⟨by rw [HN3.out, HN8.out, HN10.out, hDd], ?_⟩
  repeat (with_reducible refine Below.setCell ?_ (by exact q1) _)
  exact HBF.out
end Go.Proofs.YtncgeoliboidhaaGreat
