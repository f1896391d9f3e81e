/-
  The contracts of the generator polynomial, values, syndromes and the test of zeros, of the model.
  Condition: the code is valid, and lists are words of it.
-/
import Derived.Test.YtkdpkbnhckpnoaaCode4
import Derived.Test.YtkdpkbnhckpnoaaJG
namespace Go.Proofs.Ytkdpkbnhckpnoaa
open Go.RowKit
set_option linter.unusedSimpArgs false
set_option linter.unusedVariables false

section
variable {R : Fld} {γ : El R} {p k g : Int} {l c : Nat}
def SgRel (w : World) (p k g : Int) (l c : Nat) (γ : El R) (v r i : Value) (wr : World) : Prop :=
  ∃ (j : Nat) (x : El R) (Ap : Option Addr) (cp : Nat), j ≤ c ∧ i = .int .i64 j ∧ v = .slice Ap (j + 1) cp ∧ r = .int .i64 (x.val : Nat) ∧ Hid (x = epw γ j) ∧ Own wr (w.heap.size + 1) 2 .i64 (.slice Ap (j + 1) cp) (iv (genP γ j)) ∧ CBox w wr p k g l c

set_option maxRecDepth 100000 in
set_option maxHeartbeats 4000000 in
theorem specGenPoly (h : CodeIs R γ p k g l c) (w : World) :
    Calls Try.prog 102 #[.agg #[.int .i64 p, .int .i64 k, .int .i64 g, .int .i64 l, .int .i64 c]] w (NewE (genP γ c) w) := by
  have HX := hide (CBox.start w p k g l c)
  have hc64 := h.c64
  have HXa := hide (HX.out.alloc (.cells #[.int .i64 1] 2))
  have HOa := hide (own_lit1 (w.alloc (.cells #[.int .i64 p, .int .i64 k, .int .i64 g, .int .i64 l, .int .i64 c] 43)) 2 .i64 1)
  rw [alloc_size] at HOa
  go_enter Try.func102, Try.ntmps102
  go_wp2_with fail
  go_loopw [3, 4, 5] (fun v r i wr => SgRel w p k g l c γ v r i wr) (fun _ _ i _ => c - (intOf i).toNat)
  case atStart => exact ⟨0, 1, _, 1, by omega, rfl, rfl, rfl, rfl, HOa.out, HXa.out⟩
  case round =>
    clear HX HXa HOa
    obtain ⟨j, x, Ap, cp, hj, rfl, rfl, rfl, HR, HO, HX⟩ := hrel
    have HX := hide HX
    have HO := hide HO
    obtain ⟨c0, c1, c2, c3, c4⟩ := HX.out.cells
    by_cases hlt : j < c
    · obtain ⟨y, hy⟩ : ∃ y, y = x * γ := ⟨_, rfl⟩
      have HY := hide hy
      have HR2 := hide (show y = epw γ (j + 1) by rw [hy, HR.out]; rfl)
      have HN := hide (show trim (mulP (genP γ j) (lin y)) = genP γ (j + 1) by rw [HR2.out]; exact trim_id (tr_gen γ (j + 1)))
      have HGL := hide (gen_len γ (j + 1))
      have hwl : w.heap.size + 1 ≤ wr.heap.size := HX.out.lt
      clear hy
      go_wp2_with fail
      go_region_held3 (fun w' => w'.cell? ⟨w.heap.size, 0, none⟩ = some (.int .i64 p) ∧ w'.cell? ⟨w.heap.size, 1, none⟩ = some (.int .i64 k) ∧ w'.cell? ⟨w.heap.size, 2, none⟩ = some (.int .i64 g))
        (first
          | exact ⟨HX.out.drew.cells.1, HX.out.drew.cells.2.1, HX.out.drew.cells.2.2.1⟩
          | exact ⟨HX2.out.cells.1, HX2.out.cells.2.1, HX2.out.cells.2.2.1⟩
          | exact ⟨HX3.out.cells.1, HX3.out.cells.2.1, HX3.out.cells.2.2.1⟩)
        (first
          | (go_at_call 123; refine (specGenerator h.gval _).mono ?_; rintro e w2 ⟨rfl, hb2⟩; have HX2 := hide (HX.out.drew.next hb2); have HO2 := hide (HO.out.drew.below hb2 (Nat.le_refl _)); clear hb2)
          | (go_at_call 112; refine (specMulE h.fld x γ _).mono ?_; rw [← HY.out]; rintro e w3 ⟨rfl, hb3⟩; have HX3 := hide (HX2.out.next hb3); have HO3 := hide (HO2.out.below hb3 (Nat.le_refl _)); clear hb3))
      clear c0 c1 c2 c3 c4
      have hwl3 : w.heap.size + 1 ≤ w3.heap.size := HX3.out.lt
      go_wp2_with fail
      go_region_held3 (fun w' => w'.cell? ⟨w.heap.size, 0, none⟩ = some (.int .i64 p) ∧ w'.cell? ⟨w.heap.size, 1, none⟩ = some (.int .i64 k) ∧ w'.cell? ⟨w.heap.size, 2, none⟩ = some (.int .i64 g))
        (first
          | exact ⟨HX3.out.drew.cells.1, HX3.out.drew.cells.2.1, HX3.out.drew.cells.2.2.1⟩
          | exact ⟨HX4.out.cells.1, HX4.out.cells.2.1, HX4.out.cells.2.2.1⟩
          | exact ⟨(HX4.out.alloc _).cells.1, (HX4.out.alloc _).cells.2.1, (HX4.out.alloc _).cells.2.2.1⟩
          | exact ⟨HX5.out.cells.1, HX5.out.cells.2.1, HX5.out.cells.2.2.1⟩)
        (first
          | (go_at_call 104; refine (specNegE h.fld y _).mono ?_; rintro e w4 ⟨rfl, hb4⟩; have HX4 := hide (HX3.out.drew.next hb4); have HO4 := hide (HO3.out.drew.below hb4 (Nat.le_refl _)); clear hb4)
          | (go_at_call 124; refine (specMulE' h.fld (genP γ j) (lin y) Ap (some ⟨w4.heap.size, 0, none⟩) (j + 1) cp 2 2 (w4.heap.size + 1) _ (by have := (HO4.out.alloc (.cells #[.int .i64 ((-y).val : Int), .int .i64 1] 2)).intsE; rw [alloc_size] at this; exact this) (ints_two w4 2 .i64 ((-y).val : Int) 1) (by rw [alloc_size]; exact Nat.le_refl _) (by omega) (by omega)).mono ?_; rw [HN.out]; rintro e w5 ⟨A5, c5, rfl, hc5, ho5, hb5⟩; rw [HGL.out] at ho5 ⊢; have HX5 := hide ((HX4.out.alloc _).next hb5); have HO5 := hide (ho5.low (base' := w.heap.size + 1) (by have := HX4.out.lt; rw [alloc_size]; omega)); clear ho5 hc5 hb5))
      go_wp2_with fail
      go_roundw
      case rel => exact ⟨j + 1, y, _, c5, by omega, by go_num, rfl, rfl, HR2, HO5.out, HX5.out⟩
      case measure => simp [intOf]; omega
    · obtain rfl : j = c := by omega
      have HGL := hide (gen_len γ j)
      have HF := hide (newE_of (w := w) HO.out HX.out.2 (Nat.le_succ _))
      go_wp2_with fail
      go_ret
      exact HF.out

def SvRel4 (w : World) (p k g L C : Int) (n : Nat) (x : El R) (ws : List (El R)) (v i : Value) (wr : World) : Prop :=
  ∃ (j : Nat) (y : El R), j ≤ n ∧ i = .int .i64 j ∧ v = .int .i64 (y.val : Nat) ∧ Hid (y = ev x (ws.take j).reverse) ∧ CBox w wr p k g L C

def SsRel (w : World) (p k g : Int) (l c : Nat) (γ : El R) (ws : List (El R)) (v r i : Value) (wr : World) : Prop :=
  ∃ (j : Nat) (x : El R), j ≤ c ∧ i = .int .i64 j ∧ r = .int .i64 (x.val : Nat) ∧ Hid (x = epw γ j) ∧ Own wr (w.heap.size + 1) 2 .i64 v (iv (tab j fun i => ev (epw γ (i + 1)) ws.reverse)) ∧ CBox w wr p k g l c

end
end Go.Proofs.Ytkdpkbnhckpnoaa
