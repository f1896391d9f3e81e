/-
  Slices of slices of integers: run equations.
  Condition: the bounds lie within.
-/
import Derived.Test.YtlphodhecaagbaaGreatCode2
namespace Go.Proofs.YtlphodhecaagbaaGreat
open Go.RowKit
set_option linter.unusedSimpArgs false
set_option linter.unusedVariables false

theorem under64 : Tryz.prog.underlying 28 = some (.slice (Tryz.prog.elem 28)) := by kernel_rfl
theorem size64 (w : World) : (sizeOf (Tryz.prog.elem 28)).run Tryz.prog w = .ok 1 w := by
  have h : Tryz.prog.elem 28 = 2 := by kernel_rfl
  rw [h]
  obtain ⟨i, hi, hz0, hz1, hz2⟩ := info_parts info64
  simp [sizeOf, typeInfo, hi, hz1]
theorem addr_add0 (a : Addr) : a.add 0 = a := by unfold Addr.add; split <;> simp_all
theorem run_cut_h (A : Option Addr) (m c s : Nat) (h : s ≤ c) (w : World) : (Instr.sliceAt 28 (.slice A m c) none (some (.int .i64 (s : Int))) none).run Tryz.prog w = .ok (.slice A s c) w := by
  rw [run_sliceAt_slice w _ _ _ _ _ under64, run_slice_h w _ A m c under64 .i64 (s : Int) (by omega) (by omega), size64, Result.andThen_ok, sliced]
  simp only [Int.toNat_natCast, Nat.sub_zero, Nat.zero_mul, addr_add0, Option.map_id', ite_self]
theorem run_cut_l (A : Option Addr) (m c s : Nat) (h : s ≤ m) (w : World) : (Instr.sliceAt 28 (.slice A m c) (some (.int .i64 (s : Int))) none none).run Tryz.prog w = .ok (.slice (subA A c s) (m - s) (c - s)) w := by
  rw [run_sliceAt_slice w _ _ _ _ _ under64, run_slice_l w _ A m c under64 .i64 (s : Int) (by omega) (by omega), size64, Result.andThen_ok, sliced]
  simp only [Int.toNat_natCast, Nat.mul_one]
  rfl
theorem run_cut_lh (A : Option Addr) (m c lo hi : Nat) (h : lo ≤ hi) (h2 : hi ≤ c) (w : World) : (Instr.sliceAt 28 (.slice A m c) (some (.int .i64 (lo : Int))) (some (.int .i64 (hi : Int))) none).run Tryz.prog w = .ok (.slice (subA A c lo) (hi - lo) (c - lo)) w := by
  rw [run_sliceAt_slice w _ _ _ _ _ under64, run_slice_lh w _ A m c under64 .i64 .i64 (lo : Int) (hi : Int) (by omega) (by omega) (by omega), size64, Result.andThen_ok, sliced]
  simp only [Int.toNat_natCast, Nat.mul_one]
  rfl
theorem Ints.headI {k : IntKind} {w : World} {B n m : Nat} {A : Option Addr} {zs : List Int} (h : Ints k w B A n zs) (hm : m ≤ n) : Ints k w B A m (zs.take m) := by
  refine ⟨by rw [List.length_take, h.len]; omega, fun h0 => ?_⟩
  obtain ⟨b, off, h1, h2, h3⟩ := h.2 (by omega)
  exact ⟨b, off, h1, h2, fun j x hx => h3 j x (by rw [List.getElem?_take] at hx; split at hx; exact hx; cases hx)⟩
theorem Ints.rest {k : IntKind} {w : World} {B n c s : Nat} {A : Option Addr} {zs : List Int} (h : Ints k w B A n zs) (hc : n ≤ c) (hs : s ≤ n) : Ints k w B (subA A c s) (n - s) (zs.drop s) := by
  have := h.sub hc (lo := s) (m := n - s) (by omega)
  rwa [List.take_of_length_le (by rw [List.length_drop, h.len]; exact Nat.le_refl _)] at this
end Go.Proofs.YtlphodhecaagbaaGreat
