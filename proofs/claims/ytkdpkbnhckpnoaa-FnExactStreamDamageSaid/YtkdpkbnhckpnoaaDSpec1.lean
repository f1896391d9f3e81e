/-
  The contracts of locators, valid indices, locator polynomials, the indices that one locates, and of equal lists, of the model.
  Condition: the code is valid.
-/
import Derived.Test.YtkdpkbnhckpnoaaDImpl4
import Derived.Test.YtkdpkbnhckpnoaaCode7
import Derived.Test.YtkdpkbnhckpnoaaTail2
namespace Go.Proofs.Ytkdpkbnhckpnoaa
open Go.RowKit
set_option linter.unusedSimpArgs false
set_option linter.unusedVariables false

section
variable {R : Fld} {γ : El R} {p k g : Int} {l c : Nat}
theorem specPowE (h : CodeIs R γ p k g l c) (j : Nat) (hj : j ≤ 1000) (w : World) :
    Calls Try.prog 135 #[.agg #[.int .i64 p, .int .i64 k, .int .i64 g], .int .i64 γ.val, .int .i64 j] w (Gives (.int .i64 ((epw γ j).val : Nat)) w) := by
  rw [epw_val]; exact specPow0 h.fld.kind γ.val j γ.lt (by omega) w

def IxRel (w : World) (p k g : Int) (L C : Int) (n : Nat) (zs : List Int) (i : Value) (wr : World) : Prop :=
  ∃ (j : Nat) (lo : Int), j ≤ n ∧ i = .int .i64 j ∧ Hid (idxF L lo (zs.drop j) = idxB L zs) ∧ ((j = 0 ∧ lo = 0) ∨ ∃ (i' : Nat) (y : Int), j = i' + 1 ∧ zs[i']? = some y ∧ lo = y + 1 ∧ 0 ≤ y ∧ y < L) ∧ CBox w wr p k g L C

def SpRel (w : World) (p k g : Int) (l c : Nat) (γ : El R) (J : List Nat) (v i : Value) (wr : World) : Prop :=
  ∃ (j : Nat) (Ap : Option Addr) (cp : Nat), j ≤ J.length ∧ i = .int .i64 j ∧ v = .slice Ap (j + 1) cp ∧ Own wr (w.heap.size + 1) 2 .i64 (.slice Ap (j + 1) cp) (iv (locP (locs γ l (J.take j)))) ∧ CBox w wr p k g l c

def SfRel (w : World) (p k g : Int) (l c : Nat) (γ : El R) (ps : List (El R)) (v i : Value) (wr : World) : Prop :=
  ∃ j : Nat, j ≤ l ∧ i = .int .i64 j ∧ Own wr (w.heap.size + 1) 2 .i64 v (nv (hitN γ l j ps)) ∧ CBox w wr p k g l c

end

def SmRel (w : World) (n : Nat) (zs ys : List Int) (i : Value) (wr : World) : Prop :=
  ∃ j : Nat, j ≤ n ∧ i = .int .i64 j ∧ Hid (decide (zs.drop j = ys.drop j) = decide (zs = ys)) ∧ Below w.heap.size w wr

def HsRel (n : Nat) (z : Int) (zs : List Int) (i : Value) : Prop := ∃ j : Nat, j ≤ n ∧ i = .int .i64 j ∧ Hid (decide (z ∈ zs.drop j) = decide (z ∈ zs))
set_option maxHeartbeats 2000000 in
theorem specHas (A : Option Addr) (n c B : Nat) (zs : List Int) (z : Int) (w : World) (hI : Ints .i64 w B A n zs) (hn : n ≤ 1099511627776) :
    Calls Try.prog 66 #[.slice A n c, .int .i64 z] w fun e w' => e = .returned (.bool (decide (z ∈ zs))) ∧ w = w' := by
  have HZ := hide hI.len
  have HI := hide hI
  clear hI
  go_enter Try.func66, Try.ntmps66
  go_wp2_with fail
  go_loop [5] (fun i => HsRel n z zs i) (fun i => n - (intOf i).toNat)
  case atStart => exact ⟨0, by omega, rfl, rfl⟩
  case round =>
    obtain ⟨j, hj, rfl, HR⟩ := hrel
    by_cases hlt : j < n
    · obtain ⟨b, off, x, rfl, hb, hx, hc⟩ := HI.out.at_ hlt
      have HD := hide (drop_at hx)
      clear hx
      by_cases hxy : x = z
      · have HF := hide (show decide (z ∈ zs) = true by
          rw [← HR.out, HD.out, hxy]; simp)
        subst hxy
        go_wp2_with fail
        go_ret
        exact ⟨ret_bool HF, rfl⟩
      · have HN := hide (show decide (z ∈ zs.drop (j + 1)) = decide (z ∈ zs) by
          rw [← HR.out, HD.out]; simp [Ne.symm hxy])
        have e1 : (x == z) = false := by simpa using hxy
        clear hxy
        go_wp2_with fail
        go_round
        case rel => exact ⟨j + 1, by omega, by go_num, HN⟩
        case measure => simp [intOf]; omega
    · have HF := hide (show decide (z ∈ zs) = false by
        rw [← HR.out, List.drop_of_length_le (by rw [HZ.out]; omega)]; rfl)
      go_wp2_with fail
      go_ret
      exact ⟨ret_bool HF, rfl⟩

section
variable {R : Fld}
end
end Go.Proofs.Ytkdpkbnhckpnoaa
