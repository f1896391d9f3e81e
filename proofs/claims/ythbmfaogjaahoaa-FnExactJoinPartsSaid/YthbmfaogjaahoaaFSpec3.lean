/-
  The contracts of the model's FieldSize, FieldAdd, FieldNeg and FieldMul, and of what tells their errors.
  Condition: none.
-/
import Derived.Test.YthbmfaogjaahoaaFSpec2
import Derived.Deep.RegionHeld3
namespace Go.Proofs.Ythbmfaogjaahoaa
open Go.RowKit
set_option linter.unusedSimpArgs false
set_option linter.unusedVariables false

theorem in_elB {q : Nat} {x : Int} : inR x 0 ((q : Int) - 1) = elB q x := by
  rw [inR, elB, decide_eq_decide]; omega

def IsRel (w : World) (p k g : Int) (q n : Nat) (zs : List Int) (i : Value) (wr : World) : Prop :=
  ∃ j : Nat, j ≤ n ∧ i = .int .i64 j ∧ Hid ((zs.take j).all (elB q) = true) ∧ Box w wr 36 p k g

set_option maxHeartbeats 2000000 in
theorem specIs {p k g : Int} {q : Nat} {mul : Nat → Nat → Nat} (hK : Kd p k g q mul) (A : Option Addr) (n c B : Nat) (zs : List Int) (w : World) (hI : Ints .i64 w B A n zs) (hB : B ≤ w.heap.size) (hn : n ≤ 1099511627776) :
    Calls Try.prog 94 #[.agg #[.int .i64 p, .int .i64 k, .int .i64 g], .slice A n c] w (Gives (.bool (zs.all (elB q))) w) := by
  have HX := hide (Box.start w 36 p k g)
  have HI := hide hI
  have hl := hide hI.len
  obtain ⟨hq3, hq⟩ := hK.big
  clear hI
  go_enter Try.func94, Try.ntmps94
  go_wp2_with fail
  go_loopw [5] (fun i wr => IsRel w p k g q n zs i wr) (fun i _ => n - (intOf i).toNat)
  case atStart => exact ⟨0, by omega, rfl, by simp [Hid], HX⟩
  case round =>
    clear HX
    obtain ⟨j, hj, rfl, HA, HX⟩ := hrel
    have HX := hide HX
    obtain ⟨c0, c1, c2⟩ := HX.out.cells
    by_cases hlt : j < n
    · obtain ⟨b, off, x, rfl, hb, hx, hc⟩ := (HI.out.below (HX.out.2.mono hB)).at_ hlt
      have hx' := hide hx
      clear hx
      have z1 : (j : Int) < (n : Int) := by omega
      have z0 : (0 : Int) ≤ (j : Int) := by omega
      have hb' : b < wr.heap.size := by have := HX.out.lt; omega
      have HC := hide hc
      rcases he : elB q x with _ | _
      · have HF := hide (show zs.all (elB q) = false from fAll_no hx' he)
        have HIn := hide (show inR x 0 ((q : Int) - 1) = false by rw [in_elB]; exact he)
        clear he
        go_wp2_with fail
        have hwr : IntKind.i64.wrap ((q : Int) - 1) = (q : Int) - 1 := IntWalk.i64_in _ (by omega)
        go_region_held3 (fun w' => w'.cell? ⟨b, off + j, none⟩ = some (.int .i64 x) ∧ w'.cell? ⟨w.heap.size, 0, none⟩ = some (.int .i64 p) ∧ w'.cell? ⟨w.heap.size, 1, none⟩ = some (.int .i64 k) ∧ w'.cell? ⟨w.heap.size, 2, none⟩ = some (.int .i64 g))
          (first
            | go_keep
            | exact ⟨HC2.out, HX2.out.cells.1, HX2.out.cells.2.1, HX2.out.cells.2.2⟩)
          (first
            | (go_at_call 80; refine (specSize hK _).mono ?_; rintro e w2 ⟨rfl, hb2⟩; have HX2 := hide (HX.out.drew.next hb2); have HC2 := hide ((hb2.cell (p := ⟨b, off + j, none⟩) hb').trans HC.out); clear hb2)
            | (go_at_call 40; refine (specIn_is x 0 ((q : Int) - 1) _ _ HIn).mono ?_; rintro e w3 ⟨rfl, rfl⟩))
        clear hwr
        go_wp2_with fail
        go_ret
        exact ⟨ret_bool HF, HX2.out.2⟩
      · have HN := hide (all_snoc HA.out hx' he)
        have HIn := hide (show inR x 0 ((q : Int) - 1) = true by rw [in_elB]; exact he)
        clear he
        go_wp2_with fail
        have hwr : IntKind.i64.wrap ((q : Int) - 1) = (q : Int) - 1 := IntWalk.i64_in _ (by omega)
        go_region_held3 (fun w' => w'.cell? ⟨b, off + j, none⟩ = some (.int .i64 x) ∧ w'.cell? ⟨w.heap.size, 0, none⟩ = some (.int .i64 p) ∧ w'.cell? ⟨w.heap.size, 1, none⟩ = some (.int .i64 k) ∧ w'.cell? ⟨w.heap.size, 2, none⟩ = some (.int .i64 g))
          (first
            | go_keep
            | exact ⟨HC2.out, HX2.out.cells.1, HX2.out.cells.2.1, HX2.out.cells.2.2⟩)
          (first
            | (go_at_call 80; refine (specSize hK _).mono ?_; rintro e w2 ⟨rfl, hb2⟩; have HX2 := hide (HX.out.drew.next hb2); have HC2 := hide ((hb2.cell (p := ⟨b, off + j, none⟩) hb').trans HC.out); clear hb2)
            | (go_at_call 40; refine (specIn_is x 0 ((q : Int) - 1) _ _ HIn).mono ?_; rintro e w3 ⟨rfl, rfl⟩))
        clear hwr
        go_wp2_with fail
        go_roundw
        case rel => exact ⟨j + 1, by omega, by go_num, HN, HX2⟩
        case measure => simp [intOf]; omega
    · have HF := hide (show zs.all (elB q) = true by
        have h1 := HA.out
        rw [List.take_of_length_le (by rw [hl.out]; omega)] at h1
        exact h1)
      go_wp2_with fail
      go_ret
      exact ⟨ret_bool HF, HX.out.2⟩

end Go.Proofs.Ythbmfaogjaahoaa
