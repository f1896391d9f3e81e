/-
  Whether a list has a number: the program and the model; the standard format.
  Condition: the list is shorter than 2^40.
-/
import Derived.Test.YtncgeoliboidhaaGreatWords
import Derived.Test.YtncgeoliboidhaaGreatMarks
namespace Go.Proofs.YtncgeoliboidhaaGreat
open Go.RowKit
set_option linter.unusedSimpArgs false
set_option linter.unusedVariables false

theorem drop_atF {zs : List Int} {j : Nat} {x : Int} (h : zs[j]? = some x) : zs.drop j = x :: zs.drop (j + 1) := by
  obtain ⟨hj, e⟩ := List.getElem?_eq_some_iff.1 h
  rw [List.drop_eq_getElem_cons hj, e]

def InRelF (n : Nat) (z : Int) (zs : List Int) (i : Value) : Prop := ∃ j : Nat, j ≤ n ∧ i = .int .i64 j ∧ Hid (z ∈ zs.drop j ↔ z ∈ zs)
/-- Where an element is found. -/
def FoundAtF (b : Bool) (w : World) (x : Ending) (w' : World) : Prop := ∃ m : Int, x = .returned (.int .i64 m) ∧ decide (0 ≤ m) = b ∧ w = w'
set_option maxRecDepth 100000 in
set_option maxHeartbeats 2000000 in
theorem implIndexF (A : Option Addr) (n c B : Nat) (zs : List Int) (z : Int) (w : World) (hI : Ints .i64 w B A n zs) (hn : n ≤ 1099511627776) :
    Calls Tryz.prog 119 #[.slice A n c, .int .i64 z] w (FoundAtF (decide (z ∈ zs)) w) := by
  have HZ := hide hI.len
  have HI := hide hI
  clear hI
  go_enter Tryz.func119, Tryz.ntmps119
  go_wp2_with fail
  go_loop [8] (fun i => InRelF n z zs i) (fun i => n - (intOf i).toNat)
  case atStart => exact ⟨0, by omega, rfl, Iff.rfl⟩
  case round =>
    obtain ⟨j, hj, rfl, HR⟩ := hrel
    by_cases hlt : j < n
    · obtain ⟨b, off, x, rfl, hb, hx, hc⟩ := HI.out.at_ hlt
      have HD := hide (drop_atF hx)
      clear hx
      by_cases hxy : z = x
      · have HF := hide (show decide ((0 : Int) ≤ (j : Int)) = decide (z ∈ zs) by
          rw [Bool.eq_iff_iff, decide_eq_true_eq, decide_eq_true_eq, ← HR.out, HD.out, hxy]
          exact ⟨fun _ => List.mem_cons_self .., fun _ => by omega⟩)
        subst hxy
        go_wp2_with fail
        go_ret
        exact ⟨j, rfl, HF.out, rfl⟩
      · have HN := hide (show z ∈ zs.drop (j + 1) ↔ z ∈ zs by
          rw [← HR.out, HD.out, List.mem_cons]
          exact ⟨.inr, fun h => h.resolve_left hxy⟩)
        have e1 : (z == x) = false := by simpa using hxy
        clear hxy
        go_wp2_with fail
        go_round
        case rel => exact ⟨j + 1, by omega, by go_num, HN.out⟩
        case measure => simp [intOf]; omega
    · have HF := hide (show decide ((0 : Int) ≤ (-1 : Int)) = decide (z ∈ zs) by
        rw [Bool.eq_iff_iff, decide_eq_true_eq, decide_eq_true_eq, ← HR.out, List.drop_of_length_le (by rw [HZ.out]; omega)]
        exact ⟨fun h => by omega, fun h => absurd h List.not_mem_nil⟩)
      go_wp2_with fail
      go_ret
      exact ⟨-1, rfl, HF.out, rfl⟩
set_option maxHeartbeats 2000000 in
theorem implContainsF (A : Option Addr) (n c B : Nat) (zs : List Int) (z : Int) (w : World) (hI : Ints .i64 w B A n zs) (hn : n ≤ 1099511627776) :
    Calls Tryz.prog 82 #[.slice A n c, .int .i64 z] w fun e w' => e = .returned (.bool (decide (z ∈ zs))) ∧ w = w' := by
  have HI := hide hI
  clear hI
  go_enter Tryz.func82, Tryz.ntmps82
  go_wp2_with fail
  refine (implIndexF A n c B zs z w HI.out hn).mono ?_
  rintro e w1 ⟨m, rfl, hm, rfl⟩
  have HM := hide hm
  clear hm
  go_wp2_with fail
  go_ret
  exact ⟨ret_bool HM.out.symm, rfl⟩

set_option maxRecDepth 100000 in
def HsRelF (n : Nat) (z : Int) (zs : List Int) (i : Value) : Prop := ∃ j : Nat, j ≤ n ∧ i = .int .i64 j ∧ Hid (decide (z ∈ zs.drop j) = decide (z ∈ zs))
set_option maxHeartbeats 2000000 in
theorem specHasF (A : Option Addr) (n c B : Nat) (zs : List Int) (z : Int) (w : World) (hI : Ints .i64 w B A n zs) (hn : n ≤ 1099511627776) :
    Calls Tryz.prog 110 #[.slice A n c, .int .i64 z] w fun e w' => e = .returned (.bool (decide (z ∈ zs))) ∧ w = w' := by
  have HZ := hide hI.len
  have HI := hide hI
  clear hI
  go_enter Tryz.func110, Tryz.ntmps110
  go_wp2_with fail
  go_loop [5] (fun i => HsRelF n z zs i) (fun i => n - (intOf i).toNat)
  case atStart => exact ⟨0, by omega, rfl, rfl⟩
  case round =>
    obtain ⟨j, hj, rfl, HR⟩ := hrel
    by_cases hlt : j < n
    · obtain ⟨b, off, x, rfl, hb, hx, hc⟩ := HI.out.at_ hlt
      have HD := hide (drop_atF hx)
      clear hx
      by_cases hxy : x = z
      · have HF := hide (show decide (z ∈ zs) = true by
          rw [← HR.out, HD.out, hxy]; simp)
        subst hxy
        go_wp2_with fail
        go_ret
        exact ⟨ret_bool HF, rfl⟩
      · have HN := hide (show decide (z ∈ zs.drop (j + 1)) = decide (z ∈ zs) by
          rw [← HR.out, HD.out]; simp [Ne.symm hxy])
        have e1 : (x == z) = false := by simpa using hxy
        clear hxy
        go_wp2_with fail
        go_round
        case rel => exact ⟨j + 1, by omega, by go_num, HN⟩
        case measure => simp [intOf]; omega
    · have HF := hide (show decide (z ∈ zs) = false by
        rw [← HR.out, List.drop_of_length_le (by rw [HZ.out]; omega)]; rfl)
      go_wp2_with fail
      go_ret
      exact ⟨ret_bool HF, rfl⟩


set_option maxHeartbeats 1000000 in
theorem implStandardF (w : World) : Calls Tryz.prog 136 #[] w (Gives (.agg #[.int .i64 5, .int .i64 15, .int .i64 1335]) w) := by
  go_enter Tryz.func136, Tryz.ntmps136
  go_wp2_with fail
  refine bodyPost_ret (v := .agg #[.int .i64 5, .int .i64 15, .int .i64 1335]) (by simp [results, Tryz.results136, go_sem]) rfl ⟨rfl, ?_⟩
  exact (Below.refl _ _).alloc (Nat.le_refl _) _
end Go.Proofs.YtncgeoliboidhaaGreat
