/-
  The contract of hasInt of the laws: whether a list holds a number.
  Condition: a list shorter than 2^40.
-/
import Derived.Test.YtpheembgjdgniaaDSpec1
namespace Go.Proofs.Ytpheembgjdgniaa
open Go.RowKit
set_option linter.unusedSimpArgs false
set_option linter.unusedVariables false

def HnRel (n : Nat) (z : Int) (zs : List Int) (i : Value) : Prop := ∃ j : Nat, j ≤ n ∧ i = .int .i64 j ∧ Hid (decide (z ∈ zs.drop j) = decide (z ∈ zs))
set_option maxHeartbeats 2000000 in
theorem lawHas (A : Option Addr) (n c B : Nat) (zs : List Int) (z : Int) (w : World) (hI : Ints .i64 w B A n zs) (hn : n ≤ 1099511627776) :
    Calls Try.prog 17 #[.slice A n c, .int .i64 z] w fun e w' => e = .returned (.bool (decide (z ∈ zs))) ∧ w = w' := by
  have HZ := hide hI.len
  have HI := hide hI
  clear hI
  go_enter Try.func17, Try.ntmps17
  go_wp2_with fail
  go_loop [5] (fun i => HnRel n z zs i) (fun i => n - (intOf i).toNat)
  case atStart => exact ⟨0, by omega, rfl, rfl⟩
  case round =>
    obtain ⟨j, hj, rfl, HR⟩ := hrel
    by_cases hlt : j < n
    · obtain ⟨b, off, x, rfl, hb, hx, hc⟩ := HI.out.at_ hlt
      have HD := hide (drop_at hx)
      clear hx
      by_cases hxy : x = z
      · have HF := hide (show decide (z ∈ zs) = true by
          rw [← HR.out, HD.out, hxy]; simp)
        subst hxy
        go_wp2_with fail
        go_ret
        exact ⟨ret_bool HF, rfl⟩
      · have HN := hide (show decide (z ∈ zs.drop (j + 1)) = decide (z ∈ zs) by
          rw [← HR.out, HD.out]; simp [Ne.symm hxy])
        have e1 : (x == z) = false := by simpa using hxy
        clear hxy
        go_wp2_with fail
        go_round
        case rel => exact ⟨j + 1, by omega, by go_num, HN⟩
        case measure => simp [intOf]; omega
    · have HF := hide (show decide (z ∈ zs) = false by
        rw [← HR.out, List.drop_of_length_le (by rw [HZ.out]; omega)]; rfl)
      go_wp2_with fail
      go_ret
      exact ⟨ret_bool HF, rfl⟩
end Go.Proofs.Ytpheembgjdgniaa
