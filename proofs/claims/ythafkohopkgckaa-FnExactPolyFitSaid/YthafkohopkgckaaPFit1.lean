/-
  The contracts of the program's search for a repetition and of its fitted polynomials.
  Condition: the field is valid, the elements differ, and there are at most 64.
-/
import Derived.Test.YthafkohopkgckaaPSpec2
import Derived.Test.YthafkohopkgckaaFitMath
namespace Go.Proofs.Ythafkohopkgckaa
open Go.RowKit
set_option linter.unusedSimpArgs false
set_option linter.unusedVariables false

def IxRel (n : Nat) (v : Int) (zs : List Int) (i : Value) : Prop := ∃ j : Nat, j ≤ n ∧ i = .int .i64 j ∧ Hid (v ∉ zs.take j)
theorem mem_snoc {v x : Int} {zs : List Int} {j : Nat} (hx : zs[j]? = some x) (h : v ∉ zs.take j) (hne : v ≠ x) : v ∉ zs.take (j + 1) := by
  rw [take_snocI hx, List.mem_append]
  simp [h, hne]

def IxPost (v : Int) (zs : List Int) (w : World) (e : Ending) (w' : World) : Prop := ∃ r : Int, e = .returned (.int .i64 r) ∧ w = w' ∧ decide (0 ≤ r) = decide (v ∈ zs)
/-- Whether a list has an element twice. -/
def twB (zs : List Int) : Bool := decide (¬ zs.Nodup)

set_option maxHeartbeats 1000000 in
theorem indexI (A : Option Addr) (n c B : Nat) (v : Int) (zs : List Int) (w : World) (hI : Ints .i64 w B A n zs) (hn : n ≤ 1099511627776) :
    Calls Try.prog 117 #[.slice A n c, .int .i64 v] w (IxPost v zs w) := by
  have HI := hide hI
  have hl := hide hI.len
  clear hI
  go_enter Try.func117, Try.ntmps117
  go_wp2_with fail
  go_loop [8] (fun i => IxRel n v zs i) (fun i => n - (intOf i).toNat)
  case atStart => exact ⟨0, by omega, rfl, by simp [Hid]⟩
  case round =>
    obtain ⟨j, hj, rfl, HA⟩ := hrel
    by_cases hlt : j < n
    · obtain ⟨b, off, x, rfl, hb, hx, hc⟩ := HI.out.at_ hlt
      have HXX := hide hx
      clear hx
      by_cases hv : v = x
      · subst hv
        have HF := hide (show decide ((0 : Int) ≤ (j : Int)) = decide (v ∈ zs) by
          have := List.mem_of_getElem? HXX.out; simp [this])
        go_wp2_with fail
        go_ret
        exact ⟨_, rfl, rfl, HF⟩
      · have e0 : (v == x) = false := by simpa using hv
        have HN := hide (mem_snoc HXX.out HA.out hv)
        clear hv
        go_wp2_with fail
        go_round
        case rel => exact ⟨j + 1, by omega, by go_num, HN⟩
        case measure => simp [intOf]; omega
    · have HF := hide (show decide ((0 : Int) ≤ -1) = decide (v ∈ zs) by
        have h1 := HA.out
        rw [List.take_of_length_le (by rw [hl.out]; omega)] at h1
        simp [h1])
      go_wp2_with fail
      go_ret
      exact ⟨_, rfl, rfl, HF⟩
theorem containsI (A : Option Addr) (n c B : Nat) (v : Int) (zs : List Int) (w : World) (hI : Ints .i64 w B A n zs) (hn : n ≤ 1099511627776) :
    Calls Try.prog 109 #[.slice A n c, .int .i64 v] w fun e w' => e = .returned (.bool (decide (v ∈ zs))) ∧ w = w' := by
  go_enter Try.func109, Try.ntmps109
  go_wp2_with fail
  refine (indexI A n c B v zs _ hI hn).mono ?_
  rintro e w1 ⟨r, rfl, rfl, hr⟩
  have HR := hide hr.symm
  clear hr
  go_wp2_with fail
  go_ret
  exact ⟨ret_bool HR, rfl⟩

def TwRel (n : Nat) (zs : List Int) (i : Value) : Prop := ∃ j : Nat, j ≤ n ∧ i = .int .i64 j ∧ Hid ((zs.take j).Nodup)
theorem nodup_snoc {x : Int} {zs : List Int} {j : Nat} (hx : zs[j]? = some x) (h : (zs.take j).Nodup) (hne : x ∉ zs.take j) : (zs.take (j + 1)).Nodup := by
  rw [take_snocI hx, List.nodup_append]
  refine ⟨h, by simp, fun a ha b hb => ?_⟩
  obtain rfl : b = x := by simpa using hb
  exact fun e => hne (e ▸ ha)
theorem twice_of {x : Int} {zs : List Int} {j : Nat} (hx : zs[j]? = some x) (hm : x ∈ zs.take j) : twB zs = true := by
  rw [twB, decide_eq_true_eq]
  intro h
  have h1 : (zs.take (j + 1)).Nodup := h.sublist (List.take_sublist _ _)
  rw [take_snocI hx, List.nodup_append] at h1
  exact h1.2.2 x hm x (by simp) rfl

set_option maxHeartbeats 1000000 in
theorem implTwice (A : Option Addr) (n c B : Nat) (zs : List Int) (w : World) (hI : Ints .i64 w B A n zs) (hn : n ≤ 1099511627776) (hcap : n ≤ c) :
    Calls Try.prog 81 #[.slice A n c] w fun e w' => e = .returned (.bool (twB zs)) ∧ w = w' := by
  have HI := hide hI
  have hl := hide hI.len
  clear hI
  go_enter Try.func81, Try.ntmps81
  go_wp2_with fail
  go_loop [7] (fun i => TwRel n zs i) (fun i => n - (intOf i).toNat)
  case atStart => exact ⟨0, by omega, rfl, by simp [Hid]⟩
  case round =>
    obtain ⟨j, hj, rfl, HA⟩ := hrel
    by_cases hlt : j < n
    · obtain ⟨b, off, x, rfl, hb, hx, hc⟩ := HI.out.at_ hlt
      have HXX := hide hx
      have HS := hide (show Ints .i64 w B (some ⟨b, off, none⟩) j (zs.take j) by
        refine ⟨by rw [List.length_take, hl.out]; omega, fun hp => ?_⟩
        obtain ⟨b', off', h1, hb', hcell⟩ := HI.out.2 (by omega)
        simp only [Option.some.injEq, Addr.mk.injEq, and_true] at h1
        obtain ⟨rfl, rfl⟩ := h1
        refine ⟨b, off, rfl, hb', fun i y hy => hcell i y ?_⟩
        rw [List.getElem?_take] at hy
        split at hy
        · exact hy
        · cases hy)
      clear hx
      by_cases hm : x ∈ zs.take j
      · have HF := hide (twice_of HXX.out hm)
        have e0 : decide (x ∈ zs.take j) = true := by simpa using hm
        go_wp2_with fail
        refine (containsI _ j c B x (zs.take j) _ HS.out (by omega)).mono ?_
        rw [e0]
        clear hm e0
        rintro e w1 ⟨rfl, rfl⟩
        go_wp2_with fail
        go_ret
        exact ⟨ret_bool HF, rfl⟩
      · have e0 : decide (x ∈ zs.take j) = false := by simpa using hm
        have HN := hide (nodup_snoc HXX.out HA.out hm)
        go_wp2_with fail
        refine (containsI _ j c B x (zs.take j) _ HS.out (by omega)).mono ?_
        rw [e0]
        clear hm e0
        rintro e w1 ⟨rfl, rfl⟩
        go_wp2_with fail
        go_round
        case rel => exact ⟨j + 1, by omega, by go_num, HN⟩
        case measure => simp [intOf]; omega
    · have HF := hide (show twB zs = false by
        have h1 := HA.out
        rw [List.take_of_length_le (by rw [hl.out]; omega)] at h1
        simp [twB, h1])
      go_wp2_with fail
      go_ret
      exact ⟨ret_bool HF, rfl⟩
end Go.Proofs.Ythafkohopkgckaa
