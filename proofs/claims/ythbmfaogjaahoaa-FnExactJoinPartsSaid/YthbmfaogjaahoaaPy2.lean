/-
  The bits of elements, of the model and of the program.
  Condition: as each statement says.
-/
import Derived.Test.YthbmfaogjaahoaaPy1
import Derived.Test.YthbmfaogjaahoaaAppend
import Derived.Test.YthbmfaogjaahoaaDist
namespace Go.Proofs.Ythbmfaogjaahoaa
open Go.RowKit
set_option linter.unusedSimpArgs false
set_option linter.unusedVariables false

/-- The bits of the first elements. -/
def ebP (W : Nat) (zs : List Int) (j : Nat) : List Int := (zs.take j).flatMap fun x => bitsOf x W
theorem ebP_succ {W : Nat} {zs : List Int} {j : Nat} {x : Int} (hx : zs[j]? = some x) : ebP W zs (j + 1) = ebP W zs j ++ bitsOf x W := by
  unfold ebP
  rw [List.take_add_one, hx]
  simp [List.flatMap_append]
theorem ebP_len (W : Nat) (zs : List Int) : ∀ j, j ≤ zs.length → (ebP W zs j).length = j * W := by
  intro j
  induction j with
  | zero => intro _; simp [ebP]
  | succ j ih =>
    intro h
    obtain ⟨x, hx⟩ : ∃ x, zs[j]? = some x := ⟨_, List.getElem?_eq_getElem (by omega)⟩
    rw [ebP_succ hx, List.length_append, ih (by omega), bitsOf_len, Nat.add_mul, Nat.one_mul]
/-- Whether numbers fit in a width. -/
def fitL (W : Nat) (zs : List Int) : Bool := zs.all fun x => decide (x < ((2 ^ W : Nat) : Int))
/-- The code of ElementBits for a valid field with so many elements. -/
def ebK (q : Nat) (zs : List Int) : Int :=
  if (1 ≤ zs.length ∧ zs.length ≤ 1500) ∧ zs.all (elB q) = true then (if zs.length * wdt q ≤ 8192 then (if fitL (wdt q) zs then 0 else 6) else 3) else 2
def ebR (q : Nat) (zs : List Int) : List Int := if ebK q zs = 0 then ebP (wdt q) zs zs.length else []
theorem ebR_len (q : Nat) (zs : List Int) : (ebR q zs).length ≤ 8192 := by
  unfold ebR
  split
  · rename_i h
    rw [ebP_len _ _ _ (Nat.le_refl _)]
    unfold ebK at h
    split at h
    · split at h
      · assumption
      · omega
    · omega
  · simp

set_option maxRecDepth 100000 in
set_option maxHeartbeats 1000000 in
theorem implCap (x : Int) (w : World) : Calls Try.prog 56 #[.int .i64 x] w fun e w' => e = .returned (.bool (inR x 1 1500)) ∧ w' = w := by
  by_cases h : 1 ≤ x
  · by_cases h2 : x ≤ 1500
    · rw [inR_yes h h2]
      go_enter Try.func56, Try.ntmps56
      go_wp2_with fail
      go_ret
      exact ⟨rfl, rfl⟩
    · rw [inR_no (.inr (by omega))]
      go_enter Try.func56, Try.ntmps56
      go_wp2_with fail
      go_ret
      exact ⟨by simp [h2], rfl⟩
  · rw [inR_no (.inl (by omega))]
    go_enter Try.func56, Try.ntmps56
    go_wp2_with fail
    go_ret
    exact ⟨by simp [h], rfl⟩
set_option maxRecDepth 100000 in
set_option maxHeartbeats 1000000 in
theorem specCap (x : Int) (w : World) : Calls Try.prog 52 #[.int .i64 x] w fun e w' => e = .returned (.bool (inR x 1 1500)) ∧ w' = w := by
  go_enter Try.func52, Try.ntmps52
  go_wp2_with fail
  refine (specIn_is x 1 1500 _ _ rfl).mono ?_
  rintro e w1 ⟨rfl, rfl⟩
  go_wp2_with fail
  go_ret
  exact ⟨rfl, rfl⟩
end Go.Proofs.Ythbmfaogjaahoaa
