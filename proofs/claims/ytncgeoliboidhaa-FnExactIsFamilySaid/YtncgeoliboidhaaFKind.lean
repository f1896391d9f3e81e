/-
  The two kinds of fields, as what their functions reckon with; small words for walks over fields.
  No condition.
-/
import Derived.Test.YtncgeoliboidhaaWords
import Derived.Test.YtncgeoliboidhaaFieldMath2
import Derived.Test.YtncgeoliboidhaaBox
namespace Go.Proofs.Ytncgeoliboidhaa
open Go.RowKit

/-- The numbers of a struct are of one of both kinds, with the size q and the product mul. -/
inductive Kd : Int → Int → Int → Nat → (Nat → Nat → Nat) → Prop
  | one (P : Nat) (g : Int) (h3 : 3 ≤ P) (h : P ≤ 1021) : Kd P 1 g P (mul1 P)
  | two (K G : Nat) (h3 : 3 ≤ K) (h8 : K ≤ 8) (hG : 2 ^ K ≤ G) (hG2 : G < 2 ^ (K + 1)) : Kd 2 K G (2 ^ K) (mul2 K G)

theorem Kd.mon {p k g : Int} {q : Nat} {mul : Nat → Nat → Nat} (h : Kd p k g q mul) : Mon q mul := by
  cases h with
  | one P g h3 h => exact mon1 h3
  | two K G h3 h8 hG hG2 => exact mon2 h3 hG hG2
theorem pow_small {K : Nat} (h3 : 3 ≤ K) (h8 : K ≤ 8) : 8 ≤ 2 ^ K ∧ 2 ^ K ≤ 256 :=
  ⟨(Nat.pow_le_pow_right (n := 2) (by decide) h3 : 2 ^ 3 ≤ 2 ^ K), (Nat.pow_le_pow_right (n := 2) (by decide) h8 : 2 ^ K ≤ 2 ^ 8)⟩
theorem Kd.big {p k g : Int} {q : Nat} {mul : Nat → Nat → Nat} (h : Kd p k g q mul) : 3 ≤ q ∧ q ≤ 1021 := by
  cases h with
  | one P g h3 h => exact ⟨h3, h⟩
  | two K G h3 h8 hG hG2 => have := pow_small h3 h8; omega

end Go.Proofs.Ytncgeoliboidhaa
