/-
  Plain mathematics of segmentations: the bound that the narrowest mode of the whole message gives.
  No condition.
-/
import Derived.Test.YthbmfaogjaahoaaSgMath
namespace Go.Proofs.Ythbmfaogjaahoaa

/-- The length of n bytes in segments of 255 bytes at most, all but the last one of 255. -/
def lbd (m : Int) (n : Nat) : Nat := if n = 0 then 0 else if n ≤ 255 then slen m n else slen m 255 + slen m (n - 255)
theorem lbd_zero (m : Int) : lbd m 0 = 0 := rfl
theorem lbd_step {m : Int} {n : Nat} (h0 : 0 < n) (h : n ≤ 510) : lbd m n = slen m (min n 255) + lbd m (n - min n 255) := by
  by_cases h1 : n ≤ 255
  · rw [show min n 255 = n by omega, Nat.sub_self, lbd_zero, lbd, if_neg (by omega), if_pos h1]; rfl
  · rw [show min n 255 = 255 by omega, lbd, if_neg (by omega), if_neg h1]
    conv => rhs; rw [lbd, if_neg (show ¬ n - 255 = 0 by omega), if_pos (by omega)]
theorem slen_le {m : Int} {n : Nat} (h : n ≤ 255) : slen m n ≤ 2827 := by have := twid_le (m := m) h; unfold slen; omega
theorem lbd_le {m : Int} {n : Nat} (h : n ≤ 510) : lbd m n ≤ 5654 := by
  unfold lbd
  split
  · omega
  · split
    · have := slen_le (m := m) (n := n) (by omega); omega
    · have := slen_le (m := m) (n := 255) (by omega); have := slen_le (m := m) (n := n - 255) (by omega); omega
end Go.Proofs.Ythbmfaogjaahoaa
