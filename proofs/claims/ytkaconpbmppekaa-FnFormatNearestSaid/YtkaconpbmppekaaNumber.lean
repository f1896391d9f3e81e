/-
  The contracts of NumberAt and what it calls, of the program and of the model.
  Condition: the slices are shorter than 2^40.
-/
import Derived.Test.YtkaconpbmppekaaAppend
namespace Go.Proofs.Ytkaconpbmppekaa
open Go.RowKit

theorem take_num {zs : List Int} {k : Nat} {x s : Int} (h : numVal (zs.take k) = s) (hx : zs[k]? = some x) : numVal (zs.take (k + 1)) = 2 * s + x := by
  rw [take_snocI hx, numVal_snoc, h]
theorem take_small {zs : List Int} {k : Nat} (hk : k ≤ 32) (hb : ∀ x ∈ zs, x = 0 ∨ x = 1) : 0 ≤ numVal (zs.take k) ∧ numVal (zs.take k) ≤ 4294967295 :=
  numVal_small (by rw [List.length_take]; omega) (fun x hx => hb x (List.mem_of_mem_take hx))

end Go.Proofs.Ytkaconpbmppekaa
