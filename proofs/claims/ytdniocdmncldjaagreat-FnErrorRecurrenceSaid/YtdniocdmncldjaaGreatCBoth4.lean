/-
  The functions of chapter 4, of the model and of the program, side by side, whatever the arguments.
  Condition: lists shorter than 2^20; the numbers are int64s.
-/
import Derived.Test.YtdniocdmncldjaaGreatCBoth3
namespace Go.Proofs.YtdniocdmncldjaaGreat
open Go.RowKit

theorem iv_mid {R : Fld} {ps : List (El R)} (h : ps.length ≤ 1048576) : (iv ps).length ≤ 1099511627776 := by rw [iv_len]; omega
section
variable (p k g L C : Int) (z z' : List Int)
end
end Go.Proofs.YtdniocdmncldjaaGreat
