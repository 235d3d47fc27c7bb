/-
  The program's RankOfValue, CompareValues: contracts.
-/
import Derived.Test.YtadjoiahllekdaaWishProgA
import Derived.Test.YtadjoiahllekdaaWishCmp
import Derived.Test.YtadjoiahllekdaaWishSpecD
namespace Go.Proofs.Ytadjoiahllekdaa.num
set_option maxRecDepth 20000
open Go.RowKit Go.Maps
set_option linter.unusedVariables false

end Go.Proofs.Ytadjoiahllekdaa.num
