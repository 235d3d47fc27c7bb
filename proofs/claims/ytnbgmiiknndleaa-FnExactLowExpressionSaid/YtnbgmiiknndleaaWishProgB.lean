/-
  The program's RankOfValue, CompareValues: contracts.
-/
import Derived.Test.YtnbgmiiknndleaaWishProgA
import Derived.Test.YtnbgmiiknndleaaWishCmp
import Derived.Test.YtnbgmiiknndleaaWishSpecD
namespace Go.Proofs.Ytnbgmiiknndleaa.num
set_option maxRecDepth 20000
open Go.RowKit Go.Maps
set_option linter.unusedVariables false

end Go.Proofs.Ytnbgmiiknndleaa.num
