/-
  The program's RankOfValue, CompareValues: contracts.
-/
import Derived.Test.YtghekfigfjhkeaaWishProgA
import Derived.Test.YtghekfigfjhkeaaWishCmp
import Derived.Test.YtghekfigfjhkeaaWishSpecD
namespace Go.Proofs.Ytghekfigfjhkeaa.num
open Go.RowKit Go.Maps
set_option linter.unusedVariables false

end Go.Proofs.Ytghekfigfjhkeaa.num
