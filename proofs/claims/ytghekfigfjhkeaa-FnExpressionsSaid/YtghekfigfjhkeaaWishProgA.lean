/-
  The program's IsWish: its contract.
-/
import Derived.Test.YtghekfigfjhkeaaWishProg
namespace Go.Proofs.Ytghekfigfjhkeaa.num
open Go.RowKit Go.Maps
set_option linter.unusedVariables false

end Go.Proofs.Ytghekfigfjhkeaa.num
