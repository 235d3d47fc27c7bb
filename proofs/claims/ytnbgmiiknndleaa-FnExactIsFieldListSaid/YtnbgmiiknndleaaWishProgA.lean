/-
  The program's IsWish: its contract.
-/
import Derived.Test.YtnbgmiiknndleaaWishProg
namespace Go.Proofs.Ytnbgmiiknndleaa.num
set_option maxRecDepth 20000
open Go.RowKit Go.Maps
set_option linter.unusedVariables false

end Go.Proofs.Ytnbgmiiknndleaa.num
