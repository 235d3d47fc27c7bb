/-
  The program's IsWish: its contract.
-/
import Derived.Test.YtnjnlcmddcjcfaaWishProg
namespace Go.Proofs.Ytnjnlcmddcjcfaa.num
set_option maxRecDepth 20000
open Go.RowKit Go.Maps
set_option linter.unusedVariables false

end Go.Proofs.Ytnjnlcmddcjcfaa.num
