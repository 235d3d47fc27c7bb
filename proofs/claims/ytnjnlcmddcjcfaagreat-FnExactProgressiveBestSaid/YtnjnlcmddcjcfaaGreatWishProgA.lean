/-
  The program's IsWish: its contract.
-/
import Derived.Test.YtnjnlcmddcjcfaaGreatWishProg
namespace Go.Proofs.YtnjnlcmddcjcfaaGreat.num
set_option maxRecDepth 20000
open Go.RowKit Go.Maps
set_option linter.unusedVariables false

end Go.Proofs.YtnjnlcmddcjcfaaGreat.num
