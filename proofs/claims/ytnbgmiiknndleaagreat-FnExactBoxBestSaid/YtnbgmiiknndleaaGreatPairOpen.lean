/-
  Arguments that are slices of pairs: opened to what the walks ask.
-/
import Derived.Test.YtnbgmiiknndleaaGreatItemOpen
import Derived.Test.YtnbgmiiknndleaaGreatPairMem
namespace Go.Proofs.YtnbgmiiknndleaaGreat.num
set_option maxRecDepth 20000
open Go.RowKit Go.ChangeShapes Go.WideShapes Go.Deep Go.Joins

section
variable {H : Type} {enc : TypeId × Value → H} {W : World}
end
end Go.Proofs.YtnbgmiiknndleaaGreat.num
