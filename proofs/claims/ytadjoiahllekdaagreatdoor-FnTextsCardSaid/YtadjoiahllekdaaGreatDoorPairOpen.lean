/-
  Arguments that are slices of pairs: opened to what the walks ask.
-/
import Derived.Test.YtadjoiahllekdaaGreatDoorItemOpen
import Derived.Test.YtadjoiahllekdaaGreatDoorPairMem
namespace Go.Proofs.YtadjoiahllekdaaGreatDoor.num
set_option maxRecDepth 20000
open Go.RowKit Go.ChangeShapes Go.WideShapes Go.Deep Go.Joins

section
variable {H : Type} {enc : TypeId × Value → H} {W : World}
end
end Go.Proofs.YtadjoiahllekdaaGreatDoor.num
