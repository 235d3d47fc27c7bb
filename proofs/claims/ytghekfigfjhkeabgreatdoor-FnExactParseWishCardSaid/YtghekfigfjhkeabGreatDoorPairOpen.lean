/-
  Arguments that are slices of pairs: opened to what the walks ask.
-/
import Derived.Test.YtghekfigfjhkeabGreatDoorItemOpen
import Derived.Test.YtghekfigfjhkeabGreatDoorPairMem
namespace Go.Proofs.YtghekfigfjhkeabGreatDoor.num
open Go.RowKit Go.ChangeShapes Go.WideShapes Go.Deep Go.Joins

section
variable {H : Type} {enc : TypeId × Value → H} {W : World}
end
end Go.Proofs.YtghekfigfjhkeabGreatDoor.num
