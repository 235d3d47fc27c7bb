/-
  The program's tastes as values of the interface.
-/
import Derived.Test.YtghekfigfjhkeabGreatDoorProg
import Derived.WalkKit
namespace Go.Proofs.YtghekfigfjhkeabGreatDoor.num
open Go.RowKit

def nearI (b : Int) : Value := .iface 92 (.agg #[.int .i64 b])
def amongI (A : Option Addr) (n c : Nat) : Value := .iface 95 (.agg #[.slice A n c])
def orderI (o : Option Nat) : Value := .iface 97 (.agg #[.map o])
end Go.Proofs.YtghekfigfjhkeabGreatDoor.num
