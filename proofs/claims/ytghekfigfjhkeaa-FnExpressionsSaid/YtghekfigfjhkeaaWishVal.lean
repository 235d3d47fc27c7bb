/-
  The program's tastes as values of the interface.
-/
import Derived.Test.YtghekfigfjhkeaaProg
import Derived.WalkKit
namespace Go.Proofs.Ytghekfigfjhkeaa.num
open Go.RowKit

def nearI (b : Int) : Value := .iface 138 (.agg #[.int .i64 b])
def amongI (A : Option Addr) (n c : Nat) : Value := .iface 140 (.agg #[.slice A n c])
def orderI (o : Option Nat) : Value := .iface 145 (.agg #[.map o])
end Go.Proofs.Ytghekfigfjhkeaa.num
