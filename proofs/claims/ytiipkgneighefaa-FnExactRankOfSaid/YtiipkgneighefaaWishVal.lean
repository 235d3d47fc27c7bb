/-
  The program's tastes as values of the interface.
-/
import Derived.Test.YtiipkgneighefaaProg
import Derived.WalkKit
namespace Go.Proofs.Ytiipkgneighefaa.num
set_option maxRecDepth 20000
open Go.RowKit

def nearI (b : Int) : Value := .iface 117 (.agg #[.int .i64 b])
def amongI (A : Option Addr) (n c : Nat) : Value := .iface 119 (.agg #[.slice A n c])
def orderI (o : Option Nat) : Value := .iface 125 (.agg #[.map o])
end Go.Proofs.Ytiipkgneighefaa.num
