/-
  The program's tastes as values of the interface.
-/
import Derived.Test.YtclpnhdpojkjpaaGreatProg
import Derived.WalkKit
namespace Go.Proofs.YtclpnhdpojkjpaaGreat.num
set_option maxRecDepth 20000
open Go.RowKit

def nearI (b : Int) : Value := .iface 218 (.agg #[.int .i64 b])
def amongI (A : Option Addr) (n c : Nat) : Value := .iface 220 (.agg #[.slice A n c])
def orderI (o : Option Nat) : Value := .iface 225 (.agg #[.map o])
end Go.Proofs.YtclpnhdpojkjpaaGreat.num
