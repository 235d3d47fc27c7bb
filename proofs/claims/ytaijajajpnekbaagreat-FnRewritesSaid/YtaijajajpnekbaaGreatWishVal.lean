/-
  The program's tastes as values of the interface.
-/
import Derived.Test.YtaijajajpnekbaaGreatProg
import Derived.WalkKit
namespace Go.Proofs.YtaijajajpnekbaaGreat.num
set_option maxRecDepth 20000
open Go.RowKit

def nearI (b : Int) : Value := .iface 122 (.agg #[.int .i64 b])
def amongI (A : Option Addr) (n c : Nat) : Value := .iface 124 (.agg #[.slice A n c])
def orderI (o : Option Nat) : Value := .iface 129 (.agg #[.map o])
end Go.Proofs.YtaijajajpnekbaaGreat.num
