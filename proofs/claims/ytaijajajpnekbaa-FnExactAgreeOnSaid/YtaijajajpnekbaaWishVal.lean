/-
  The program's tastes as values of the interface.
-/
import Derived.Test.YtaijajajpnekbaaProg
import Derived.WalkKit
namespace Go.Proofs.Ytaijajajpnekbaa.num
set_option maxRecDepth 20000
open Go.RowKit

def nearI (b : Int) : Value := .iface 155 (.agg #[.int .i64 b])
def amongI (A : Option Addr) (n c : Nat) : Value := .iface 157 (.agg #[.slice A n c])
def orderI (o : Option Nat) : Value := .iface 162 (.agg #[.map o])
end Go.Proofs.Ytaijajajpnekbaa.num
