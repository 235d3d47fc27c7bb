/-
  The program's tastes as values of the interface.
-/
import Derived.Test.YtnjnlcmddcjcfaaProg
import Derived.WalkKit
namespace Go.Proofs.Ytnjnlcmddcjcfaa.num
set_option maxRecDepth 20000
open Go.RowKit

def nearI (b : Int) : Value := .iface 126 (.agg #[.int .i64 b])
def amongI (A : Option Addr) (n c : Nat) : Value := .iface 128 (.agg #[.slice A n c])
def orderI (o : Option Nat) : Value := .iface 134 (.agg #[.map o])
end Go.Proofs.Ytnjnlcmddcjcfaa.num
