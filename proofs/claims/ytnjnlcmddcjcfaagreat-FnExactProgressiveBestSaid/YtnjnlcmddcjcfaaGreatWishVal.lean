/-
  The program's tastes as values of the interface.
-/
import Derived.Test.YtnjnlcmddcjcfaaGreatProg
import Derived.WalkKit
namespace Go.Proofs.YtnjnlcmddcjcfaaGreat.num
set_option maxRecDepth 20000
open Go.RowKit

def nearI (b : Int) : Value := .iface 171 (.agg #[.int .i64 b])
def amongI (A : Option Addr) (n c : Nat) : Value := .iface 173 (.agg #[.slice A n c])
def orderI (o : Option Nat) : Value := .iface 179 (.agg #[.map o])
end Go.Proofs.YtnjnlcmddcjcfaaGreat.num
