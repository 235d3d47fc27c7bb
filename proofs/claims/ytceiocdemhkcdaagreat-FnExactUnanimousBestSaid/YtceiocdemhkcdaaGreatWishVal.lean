/-
  The program's tastes as values of the interface.
-/
import Derived.Test.YtceiocdemhkcdaaGreatProg
import Derived.WalkKit
namespace Go.Proofs.YtceiocdemhkcdaaGreat.num
set_option maxRecDepth 20000
open Go.RowKit

def nearI (b : Int) : Value := .iface 214 (.agg #[.int .i64 b])
def amongI (A : Option Addr) (n c : Nat) : Value := .iface 216 (.agg #[.slice A n c])
def orderI (o : Option Nat) : Value := .iface 222 (.agg #[.map o])
end Go.Proofs.YtceiocdemhkcdaaGreat.num
