/-
  The program's tastes as values of the interface.
-/
import Derived.Test.YtadjoiahllekdaaProg
import Derived.WalkKit
namespace Go.Proofs.Ytadjoiahllekdaa.num
set_option maxRecDepth 20000
open Go.RowKit

def nearI (b : Int) : Value := .iface 147 (.agg #[.int .i64 b])
def amongI (A : Option Addr) (n c : Nat) : Value := .iface 149 (.agg #[.slice A n c])
def orderI (o : Option Nat) : Value := .iface 154 (.agg #[.map o])
end Go.Proofs.Ytadjoiahllekdaa.num
