/-
  The program's tastes as values of the interface.
-/
import Derived.Test.YtnbgmiiknndleaaGreatProg
import Derived.WalkKit
namespace Go.Proofs.YtnbgmiiknndleaaGreat.num
set_option maxRecDepth 20000
open Go.RowKit

def nearI (b : Int) : Value := .iface 134 (.agg #[.int .i64 b])
def amongI (A : Option Addr) (n c : Nat) : Value := .iface 136 (.agg #[.slice A n c])
def orderI (o : Option Nat) : Value := .iface 141 (.agg #[.map o])
end Go.Proofs.YtnbgmiiknndleaaGreat.num
