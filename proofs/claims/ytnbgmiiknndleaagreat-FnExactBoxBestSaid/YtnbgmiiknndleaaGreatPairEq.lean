/-
  The laws' own comparison of slices of pairs: eqPair, eqPairS.
-/
import Derived.Test.YtnbgmiiknndleaaGreatPairSpecD
namespace Go.Proofs.YtnbgmiiknndleaaGreat.num
set_option maxRecDepth 20000
open Go.RowKit
set_option linter.unusedVariables false

theorem ne_atP {ps qs : List (Int × Int)} {k : Nat} {p q : Int × Int} (h1 : ps[k]? = some p) (h2 : qs[k]? = some q) (h : p ≠ q) : ps ≠ qs := fun e => by
  rw [e, h2] at h1
  exact h (Option.some.inj h1).symm

end Go.Proofs.YtnbgmiiknndleaaGreat.num
