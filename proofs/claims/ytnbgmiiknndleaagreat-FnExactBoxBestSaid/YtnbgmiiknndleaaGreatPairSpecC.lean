/-
  The model's functions on pairs: contracts. What pairs are valid; who is above whom; heights.
-/
import Derived.Test.YtnbgmiiknndleaaGreatPairSpecB
namespace Go.Proofs.YtnbgmiiknndleaaGreat.num
set_option maxRecDepth 20000
open Go.RowKit
set_option linter.unusedVariables false

/-- What makes a list of pairs valid. -/
def OkP (ps : List (Int × Int)) : Prop := Good ps ∧ ps.length ≤ 8
theorem OkP.valid {ps : List (Int × Int)} (h : OkP ps) : ValidP ps := ⟨h.1.rng, h.2⟩
theorem okP_of {ps : List (Int × Int)} (h : ValidP ps) (hn : ∀ v : Int, 0 ≤ v → v ≤ 9 → ¬ Reach ps v v) : OkP ps :=
  ⟨⟨h.1, fun v r => hn v (reach_rng h.1 r).1.1 (reach_rng h.1 r).1.2 r⟩, h.2⟩

/-- What HeightOf answers. -/
def htOf (ps : List (Int × Int)) (v : Int) (ok : Bool) : Int := if ok then ((height ps v : Nat) : Int) else -1
end Go.Proofs.YtnbgmiiknndleaaGreat.num
