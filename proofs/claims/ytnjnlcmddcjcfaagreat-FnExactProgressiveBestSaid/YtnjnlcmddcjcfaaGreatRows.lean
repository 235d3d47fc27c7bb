/-
  No cell of these rows narrows 'for every input' (looked for: loops, veiled, ifaces, maps, wideKeys, modest, calm, conditions, laid).
  DERIVED. THE GIVEN ROWS OF THIS SEAT. 4 by the template 'for every input the law returns true; each argument reads behind the call as it read before'; 0 by the template 'total and deterministic' (their statements: YtnjnlcmddcjcfaaGreatTotals.lean).
  GIVEN WITH THE SEED: the statements are not yours to turn. If you find one false, say at which input.
  Laid BY PROGRAM, IN A SANDBOX (cutbox-rows.mjs): the forced cells as the released guide's own fill.sh prints them over the translation 1f57a80811df69ac… (all of the seat's roots in one cut). By AI agents, Wed Nov 11 2026. No macro, syntax, notation, axiom, sorry.
-/
import Derived.Test.YtnjnlcmddcjcfaaGreatChecked
import GoSem.Claim
import GoSem.ClaimJoined
import GoSem.ClaimMapViews
import Derived.JoinedTies
import Derived.KernelRfl
namespace Go.Proofs.YtnjnlcmddcjcfaaGreat
/- THE CELL 'sum', in the pinned program and in every row, IS THE sha256 OF THE DUMP (.gsa) THAT YtnjnlcmddcjcfaaGreatProg.lean LOADS. Nothing in Lean hashes anything: it is a label: what it is worth is what the hold of that sum in a sandbox is worth. -/
noncomputable def Tryz.pinned : Pinned := { name := "ytnjnlcmddcjcfaagreat", sum := "1f57a80811df69ac0e6e13b16bd39074d568f3ef173c2e8c999abd9dbf541c5a", checked := Tryz.checked }
namespace Rows
def none {H : Type} : Left H := { results := [], args := [] }

/-- 'laws.FnLayers': WHATEVER THE INPUT: true; the input reads as it did. -/
def fnLayersSpec : ChangeSpec := { name := "fnLayers", fn := fun _ => fun
  | [d] => { results := [.lit (.bool true)], args := [d] }
  | _ => none }
def fnLayersRow : OpenClaim := { program := "ytnjnlcmddcjcfaagreat", sum := "1f57a80811df69ac0e6e13b16bd39074d568f3ef173c2e8c999abd9dbf541c5a", func := "loop.example/g01987/laws.FnLayers", spec := "fnLayers", unfollowed := true, recurses := true, leaving := true, apart := false }
def FnLayersSaid : Prop := fnLayersRow.holds Tryz.pinned (OpenSpec.ofChange fnLayersSpec)

/-- ITS FALSE NEIGHBOUR: 'it returns false'. Refute it at one input. -/
def fnLayersWrong : ChangeSpec := { name := "fnLayers", fn := fun _ => fun
  | [d] => { results := [.lit (.bool false)], args := [d] }
  | _ => none }
def FnLayersWrongFalsely : Prop := fnLayersRow.holds Tryz.pinned (OpenSpec.ofChange fnLayersWrong)

/-- 'laws.FnExactLayersOf': WHATEVER THE INPUT: true; the input reads as it did. -/
def fnExactLayersOfSpec : ChangeSpec := { name := "fnExactLayersOf", fn := fun _ => fun
  | [d1, d2] => { results := [.lit (.bool true)], args := [d1, d2] }
  | _ => none }
def fnExactLayersOfRow : OpenClaim := { program := "ytnjnlcmddcjcfaagreat", sum := "1f57a80811df69ac0e6e13b16bd39074d568f3ef173c2e8c999abd9dbf541c5a", func := "loop.example/g01987/laws.FnExactLayersOf", spec := "fnExactLayersOf", unfollowed := true, recurses := true, leaving := true, apart := false }
def FnExactLayersOfSaid : Prop := fnExactLayersOfRow.holds Tryz.pinned (OpenSpec.ofChange fnExactLayersOfSpec)

/-- ITS FALSE NEIGHBOUR: 'it returns false'. Refute it at one input. -/
def fnExactLayersOfWrong : ChangeSpec := { name := "fnExactLayersOf", fn := fun _ => fun
  | [d1, d2] => { results := [.lit (.bool false)], args := [d1, d2] }
  | _ => none }
def FnExactLayersOfWrongFalsely : Prop := fnExactLayersOfRow.holds Tryz.pinned (OpenSpec.ofChange fnExactLayersOfWrong)

/-- 'laws.FnExactProgressiveBest': WHATEVER THE INPUT: true; the input reads as it did. -/
def fnExactProgressiveBestSpec : ChangeSpec := { name := "fnExactProgressiveBest", fn := fun _ => fun
  | [d1, d2] => { results := [.lit (.bool true)], args := [d1, d2] }
  | _ => none }
def fnExactProgressiveBestRow : OpenClaim := { program := "ytnjnlcmddcjcfaagreat", sum := "1f57a80811df69ac0e6e13b16bd39074d568f3ef173c2e8c999abd9dbf541c5a", func := "loop.example/g01987/laws.FnExactProgressiveBest", spec := "fnExactProgressiveBest", unfollowed := true, recurses := true, leaving := true, apart := false }
def FnExactProgressiveBestSaid : Prop := fnExactProgressiveBestRow.holds Tryz.pinned (OpenSpec.ofChange fnExactProgressiveBestSpec)

/-- ITS FALSE NEIGHBOUR: 'it returns false'. Refute it at one input. -/
def fnExactProgressiveBestWrong : ChangeSpec := { name := "fnExactProgressiveBest", fn := fun _ => fun
  | [d1, d2] => { results := [.lit (.bool false)], args := [d1, d2] }
  | _ => none }
def FnExactProgressiveBestWrongFalsely : Prop := fnExactProgressiveBestRow.holds Tryz.pinned (OpenSpec.ofChange fnExactProgressiveBestWrong)

/-- 'laws.FnExactChainTo': WHATEVER THE INPUT: true; the input reads as it did. -/
def fnExactChainToSpec : ChangeSpec := { name := "fnExactChainTo", fn := fun _ => fun
  | [d1, d2, d3] => { results := [.lit (.bool true)], args := [d1, d2, d3] }
  | _ => none }
def fnExactChainToRow : OpenClaim := { program := "ytnjnlcmddcjcfaagreat", sum := "1f57a80811df69ac0e6e13b16bd39074d568f3ef173c2e8c999abd9dbf541c5a", func := "loop.example/g01987/laws.FnExactChainTo", spec := "fnExactChainTo", unfollowed := true, recurses := true, leaving := true, apart := false }
def FnExactChainToSaid : Prop := fnExactChainToRow.holds Tryz.pinned (OpenSpec.ofChange fnExactChainToSpec)

/-- ITS FALSE NEIGHBOUR: 'it returns false'. Refute it at one input. -/
def fnExactChainToWrong : ChangeSpec := { name := "fnExactChainTo", fn := fun _ => fun
  | [d1, d2, d3] => { results := [.lit (.bool false)], args := [d1, d2, d3] }
  | _ => none }
def FnExactChainToWrongFalsely : Prop := fnExactChainToRow.holds Tryz.pinned (OpenSpec.ofChange fnExactChainToWrong)

/- THE SECOND FORM. 'bulk': how many values and letters a reading holds, each counted each time it is reached (what is shared counts as often as it is met; a slice's spare places count too). A statement '..UptoSaid' is the law's where the arguments, and the package variables that the reading takes, are together of bulk at most 1048576: NARROWER than '..Said'. Prove '..Said' where nothing that the law and all that it calls make is longer than what came in: it says more and counts as full. Else prove '..UptoSaid'. A law counts once. -/
mutual
def uptoBulk {H : Type} : DataW H → Nat
  | .lit (.string bytes) => bytes.length + 1
  | .lit _ => 1
  | .nil => 1
  | .ptr d => uptoBulk d + 1
  | .slice elems spare => uptoBulkAll elems + uptoBulkAll spare + 1
  | .agg parts => uptoBulkAll parts + 1
  | .iface _ d => uptoBulk d + 1
  | .map entries => uptoBulkEntries entries + 1
  | .held _ => 1
def uptoBulkAll {H : Type} : List (DataW H) → Nat
  | [] => 0
  | d :: r => uptoBulk d + uptoBulkAll r
def uptoBulkEntries {H : Type} : List (Lit × DataW H) → Nat
  | [] => 0
  | x :: r => uptoBulkEntry x + uptoBulkEntries r
def uptoBulkEntry {H : Type} : Lit × DataW H → Nat
  | (.string bytes, d) => bytes.length + uptoBulk d + 1
  | (_, d) => uptoBulk d + 1
 end
def uptoSmall : (H : Type) → List (DataW H) → Bool := fun _ ds => decide (uptoBulkAll ds ≤ 1048576)
def OpenSpec.upto (s : _root_.Go.ChangeSpec) : _root_.Go.OpenSpec := { _root_.Go.OpenSpec.ofChange s with cond := some uptoSmall }

/-- 'laws.FnLayers', WHERE WHAT IT READS IS OF BULK AT MOST 1048576: true; the input reads as it did. -/
def fnLayersUptoRow : OpenClaim := { program := "ytnjnlcmddcjcfaagreat", sum := "1f57a80811df69ac0e6e13b16bd39074d568f3ef173c2e8c999abd9dbf541c5a", func := "loop.example/g01987/laws.FnLayers", spec := "fnLayers", unfollowed := true, recurses := true, leaving := true, apart := false, narrowed := true }
def FnLayersUptoSaid : Prop := fnLayersUptoRow.holds Tryz.pinned (OpenSpec.upto fnLayersSpec)

/-- 'laws.FnExactLayersOf', WHERE WHAT IT READS IS OF BULK AT MOST 1048576: true; the input reads as it did. -/
def fnExactLayersOfUptoRow : OpenClaim := { program := "ytnjnlcmddcjcfaagreat", sum := "1f57a80811df69ac0e6e13b16bd39074d568f3ef173c2e8c999abd9dbf541c5a", func := "loop.example/g01987/laws.FnExactLayersOf", spec := "fnExactLayersOf", unfollowed := true, recurses := true, leaving := true, apart := false, narrowed := true }
def FnExactLayersOfUptoSaid : Prop := fnExactLayersOfUptoRow.holds Tryz.pinned (OpenSpec.upto fnExactLayersOfSpec)

/-- 'laws.FnExactProgressiveBest', WHERE WHAT IT READS IS OF BULK AT MOST 1048576: true; the input reads as it did. -/
def fnExactProgressiveBestUptoRow : OpenClaim := { program := "ytnjnlcmddcjcfaagreat", sum := "1f57a80811df69ac0e6e13b16bd39074d568f3ef173c2e8c999abd9dbf541c5a", func := "loop.example/g01987/laws.FnExactProgressiveBest", spec := "fnExactProgressiveBest", unfollowed := true, recurses := true, leaving := true, apart := false, narrowed := true }
def FnExactProgressiveBestUptoSaid : Prop := fnExactProgressiveBestUptoRow.holds Tryz.pinned (OpenSpec.upto fnExactProgressiveBestSpec)

/-- 'laws.FnExactChainTo', WHERE WHAT IT READS IS OF BULK AT MOST 1048576: true; the input reads as it did. -/
def fnExactChainToUptoRow : OpenClaim := { program := "ytnjnlcmddcjcfaagreat", sum := "1f57a80811df69ac0e6e13b16bd39074d568f3ef173c2e8c999abd9dbf541c5a", func := "loop.example/g01987/laws.FnExactChainTo", spec := "fnExactChainTo", unfollowed := true, recurses := true, leaving := true, apart := false, narrowed := true }
def FnExactChainToUptoSaid : Prop := fnExactChainToUptoRow.holds Tryz.pinned (OpenSpec.upto fnExactChainToSpec)

end Rows
end Go.Proofs.YtnjnlcmddcjcfaaGreat
