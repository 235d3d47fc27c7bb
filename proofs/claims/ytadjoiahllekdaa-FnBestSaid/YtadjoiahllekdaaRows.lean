/-
  No cell of these rows narrows 'for every input' (looked for: loops, veiled, ifaces, maps, wideKeys, modest, calm, conditions, laid).
  DERIVED. THE GIVEN ROWS OF THIS SEAT. 7 by the template 'for every input the law returns true; each argument reads behind the call as it read before'; 0 by the template 'total and deterministic' (their statements: YtadjoiahllekdaaTotals.lean).
  GIVEN WITH THE SEED: the statements are not yours to turn. If you find one false, say at which input.
  Laid BY PROGRAM, IN A SANDBOX (cutbox-rows.mjs): the forced cells as the released guide's own fill.sh prints them over the translation ea6324f6c7016a5d… (all of the seat's roots in one cut). By AI agents, Wed Nov 11 2026. No macro, syntax, notation, axiom, sorry.
-/
import Derived.Test.YtadjoiahllekdaaChecked
import GoSem.Claim
import GoSem.ClaimJoined
import GoSem.ClaimMapViews
import Derived.JoinedTies
import Derived.KernelRfl
namespace Go.Proofs.Ytadjoiahllekdaa
/- THE CELL 'sum', in the pinned program and in every row, IS THE sha256 OF THE DUMP (.gsa) THAT YtadjoiahllekdaaProg.lean LOADS. Nothing in Lean hashes anything: it is a label: what it is worth is what the hold of that sum in a sandbox is worth. -/
noncomputable def Try.pinned : Pinned := { name := "ytadjoiahllekdaa", sum := "ea6324f6c7016a5dca6292d205ac0cfe99e705f206714c1f26a8d462ca25a443", checked := Try.checked }
namespace Rows
def none {H : Type} : Left H := { results := [], args := [] }

/-- 'laws.FnBest': WHATEVER THE INPUT: true; the input reads as it did. -/
def fnBestSpec : ChangeSpec := { name := "fnBest", fn := fun _ => fun
  | [d] => { results := [.lit (.bool true)], args := [d] }
  | _ => none }
def fnBestRow : OpenClaim := { program := "ytadjoiahllekdaa", sum := "ea6324f6c7016a5dca6292d205ac0cfe99e705f206714c1f26a8d462ca25a443", func := "loop.example/g01987/laws.FnBest", spec := "fnBest", unfollowed := true, recurses := true, apart := false }
def FnBestSaid : Prop := fnBestRow.holds Try.pinned (OpenSpec.ofChange fnBestSpec)

/-- ITS FALSE NEIGHBOUR: 'it returns false'. Refute it at one input. -/
def fnBestWrong : ChangeSpec := { name := "fnBest", fn := fun _ => fun
  | [d] => { results := [.lit (.bool false)], args := [d] }
  | _ => none }
def FnBestWrongFalsely : Prop := fnBestRow.holds Try.pinned (OpenSpec.ofChange fnBestWrong)

/-- 'laws.FnExactBestItems': WHATEVER THE INPUT: true; the input reads as it did. -/
def fnExactBestItemsSpec : ChangeSpec := { name := "fnExactBestItems", fn := fun _ => fun
  | [d1, d2] => { results := [.lit (.bool true)], args := [d1, d2] }
  | _ => none }
def fnExactBestItemsRow : OpenClaim := { program := "ytadjoiahllekdaa", sum := "ea6324f6c7016a5dca6292d205ac0cfe99e705f206714c1f26a8d462ca25a443", func := "loop.example/g01987/laws.FnExactBestItems", spec := "fnExactBestItems", unfollowed := true, recurses := true, apart := false }
def FnExactBestItemsSaid : Prop := fnExactBestItemsRow.holds Try.pinned (OpenSpec.ofChange fnExactBestItemsSpec)

/-- ITS FALSE NEIGHBOUR: 'it returns false'. Refute it at one input. -/
def fnExactBestItemsWrong : ChangeSpec := { name := "fnExactBestItems", fn := fun _ => fun
  | [d1, d2] => { results := [.lit (.bool false)], args := [d1, d2] }
  | _ => none }
def FnExactBestItemsWrongFalsely : Prop := fnExactBestItemsRow.holds Try.pinned (OpenSpec.ofChange fnExactBestItemsWrong)

/-- 'laws.FnExactIsBest': WHATEVER THE INPUT: true; the input reads as it did. -/
def fnExactIsBestSpec : ChangeSpec := { name := "fnExactIsBest", fn := fun _ => fun
  | [d1, d2, d3] => { results := [.lit (.bool true)], args := [d1, d2, d3] }
  | _ => none }
def fnExactIsBestRow : OpenClaim := { program := "ytadjoiahllekdaa", sum := "ea6324f6c7016a5dca6292d205ac0cfe99e705f206714c1f26a8d462ca25a443", func := "loop.example/g01987/laws.FnExactIsBest", spec := "fnExactIsBest", unfollowed := true, recurses := true, apart := false }
def FnExactIsBestSaid : Prop := fnExactIsBestRow.holds Try.pinned (OpenSpec.ofChange fnExactIsBestSpec)

/-- ITS FALSE NEIGHBOUR: 'it returns false'. Refute it at one input. -/
def fnExactIsBestWrong : ChangeSpec := { name := "fnExactIsBest", fn := fun _ => fun
  | [d1, d2, d3] => { results := [.lit (.bool false)], args := [d1, d2, d3] }
  | _ => none }
def FnExactIsBestWrongFalsely : Prop := fnExactIsBestRow.holds Try.pinned (OpenSpec.ofChange fnExactIsBestWrong)

/-- 'laws.FnExactDominatorsOf': WHATEVER THE INPUT: true; the input reads as it did. -/
def fnExactDominatorsOfSpec : ChangeSpec := { name := "fnExactDominatorsOf", fn := fun _ => fun
  | [d1, d2, d3] => { results := [.lit (.bool true)], args := [d1, d2, d3] }
  | _ => none }
def fnExactDominatorsOfRow : OpenClaim := { program := "ytadjoiahllekdaa", sum := "ea6324f6c7016a5dca6292d205ac0cfe99e705f206714c1f26a8d462ca25a443", func := "loop.example/g01987/laws.FnExactDominatorsOf", spec := "fnExactDominatorsOf", unfollowed := true, recurses := true, apart := false }
def FnExactDominatorsOfSaid : Prop := fnExactDominatorsOfRow.holds Try.pinned (OpenSpec.ofChange fnExactDominatorsOfSpec)

/-- ITS FALSE NEIGHBOUR: 'it returns false'. Refute it at one input. -/
def fnExactDominatorsOfWrong : ChangeSpec := { name := "fnExactDominatorsOf", fn := fun _ => fun
  | [d1, d2, d3] => { results := [.lit (.bool false)], args := [d1, d2, d3] }
  | _ => none }
def FnExactDominatorsOfWrongFalsely : Prop := fnExactDominatorsOfRow.holds Try.pinned (OpenSpec.ofChange fnExactDominatorsOfWrong)

/-- 'laws.FnExactDominatedBy': WHATEVER THE INPUT: true; the input reads as it did. -/
def fnExactDominatedBySpec : ChangeSpec := { name := "fnExactDominatedBy", fn := fun _ => fun
  | [d1, d2, d3] => { results := [.lit (.bool true)], args := [d1, d2, d3] }
  | _ => none }
def fnExactDominatedByRow : OpenClaim := { program := "ytadjoiahllekdaa", sum := "ea6324f6c7016a5dca6292d205ac0cfe99e705f206714c1f26a8d462ca25a443", func := "loop.example/g01987/laws.FnExactDominatedBy", spec := "fnExactDominatedBy", unfollowed := true, recurses := true, apart := false }
def FnExactDominatedBySaid : Prop := fnExactDominatedByRow.holds Try.pinned (OpenSpec.ofChange fnExactDominatedBySpec)

/-- ITS FALSE NEIGHBOUR: 'it returns false'. Refute it at one input. -/
def fnExactDominatedByWrong : ChangeSpec := { name := "fnExactDominatedBy", fn := fun _ => fun
  | [d1, d2, d3] => { results := [.lit (.bool false)], args := [d1, d2, d3] }
  | _ => none }
def FnExactDominatedByWrongFalsely : Prop := fnExactDominatedByRow.holds Try.pinned (OpenSpec.ofChange fnExactDominatedByWrong)

/-- 'laws.FnExactRankOf': WHATEVER THE INPUT: true; the input reads as it did. -/
def fnExactRankOfSpec : ChangeSpec := { name := "fnExactRankOf", fn := fun _ => fun
  | [d1, d2, d3] => { results := [.lit (.bool true)], args := [d1, d2, d3] }
  | _ => none }
def fnExactRankOfRow : OpenClaim := { program := "ytadjoiahllekdaa", sum := "ea6324f6c7016a5dca6292d205ac0cfe99e705f206714c1f26a8d462ca25a443", func := "loop.example/g01987/laws.FnExactRankOf", spec := "fnExactRankOf", unfollowed := true, recurses := true, apart := false }
def FnExactRankOfSaid : Prop := fnExactRankOfRow.holds Try.pinned (OpenSpec.ofChange fnExactRankOfSpec)

/-- ITS FALSE NEIGHBOUR: 'it returns false'. Refute it at one input. -/
def fnExactRankOfWrong : ChangeSpec := { name := "fnExactRankOf", fn := fun _ => fun
  | [d1, d2, d3] => { results := [.lit (.bool false)], args := [d1, d2, d3] }
  | _ => none }
def FnExactRankOfWrongFalsely : Prop := fnExactRankOfRow.holds Try.pinned (OpenSpec.ofChange fnExactRankOfWrong)

/-- 'laws.FnExactWidthOf': WHATEVER THE INPUT: true; the input reads as it did. -/
def fnExactWidthOfSpec : ChangeSpec := { name := "fnExactWidthOf", fn := fun _ => fun
  | [d1, d2] => { results := [.lit (.bool true)], args := [d1, d2] }
  | _ => none }
def fnExactWidthOfRow : OpenClaim := { program := "ytadjoiahllekdaa", sum := "ea6324f6c7016a5dca6292d205ac0cfe99e705f206714c1f26a8d462ca25a443", func := "loop.example/g01987/laws.FnExactWidthOf", spec := "fnExactWidthOf", unfollowed := true, recurses := true, apart := false }
def FnExactWidthOfSaid : Prop := fnExactWidthOfRow.holds Try.pinned (OpenSpec.ofChange fnExactWidthOfSpec)

/-- ITS FALSE NEIGHBOUR: 'it returns false'. Refute it at one input. -/
def fnExactWidthOfWrong : ChangeSpec := { name := "fnExactWidthOf", fn := fun _ => fun
  | [d1, d2] => { results := [.lit (.bool false)], args := [d1, d2] }
  | _ => none }
def FnExactWidthOfWrongFalsely : Prop := fnExactWidthOfRow.holds Try.pinned (OpenSpec.ofChange fnExactWidthOfWrong)

/- THE SECOND FORM. 'bulk': how many values and letters a reading holds, each counted each time it is reached (what is shared counts as often as it is met; a slice's spare places count too). A statement '..UptoSaid' is the law's where the arguments, and the package variables that the reading takes, are together of bulk at most 1048576: NARROWER than '..Said'. Prove '..Said' where nothing that the law and all that it calls make is longer than what came in: it says more and counts as full. Else prove '..UptoSaid'. A law counts once. -/
mutual
def uptoBulk {H : Type} : DataW H → Nat
  | .lit (.string bytes) => bytes.length + 1
  | .lit _ => 1
  | .nil => 1
  | .ptr d => uptoBulk d + 1
  | .slice elems spare => uptoBulkAll elems + uptoBulkAll spare + 1
  | .agg parts => uptoBulkAll parts + 1
  | .iface _ d => uptoBulk d + 1
  | .map entries => uptoBulkEntries entries + 1
  | .held _ => 1
def uptoBulkAll {H : Type} : List (DataW H) → Nat
  | [] => 0
  | d :: r => uptoBulk d + uptoBulkAll r
def uptoBulkEntries {H : Type} : List (Lit × DataW H) → Nat
  | [] => 0
  | x :: r => uptoBulkEntry x + uptoBulkEntries r
def uptoBulkEntry {H : Type} : Lit × DataW H → Nat
  | (.string bytes, d) => bytes.length + uptoBulk d + 1
  | (_, d) => uptoBulk d + 1
 end
def uptoSmall : (H : Type) → List (DataW H) → Bool := fun _ ds => decide (uptoBulkAll ds ≤ 1048576)
def OpenSpec.upto (s : _root_.Go.ChangeSpec) : _root_.Go.OpenSpec := { _root_.Go.OpenSpec.ofChange s with cond := some uptoSmall }

/-- 'laws.FnBest', WHERE WHAT IT READS IS OF BULK AT MOST 1048576: true; the input reads as it did. -/
def fnBestUptoRow : OpenClaim := { program := "ytadjoiahllekdaa", sum := "ea6324f6c7016a5dca6292d205ac0cfe99e705f206714c1f26a8d462ca25a443", func := "loop.example/g01987/laws.FnBest", spec := "fnBest", unfollowed := true, recurses := true, apart := false, narrowed := true }
def FnBestUptoSaid : Prop := fnBestUptoRow.holds Try.pinned (OpenSpec.upto fnBestSpec)

/-- 'laws.FnExactBestItems', WHERE WHAT IT READS IS OF BULK AT MOST 1048576: true; the input reads as it did. -/
def fnExactBestItemsUptoRow : OpenClaim := { program := "ytadjoiahllekdaa", sum := "ea6324f6c7016a5dca6292d205ac0cfe99e705f206714c1f26a8d462ca25a443", func := "loop.example/g01987/laws.FnExactBestItems", spec := "fnExactBestItems", unfollowed := true, recurses := true, apart := false, narrowed := true }
def FnExactBestItemsUptoSaid : Prop := fnExactBestItemsUptoRow.holds Try.pinned (OpenSpec.upto fnExactBestItemsSpec)

/-- 'laws.FnExactIsBest', WHERE WHAT IT READS IS OF BULK AT MOST 1048576: true; the input reads as it did. -/
def fnExactIsBestUptoRow : OpenClaim := { program := "ytadjoiahllekdaa", sum := "ea6324f6c7016a5dca6292d205ac0cfe99e705f206714c1f26a8d462ca25a443", func := "loop.example/g01987/laws.FnExactIsBest", spec := "fnExactIsBest", unfollowed := true, recurses := true, apart := false, narrowed := true }
def FnExactIsBestUptoSaid : Prop := fnExactIsBestUptoRow.holds Try.pinned (OpenSpec.upto fnExactIsBestSpec)

/-- 'laws.FnExactDominatorsOf', WHERE WHAT IT READS IS OF BULK AT MOST 1048576: true; the input reads as it did. -/
def fnExactDominatorsOfUptoRow : OpenClaim := { program := "ytadjoiahllekdaa", sum := "ea6324f6c7016a5dca6292d205ac0cfe99e705f206714c1f26a8d462ca25a443", func := "loop.example/g01987/laws.FnExactDominatorsOf", spec := "fnExactDominatorsOf", unfollowed := true, recurses := true, apart := false, narrowed := true }
def FnExactDominatorsOfUptoSaid : Prop := fnExactDominatorsOfUptoRow.holds Try.pinned (OpenSpec.upto fnExactDominatorsOfSpec)

/-- 'laws.FnExactDominatedBy', WHERE WHAT IT READS IS OF BULK AT MOST 1048576: true; the input reads as it did. -/
def fnExactDominatedByUptoRow : OpenClaim := { program := "ytadjoiahllekdaa", sum := "ea6324f6c7016a5dca6292d205ac0cfe99e705f206714c1f26a8d462ca25a443", func := "loop.example/g01987/laws.FnExactDominatedBy", spec := "fnExactDominatedBy", unfollowed := true, recurses := true, apart := false, narrowed := true }
def FnExactDominatedByUptoSaid : Prop := fnExactDominatedByUptoRow.holds Try.pinned (OpenSpec.upto fnExactDominatedBySpec)

/-- 'laws.FnExactRankOf', WHERE WHAT IT READS IS OF BULK AT MOST 1048576: true; the input reads as it did. -/
def fnExactRankOfUptoRow : OpenClaim := { program := "ytadjoiahllekdaa", sum := "ea6324f6c7016a5dca6292d205ac0cfe99e705f206714c1f26a8d462ca25a443", func := "loop.example/g01987/laws.FnExactRankOf", spec := "fnExactRankOf", unfollowed := true, recurses := true, apart := false, narrowed := true }
def FnExactRankOfUptoSaid : Prop := fnExactRankOfUptoRow.holds Try.pinned (OpenSpec.upto fnExactRankOfSpec)

/-- 'laws.FnExactWidthOf', WHERE WHAT IT READS IS OF BULK AT MOST 1048576: true; the input reads as it did. -/
def fnExactWidthOfUptoRow : OpenClaim := { program := "ytadjoiahllekdaa", sum := "ea6324f6c7016a5dca6292d205ac0cfe99e705f206714c1f26a8d462ca25a443", func := "loop.example/g01987/laws.FnExactWidthOf", spec := "fnExactWidthOf", unfollowed := true, recurses := true, apart := false, narrowed := true }
def FnExactWidthOfUptoSaid : Prop := fnExactWidthOfUptoRow.holds Try.pinned (OpenSpec.upto fnExactWidthOfSpec)

end Rows
end Go.Proofs.Ytadjoiahllekdaa
