/-
  No cell of these rows narrows 'for every input' (looked for: loops, veiled, ifaces, maps, wideKeys, modest, calm, conditions, laid).
  DERIVED. THE GIVEN ROWS OF THIS SEAT. 7 by the template 'for every input the law returns true; each argument reads behind the call as it read before'; 0 by the template 'total and deterministic' (their statements: YtjjlhiaghjipcaaTotals.lean).
  GIVEN WITH THE SEED: the statements are not yours to turn. If you find one false, say at which input.
  Laid BY PROGRAM, IN A SANDBOX (cutbox-rows.mjs): the forced cells as the released guide's own fill.sh prints them over the translation 5c33e3cc7454dfc7… (all of the seat's roots in one cut). By AI agents, Wed Nov 11 2026. No macro, syntax, notation, axiom, sorry.
-/
import Derived.Test.YtjjlhiaghjipcaaChecked
import GoSem.Claim
import GoSem.ClaimJoined
import GoSem.ClaimMapViews
import Derived.JoinedTies
import Derived.KernelRfl
namespace Go.Proofs.Ytjjlhiaghjipcaa
/- THE CELL 'sum', in the pinned program and in every row, IS THE sha256 OF THE DUMP (.gsa) THAT YtjjlhiaghjipcaaProg.lean LOADS. Nothing in Lean hashes anything: it is a label: what it is worth is what the hold of that sum in a sandbox is worth. -/
noncomputable def Try.pinned : Pinned := { name := "ytjjlhiaghjipcaa", sum := "5c33e3cc7454dfc7d6bbb6b364db1557617e2b6145bcd9f339da12886eb415fe", checked := Try.checked }
namespace Rows
def none {H : Type} : Left H := { results := [], args := [] }

/-- 'laws.FnRegrets': WHATEVER THE INPUT: true; the input reads as it did. -/
def fnRegretsSpec : ChangeSpec := { name := "fnRegrets", fn := fun _ => fun
  | [d] => { results := [.lit (.bool true)], args := [d] }
  | _ => none }
def fnRegretsRow : OpenClaim := { program := "ytjjlhiaghjipcaa", sum := "5c33e3cc7454dfc7d6bbb6b364db1557617e2b6145bcd9f339da12886eb415fe", func := "loop.example/g01987/laws.FnRegrets", spec := "fnRegrets", unfollowed := true, recurses := true, apart := false }
def FnRegretsSaid : Prop := fnRegretsRow.holds Try.pinned (OpenSpec.ofChange fnRegretsSpec)

/-- ITS FALSE NEIGHBOUR: 'it returns false'. Refute it at one input. -/
def fnRegretsWrong : ChangeSpec := { name := "fnRegrets", fn := fun _ => fun
  | [d] => { results := [.lit (.bool false)], args := [d] }
  | _ => none }
def FnRegretsWrongFalsely : Prop := fnRegretsRow.holds Try.pinned (OpenSpec.ofChange fnRegretsWrong)

/-- 'laws.FnExactWeightLists': WHATEVER THE INPUT: true; the input reads as it did. -/
def fnExactWeightListsSpec : ChangeSpec := { name := "fnExactWeightLists", fn := fun _ => fun
  | [] => { results := [.lit (.bool true)], args := [] }
  | _ => none }
def fnExactWeightListsRow : OpenClaim := { program := "ytjjlhiaghjipcaa", sum := "5c33e3cc7454dfc7d6bbb6b364db1557617e2b6145bcd9f339da12886eb415fe", func := "loop.example/g01987/laws.FnExactWeightLists", spec := "fnExactWeightLists", apart := false }
def FnExactWeightListsSaid : Prop := fnExactWeightListsRow.holds Try.pinned (OpenSpec.ofChange fnExactWeightListsSpec)

/-- ITS FALSE NEIGHBOUR: 'it returns false'. Refute it at one input. -/
def fnExactWeightListsWrong : ChangeSpec := { name := "fnExactWeightLists", fn := fun _ => fun
  | [] => { results := [.lit (.bool false)], args := [] }
  | _ => none }
def FnExactWeightListsWrongFalsely : Prop := fnExactWeightListsRow.holds Try.pinned (OpenSpec.ofChange fnExactWeightListsWrong)

/-- 'laws.FnExactUtilityOf': WHATEVER THE INPUT: true; the input reads as it did. -/
def fnExactUtilityOfSpec : ChangeSpec := { name := "fnExactUtilityOf", fn := fun _ => fun
  | [d1, d2] => { results := [.lit (.bool true)], args := [d1, d2] }
  | _ => none }
def fnExactUtilityOfRow : OpenClaim := { program := "ytjjlhiaghjipcaa", sum := "5c33e3cc7454dfc7d6bbb6b364db1557617e2b6145bcd9f339da12886eb415fe", func := "loop.example/g01987/laws.FnExactUtilityOf", spec := "fnExactUtilityOf", unfollowed := true, recurses := true, apart := false }
def FnExactUtilityOfSaid : Prop := fnExactUtilityOfRow.holds Try.pinned (OpenSpec.ofChange fnExactUtilityOfSpec)

/-- ITS FALSE NEIGHBOUR: 'it returns false'. Refute it at one input. -/
def fnExactUtilityOfWrong : ChangeSpec := { name := "fnExactUtilityOf", fn := fun _ => fun
  | [d1, d2] => { results := [.lit (.bool false)], args := [d1, d2] }
  | _ => none }
def FnExactUtilityOfWrongFalsely : Prop := fnExactUtilityOfRow.holds Try.pinned (OpenSpec.ofChange fnExactUtilityOfWrong)

/-- 'laws.FnExactBestUtility': WHATEVER THE INPUT: true; the input reads as it did. -/
def fnExactBestUtilitySpec : ChangeSpec := { name := "fnExactBestUtility", fn := fun _ => fun
  | [d1, d2, d3] => { results := [.lit (.bool true)], args := [d1, d2, d3] }
  | _ => none }
def fnExactBestUtilityRow : OpenClaim := { program := "ytjjlhiaghjipcaa", sum := "5c33e3cc7454dfc7d6bbb6b364db1557617e2b6145bcd9f339da12886eb415fe", func := "loop.example/g01987/laws.FnExactBestUtility", spec := "fnExactBestUtility", unfollowed := true, recurses := true, apart := false }
def FnExactBestUtilitySaid : Prop := fnExactBestUtilityRow.holds Try.pinned (OpenSpec.ofChange fnExactBestUtilitySpec)

/-- ITS FALSE NEIGHBOUR: 'it returns false'. Refute it at one input. -/
def fnExactBestUtilityWrong : ChangeSpec := { name := "fnExactBestUtility", fn := fun _ => fun
  | [d1, d2, d3] => { results := [.lit (.bool false)], args := [d1, d2, d3] }
  | _ => none }
def FnExactBestUtilityWrongFalsely : Prop := fnExactBestUtilityRow.holds Try.pinned (OpenSpec.ofChange fnExactBestUtilityWrong)

/-- 'laws.FnExactRegretOf': WHATEVER THE INPUT: true; the input reads as it did. -/
def fnExactRegretOfSpec : ChangeSpec := { name := "fnExactRegretOf", fn := fun _ => fun
  | [d1, d2] => { results := [.lit (.bool true)], args := [d1, d2] }
  | _ => none }
def fnExactRegretOfRow : OpenClaim := { program := "ytjjlhiaghjipcaa", sum := "5c33e3cc7454dfc7d6bbb6b364db1557617e2b6145bcd9f339da12886eb415fe", func := "loop.example/g01987/laws.FnExactRegretOf", spec := "fnExactRegretOf", unfollowed := true, recurses := true, apart := false }
def FnExactRegretOfSaid : Prop := fnExactRegretOfRow.holds Try.pinned (OpenSpec.ofChange fnExactRegretOfSpec)

/-- ITS FALSE NEIGHBOUR: 'it returns false'. Refute it at one input. -/
def fnExactRegretOfWrong : ChangeSpec := { name := "fnExactRegretOf", fn := fun _ => fun
  | [d1, d2] => { results := [.lit (.bool false)], args := [d1, d2] }
  | _ => none }
def FnExactRegretOfWrongFalsely : Prop := fnExactRegretOfRow.holds Try.pinned (OpenSpec.ofChange fnExactRegretOfWrong)

/-- 'laws.FnExactSmallestSet': WHATEVER THE INPUT: true; the input reads as it did. -/
def fnExactSmallestSetSpec : ChangeSpec := { name := "fnExactSmallestSet", fn := fun _ => fun
  | [d1, d2, d3] => { results := [.lit (.bool true)], args := [d1, d2, d3] }
  | _ => none }
def fnExactSmallestSetRow : OpenClaim := { program := "ytjjlhiaghjipcaa", sum := "5c33e3cc7454dfc7d6bbb6b364db1557617e2b6145bcd9f339da12886eb415fe", func := "loop.example/g01987/laws.FnExactSmallestSet", spec := "fnExactSmallestSet", unfollowed := true, recurses := true, apart := false }
def FnExactSmallestSetSaid : Prop := fnExactSmallestSetRow.holds Try.pinned (OpenSpec.ofChange fnExactSmallestSetSpec)

/-- ITS FALSE NEIGHBOUR: 'it returns false'. Refute it at one input. -/
def fnExactSmallestSetWrong : ChangeSpec := { name := "fnExactSmallestSet", fn := fun _ => fun
  | [d1, d2, d3] => { results := [.lit (.bool false)], args := [d1, d2, d3] }
  | _ => none }
def FnExactSmallestSetWrongFalsely : Prop := fnExactSmallestSetRow.holds Try.pinned (OpenSpec.ofChange fnExactSmallestSetWrong)

/-- 'laws.FnExactGreedySet': WHATEVER THE INPUT: true; the input reads as it did. -/
def fnExactGreedySetSpec : ChangeSpec := { name := "fnExactGreedySet", fn := fun _ => fun
  | [d1, d2] => { results := [.lit (.bool true)], args := [d1, d2] }
  | _ => none }
def fnExactGreedySetRow : OpenClaim := { program := "ytjjlhiaghjipcaa", sum := "5c33e3cc7454dfc7d6bbb6b364db1557617e2b6145bcd9f339da12886eb415fe", func := "loop.example/g01987/laws.FnExactGreedySet", spec := "fnExactGreedySet", unfollowed := true, recurses := true, apart := false }
def FnExactGreedySetSaid : Prop := fnExactGreedySetRow.holds Try.pinned (OpenSpec.ofChange fnExactGreedySetSpec)

/-- ITS FALSE NEIGHBOUR: 'it returns false'. Refute it at one input. -/
def fnExactGreedySetWrong : ChangeSpec := { name := "fnExactGreedySet", fn := fun _ => fun
  | [d1, d2] => { results := [.lit (.bool false)], args := [d1, d2] }
  | _ => none }
def FnExactGreedySetWrongFalsely : Prop := fnExactGreedySetRow.holds Try.pinned (OpenSpec.ofChange fnExactGreedySetWrong)

/- THE SECOND FORM. 'bulk': how many values and letters a reading holds, each counted each time it is reached (what is shared counts as often as it is met; a slice's spare places count too). A statement '..UptoSaid' is the law's where the arguments, and the package variables that the reading takes, are together of bulk at most 1048576: NARROWER than '..Said'. Prove '..Said' where nothing that the law and all that it calls make is longer than what came in: it says more and counts as full. Else prove '..UptoSaid'. A law counts once. -/
mutual
def uptoBulk {H : Type} : DataW H → Nat
  | .lit (.string bytes) => bytes.length + 1
  | .lit _ => 1
  | .nil => 1
  | .ptr d => uptoBulk d + 1
  | .slice elems spare => uptoBulkAll elems + uptoBulkAll spare + 1
  | .agg parts => uptoBulkAll parts + 1
  | .iface _ d => uptoBulk d + 1
  | .map entries => uptoBulkEntries entries + 1
  | .held _ => 1
def uptoBulkAll {H : Type} : List (DataW H) → Nat
  | [] => 0
  | d :: r => uptoBulk d + uptoBulkAll r
def uptoBulkEntries {H : Type} : List (Lit × DataW H) → Nat
  | [] => 0
  | x :: r => uptoBulkEntry x + uptoBulkEntries r
def uptoBulkEntry {H : Type} : Lit × DataW H → Nat
  | (.string bytes, d) => bytes.length + uptoBulk d + 1
  | (_, d) => uptoBulk d + 1
 end
def uptoSmall : (H : Type) → List (DataW H) → Bool := fun _ ds => decide (uptoBulkAll ds ≤ 1048576)
def OpenSpec.upto (s : _root_.Go.ChangeSpec) : _root_.Go.OpenSpec := { _root_.Go.OpenSpec.ofChange s with cond := some uptoSmall }

/-- 'laws.FnRegrets', WHERE WHAT IT READS IS OF BULK AT MOST 1048576: true; the input reads as it did. -/
def fnRegretsUptoRow : OpenClaim := { program := "ytjjlhiaghjipcaa", sum := "5c33e3cc7454dfc7d6bbb6b364db1557617e2b6145bcd9f339da12886eb415fe", func := "loop.example/g01987/laws.FnRegrets", spec := "fnRegrets", unfollowed := true, recurses := true, apart := false, narrowed := true }
def FnRegretsUptoSaid : Prop := fnRegretsUptoRow.holds Try.pinned (OpenSpec.upto fnRegretsSpec)

/-- 'laws.FnExactWeightLists', WHERE WHAT IT READS IS OF BULK AT MOST 1048576: true; the input reads as it did. -/
def fnExactWeightListsUptoRow : OpenClaim := { program := "ytjjlhiaghjipcaa", sum := "5c33e3cc7454dfc7d6bbb6b364db1557617e2b6145bcd9f339da12886eb415fe", func := "loop.example/g01987/laws.FnExactWeightLists", spec := "fnExactWeightLists", apart := false, narrowed := true }
def FnExactWeightListsUptoSaid : Prop := fnExactWeightListsUptoRow.holds Try.pinned (OpenSpec.upto fnExactWeightListsSpec)

/-- 'laws.FnExactUtilityOf', WHERE WHAT IT READS IS OF BULK AT MOST 1048576: true; the input reads as it did. -/
def fnExactUtilityOfUptoRow : OpenClaim := { program := "ytjjlhiaghjipcaa", sum := "5c33e3cc7454dfc7d6bbb6b364db1557617e2b6145bcd9f339da12886eb415fe", func := "loop.example/g01987/laws.FnExactUtilityOf", spec := "fnExactUtilityOf", unfollowed := true, recurses := true, apart := false, narrowed := true }
def FnExactUtilityOfUptoSaid : Prop := fnExactUtilityOfUptoRow.holds Try.pinned (OpenSpec.upto fnExactUtilityOfSpec)

/-- 'laws.FnExactBestUtility', WHERE WHAT IT READS IS OF BULK AT MOST 1048576: true; the input reads as it did. -/
def fnExactBestUtilityUptoRow : OpenClaim := { program := "ytjjlhiaghjipcaa", sum := "5c33e3cc7454dfc7d6bbb6b364db1557617e2b6145bcd9f339da12886eb415fe", func := "loop.example/g01987/laws.FnExactBestUtility", spec := "fnExactBestUtility", unfollowed := true, recurses := true, apart := false, narrowed := true }
def FnExactBestUtilityUptoSaid : Prop := fnExactBestUtilityUptoRow.holds Try.pinned (OpenSpec.upto fnExactBestUtilitySpec)

/-- 'laws.FnExactRegretOf', WHERE WHAT IT READS IS OF BULK AT MOST 1048576: true; the input reads as it did. -/
def fnExactRegretOfUptoRow : OpenClaim := { program := "ytjjlhiaghjipcaa", sum := "5c33e3cc7454dfc7d6bbb6b364db1557617e2b6145bcd9f339da12886eb415fe", func := "loop.example/g01987/laws.FnExactRegretOf", spec := "fnExactRegretOf", unfollowed := true, recurses := true, apart := false, narrowed := true }
def FnExactRegretOfUptoSaid : Prop := fnExactRegretOfUptoRow.holds Try.pinned (OpenSpec.upto fnExactRegretOfSpec)

/-- 'laws.FnExactSmallestSet', WHERE WHAT IT READS IS OF BULK AT MOST 1048576: true; the input reads as it did. -/
def fnExactSmallestSetUptoRow : OpenClaim := { program := "ytjjlhiaghjipcaa", sum := "5c33e3cc7454dfc7d6bbb6b364db1557617e2b6145bcd9f339da12886eb415fe", func := "loop.example/g01987/laws.FnExactSmallestSet", spec := "fnExactSmallestSet", unfollowed := true, recurses := true, apart := false, narrowed := true }
def FnExactSmallestSetUptoSaid : Prop := fnExactSmallestSetUptoRow.holds Try.pinned (OpenSpec.upto fnExactSmallestSetSpec)

/-- 'laws.FnExactGreedySet', WHERE WHAT IT READS IS OF BULK AT MOST 1048576: true; the input reads as it did. -/
def fnExactGreedySetUptoRow : OpenClaim := { program := "ytjjlhiaghjipcaa", sum := "5c33e3cc7454dfc7d6bbb6b364db1557617e2b6145bcd9f339da12886eb415fe", func := "loop.example/g01987/laws.FnExactGreedySet", spec := "fnExactGreedySet", unfollowed := true, recurses := true, apart := false, narrowed := true }
def FnExactGreedySetUptoSaid : Prop := fnExactGreedySetUptoRow.holds Try.pinned (OpenSpec.upto fnExactGreedySetSpec)

end Rows
end Go.Proofs.Ytjjlhiaghjipcaa
