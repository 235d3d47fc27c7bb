/-
  No cell of these rows narrows 'for every input' (looked for: loops, veiled, ifaces, maps, wideKeys, modest, calm, conditions, laid).
  DERIVED. THE GIVEN ROWS OF THIS SEAT. 12 by the template 'for every input the law returns true; each argument reads behind the call as it read before'; 0 by the template 'total and deterministic' (their statements: YtmbchpdcgjlggaaTotals.lean).
  GIVEN WITH THE SEED: the statements are not yours to turn. If you find one false, say at which input.
  Laid BY PROGRAM, IN A SANDBOX (cutbox-rows.mjs): the forced cells as the released guide's own fill.sh prints them over the translation ce9a6c135bdb7d19… (all of the seat's roots in one cut). By AI agents, Wed Nov 11 2026. No macro, syntax, notation, axiom, sorry.
-/
import Derived.Test.YtmbchpdcgjlggaaChecked
import GoSem.Claim
import GoSem.ClaimJoined
import GoSem.ClaimMapViews
import Derived.JoinedTies
import Derived.KernelRfl
namespace Go.Proofs.Ytmbchpdcgjlggaa
/- THE CELL 'sum', in the pinned program and in every row, IS THE sha256 OF THE DUMP (.gsa) THAT YtmbchpdcgjlggaaProg.lean LOADS. Nothing in Lean hashes anything: it is a label: what it is worth is what the hold of that sum in a sandbox is worth. -/
noncomputable def Try.pinned : Pinned := { name := "ytmbchpdcgjlggaa", sum := "ce9a6c135bdb7d19b12e1fe2998409b10a71b0dcbf15edb9170112a00367e6c8", checked := Try.checked }
namespace Rows
def none {H : Type} : Left H := { results := [], args := [] }

/-- 'laws.FnExactIsWish': WHATEVER THE INPUT: true; the input reads as it did. -/
def fnExactIsWishSpec : ChangeSpec := { name := "fnExactIsWish", fn := fun _ => fun
  | [d] => { results := [.lit (.bool true)], args := [d] }
  | _ => none }
def fnExactIsWishRow : OpenClaim := { program := "ytmbchpdcgjlggaa", sum := "ce9a6c135bdb7d19b12e1fe2998409b10a71b0dcbf15edb9170112a00367e6c8", func := "loop.example/g01987/laws.FnExactIsWish", spec := "fnExactIsWish", unfollowed := true, recurses := true, apart := false }
def FnExactIsWishSaid : Prop := fnExactIsWishRow.holds Try.pinned (OpenSpec.ofChange fnExactIsWishSpec)

/-- ITS FALSE NEIGHBOUR: 'it returns false'. Refute it at one input. -/
def fnExactIsWishWrong : ChangeSpec := { name := "fnExactIsWish", fn := fun _ => fun
  | [d] => { results := [.lit (.bool false)], args := [d] }
  | _ => none }
def FnExactIsWishWrongFalsely : Prop := fnExactIsWishRow.holds Try.pinned (OpenSpec.ofChange fnExactIsWishWrong)

/-- 'laws.FnExactCompareValues': WHATEVER THE INPUT: true; the input reads as it did. -/
def fnExactCompareValuesSpec : ChangeSpec := { name := "fnExactCompareValues", fn := fun _ => fun
  | [d1, d2, d3] => { results := [.lit (.bool true)], args := [d1, d2, d3] }
  | _ => none }
def fnExactCompareValuesRow : OpenClaim := { program := "ytmbchpdcgjlggaa", sum := "ce9a6c135bdb7d19b12e1fe2998409b10a71b0dcbf15edb9170112a00367e6c8", func := "loop.example/g01987/laws.FnExactCompareValues", spec := "fnExactCompareValues", unfollowed := true, recurses := true, apart := false }
def FnExactCompareValuesSaid : Prop := fnExactCompareValuesRow.holds Try.pinned (OpenSpec.ofChange fnExactCompareValuesSpec)

/-- ITS FALSE NEIGHBOUR: 'it returns false'. Refute it at one input. -/
def fnExactCompareValuesWrong : ChangeSpec := { name := "fnExactCompareValues", fn := fun _ => fun
  | [d1, d2, d3] => { results := [.lit (.bool false)], args := [d1, d2, d3] }
  | _ => none }
def FnExactCompareValuesWrongFalsely : Prop := fnExactCompareValuesRow.holds Try.pinned (OpenSpec.ofChange fnExactCompareValuesWrong)

/-- 'laws.FnExactCompareItems': WHATEVER THE INPUT: true; the input reads as it did. -/
def fnExactCompareItemsSpec : ChangeSpec := { name := "fnExactCompareItems", fn := fun _ => fun
  | [d1, d2, d3] => { results := [.lit (.bool true)], args := [d1, d2, d3] }
  | _ => none }
def fnExactCompareItemsRow : OpenClaim := { program := "ytmbchpdcgjlggaa", sum := "ce9a6c135bdb7d19b12e1fe2998409b10a71b0dcbf15edb9170112a00367e6c8", func := "loop.example/g01987/laws.FnExactCompareItems", spec := "fnExactCompareItems", unfollowed := true, recurses := true, apart := false }
def FnExactCompareItemsSaid : Prop := fnExactCompareItemsRow.holds Try.pinned (OpenSpec.ofChange fnExactCompareItemsSpec)

/-- ITS FALSE NEIGHBOUR: 'it returns false'. Refute it at one input. -/
def fnExactCompareItemsWrong : ChangeSpec := { name := "fnExactCompareItems", fn := fun _ => fun
  | [d1, d2, d3] => { results := [.lit (.bool false)], args := [d1, d2, d3] }
  | _ => none }
def FnExactCompareItemsWrongFalsely : Prop := fnExactCompareItemsRow.holds Try.pinned (OpenSpec.ofChange fnExactCompareItemsWrong)

/-- 'laws.FnExactRankOfValue': WHATEVER THE INPUT: true; the input reads as it did. -/
def fnExactRankOfValueSpec : ChangeSpec := { name := "fnExactRankOfValue", fn := fun _ => fun
  | [d1, d2] => { results := [.lit (.bool true)], args := [d1, d2] }
  | _ => none }
def fnExactRankOfValueRow : OpenClaim := { program := "ytmbchpdcgjlggaa", sum := "ce9a6c135bdb7d19b12e1fe2998409b10a71b0dcbf15edb9170112a00367e6c8", func := "loop.example/g01987/laws.FnExactRankOfValue", spec := "fnExactRankOfValue", unfollowed := true, recurses := true, apart := false }
def FnExactRankOfValueSaid : Prop := fnExactRankOfValueRow.holds Try.pinned (OpenSpec.ofChange fnExactRankOfValueSpec)

/-- ITS FALSE NEIGHBOUR: 'it returns false'. Refute it at one input. -/
def fnExactRankOfValueWrong : ChangeSpec := { name := "fnExactRankOfValue", fn := fun _ => fun
  | [d1, d2] => { results := [.lit (.bool false)], args := [d1, d2] }
  | _ => none }
def FnExactRankOfValueWrongFalsely : Prop := fnExactRankOfValueRow.holds Try.pinned (OpenSpec.ofChange fnExactRankOfValueWrong)

/-- 'laws.FnExactIsExpression': WHATEVER THE INPUT: true; the input reads as it did. -/
def fnExactIsExpressionSpec : ChangeSpec := { name := "fnExactIsExpression", fn := fun _ => fun
  | [d] => { results := [.lit (.bool true)], args := [d] }
  | _ => none }
def fnExactIsExpressionRow : OpenClaim := { program := "ytmbchpdcgjlggaa", sum := "ce9a6c135bdb7d19b12e1fe2998409b10a71b0dcbf15edb9170112a00367e6c8", func := "loop.example/g01987/laws.FnExactIsExpression", spec := "fnExactIsExpression", unfollowed := true, recurses := true, apart := false }
def FnExactIsExpressionSaid : Prop := fnExactIsExpressionRow.holds Try.pinned (OpenSpec.ofChange fnExactIsExpressionSpec)

/-- ITS FALSE NEIGHBOUR: 'it returns false'. Refute it at one input. -/
def fnExactIsExpressionWrong : ChangeSpec := { name := "fnExactIsExpression", fn := fun _ => fun
  | [d] => { results := [.lit (.bool false)], args := [d] }
  | _ => none }
def FnExactIsExpressionWrongFalsely : Prop := fnExactIsExpressionRow.holds Try.pinned (OpenSpec.ofChange fnExactIsExpressionWrong)

/-- 'laws.FnExactCompareBy': WHATEVER THE INPUT: true; the input reads as it did. -/
def fnExactCompareBySpec : ChangeSpec := { name := "fnExactCompareBy", fn := fun _ => fun
  | [d1, d2, d3] => { results := [.lit (.bool true)], args := [d1, d2, d3] }
  | _ => none }
def fnExactCompareByRow : OpenClaim := { program := "ytmbchpdcgjlggaa", sum := "ce9a6c135bdb7d19b12e1fe2998409b10a71b0dcbf15edb9170112a00367e6c8", func := "loop.example/g01987/laws.FnExactCompareBy", spec := "fnExactCompareBy", unfollowed := true, recurses := true, apart := false }
def FnExactCompareBySaid : Prop := fnExactCompareByRow.holds Try.pinned (OpenSpec.ofChange fnExactCompareBySpec)

/-- ITS FALSE NEIGHBOUR: 'it returns false'. Refute it at one input. -/
def fnExactCompareByWrong : ChangeSpec := { name := "fnExactCompareBy", fn := fun _ => fun
  | [d1, d2, d3] => { results := [.lit (.bool false)], args := [d1, d2, d3] }
  | _ => none }
def FnExactCompareByWrongFalsely : Prop := fnExactCompareByRow.holds Try.pinned (OpenSpec.ofChange fnExactCompareByWrong)

/-- 'laws.FnExactWishesOf': WHATEVER THE INPUT: true; the input reads as it did. -/
def fnExactWishesOfSpec : ChangeSpec := { name := "fnExactWishesOf", fn := fun _ => fun
  | [d] => { results := [.lit (.bool true)], args := [d] }
  | _ => none }
def fnExactWishesOfRow : OpenClaim := { program := "ytmbchpdcgjlggaa", sum := "ce9a6c135bdb7d19b12e1fe2998409b10a71b0dcbf15edb9170112a00367e6c8", func := "loop.example/g01987/laws.FnExactWishesOf", spec := "fnExactWishesOf", unfollowed := true, recurses := true, apart := false }
def FnExactWishesOfSaid : Prop := fnExactWishesOfRow.holds Try.pinned (OpenSpec.ofChange fnExactWishesOfSpec)

/-- ITS FALSE NEIGHBOUR: 'it returns false'. Refute it at one input. -/
def fnExactWishesOfWrong : ChangeSpec := { name := "fnExactWishesOf", fn := fun _ => fun
  | [d] => { results := [.lit (.bool false)], args := [d] }
  | _ => none }
def FnExactWishesOfWrongFalsely : Prop := fnExactWishesOfRow.holds Try.pinned (OpenSpec.ofChange fnExactWishesOfWrong)

/-- 'laws.FnExactJoinExpressions': WHATEVER THE INPUT: true; the input reads as it did. -/
def fnExactJoinExpressionsSpec : ChangeSpec := { name := "fnExactJoinExpressions", fn := fun _ => fun
  | [d1, d2, d3] => { results := [.lit (.bool true)], args := [d1, d2, d3] }
  | _ => none }
def fnExactJoinExpressionsRow : OpenClaim := { program := "ytmbchpdcgjlggaa", sum := "ce9a6c135bdb7d19b12e1fe2998409b10a71b0dcbf15edb9170112a00367e6c8", func := "loop.example/g01987/laws.FnExactJoinExpressions", spec := "fnExactJoinExpressions", unfollowed := true, recurses := true, apart := false }
def FnExactJoinExpressionsSaid : Prop := fnExactJoinExpressionsRow.holds Try.pinned (OpenSpec.ofChange fnExactJoinExpressionsSpec)

/-- ITS FALSE NEIGHBOUR: 'it returns false'. Refute it at one input. -/
def fnExactJoinExpressionsWrong : ChangeSpec := { name := "fnExactJoinExpressions", fn := fun _ => fun
  | [d1, d2, d3] => { results := [.lit (.bool false)], args := [d1, d2, d3] }
  | _ => none }
def FnExactJoinExpressionsWrongFalsely : Prop := fnExactJoinExpressionsRow.holds Try.pinned (OpenSpec.ofChange fnExactJoinExpressionsWrong)

/-- 'laws.FnExactBestItems': WHATEVER THE INPUT: true; the input reads as it did. -/
def fnExactBestItemsSpec : ChangeSpec := { name := "fnExactBestItems", fn := fun _ => fun
  | [d1, d2] => { results := [.lit (.bool true)], args := [d1, d2] }
  | _ => none }
def fnExactBestItemsRow : OpenClaim := { program := "ytmbchpdcgjlggaa", sum := "ce9a6c135bdb7d19b12e1fe2998409b10a71b0dcbf15edb9170112a00367e6c8", func := "loop.example/g01987/laws.FnExactBestItems", spec := "fnExactBestItems", unfollowed := true, recurses := true, apart := false }
def FnExactBestItemsSaid : Prop := fnExactBestItemsRow.holds Try.pinned (OpenSpec.ofChange fnExactBestItemsSpec)

/-- ITS FALSE NEIGHBOUR: 'it returns false'. Refute it at one input. -/
def fnExactBestItemsWrong : ChangeSpec := { name := "fnExactBestItems", fn := fun _ => fun
  | [d1, d2] => { results := [.lit (.bool false)], args := [d1, d2] }
  | _ => none }
def FnExactBestItemsWrongFalsely : Prop := fnExactBestItemsRow.holds Try.pinned (OpenSpec.ofChange fnExactBestItemsWrong)

/-- 'laws.FnExactIsBest': WHATEVER THE INPUT: true; the input reads as it did. -/
def fnExactIsBestSpec : ChangeSpec := { name := "fnExactIsBest", fn := fun _ => fun
  | [d1, d2, d3] => { results := [.lit (.bool true)], args := [d1, d2, d3] }
  | _ => none }
def fnExactIsBestRow : OpenClaim := { program := "ytmbchpdcgjlggaa", sum := "ce9a6c135bdb7d19b12e1fe2998409b10a71b0dcbf15edb9170112a00367e6c8", func := "loop.example/g01987/laws.FnExactIsBest", spec := "fnExactIsBest", unfollowed := true, recurses := true, apart := false }
def FnExactIsBestSaid : Prop := fnExactIsBestRow.holds Try.pinned (OpenSpec.ofChange fnExactIsBestSpec)

/-- ITS FALSE NEIGHBOUR: 'it returns false'. Refute it at one input. -/
def fnExactIsBestWrong : ChangeSpec := { name := "fnExactIsBest", fn := fun _ => fun
  | [d1, d2, d3] => { results := [.lit (.bool false)], args := [d1, d2, d3] }
  | _ => none }
def FnExactIsBestWrongFalsely : Prop := fnExactIsBestRow.holds Try.pinned (OpenSpec.ofChange fnExactIsBestWrong)

/-- 'laws.FnExactDominatorsOf': WHATEVER THE INPUT: true; the input reads as it did. -/
def fnExactDominatorsOfSpec : ChangeSpec := { name := "fnExactDominatorsOf", fn := fun _ => fun
  | [d1, d2, d3] => { results := [.lit (.bool true)], args := [d1, d2, d3] }
  | _ => none }
def fnExactDominatorsOfRow : OpenClaim := { program := "ytmbchpdcgjlggaa", sum := "ce9a6c135bdb7d19b12e1fe2998409b10a71b0dcbf15edb9170112a00367e6c8", func := "loop.example/g01987/laws.FnExactDominatorsOf", spec := "fnExactDominatorsOf", unfollowed := true, recurses := true, apart := false }
def FnExactDominatorsOfSaid : Prop := fnExactDominatorsOfRow.holds Try.pinned (OpenSpec.ofChange fnExactDominatorsOfSpec)

/-- ITS FALSE NEIGHBOUR: 'it returns false'. Refute it at one input. -/
def fnExactDominatorsOfWrong : ChangeSpec := { name := "fnExactDominatorsOf", fn := fun _ => fun
  | [d1, d2, d3] => { results := [.lit (.bool false)], args := [d1, d2, d3] }
  | _ => none }
def FnExactDominatorsOfWrongFalsely : Prop := fnExactDominatorsOfRow.holds Try.pinned (OpenSpec.ofChange fnExactDominatorsOfWrong)

/-- 'laws.FnExactDominatedBy': WHATEVER THE INPUT: true; the input reads as it did. -/
def fnExactDominatedBySpec : ChangeSpec := { name := "fnExactDominatedBy", fn := fun _ => fun
  | [d1, d2, d3] => { results := [.lit (.bool true)], args := [d1, d2, d3] }
  | _ => none }
def fnExactDominatedByRow : OpenClaim := { program := "ytmbchpdcgjlggaa", sum := "ce9a6c135bdb7d19b12e1fe2998409b10a71b0dcbf15edb9170112a00367e6c8", func := "loop.example/g01987/laws.FnExactDominatedBy", spec := "fnExactDominatedBy", unfollowed := true, recurses := true, apart := false }
def FnExactDominatedBySaid : Prop := fnExactDominatedByRow.holds Try.pinned (OpenSpec.ofChange fnExactDominatedBySpec)

/-- ITS FALSE NEIGHBOUR: 'it returns false'. Refute it at one input. -/
def fnExactDominatedByWrong : ChangeSpec := { name := "fnExactDominatedBy", fn := fun _ => fun
  | [d1, d2, d3] => { results := [.lit (.bool false)], args := [d1, d2, d3] }
  | _ => none }
def FnExactDominatedByWrongFalsely : Prop := fnExactDominatedByRow.holds Try.pinned (OpenSpec.ofChange fnExactDominatedByWrong)

/- THE SECOND FORM. 'bulk': how many values and letters a reading holds, each counted each time it is reached (what is shared counts as often as it is met; a slice's spare places count too). A statement '..UptoSaid' is the law's where the arguments, and the package variables that the reading takes, are together of bulk at most 1048576: NARROWER than '..Said'. Prove '..Said' where nothing that the law and all that it calls make is longer than what came in: it says more and counts as full. Else prove '..UptoSaid'. A law counts once. -/
mutual
def uptoBulk {H : Type} : DataW H → Nat
  | .lit (.string bytes) => bytes.length + 1
  | .lit _ => 1
  | .nil => 1
  | .ptr d => uptoBulk d + 1
  | .slice elems spare => uptoBulkAll elems + uptoBulkAll spare + 1
  | .agg parts => uptoBulkAll parts + 1
  | .iface _ d => uptoBulk d + 1
  | .map entries => uptoBulkEntries entries + 1
  | .held _ => 1
def uptoBulkAll {H : Type} : List (DataW H) → Nat
  | [] => 0
  | d :: r => uptoBulk d + uptoBulkAll r
def uptoBulkEntries {H : Type} : List (Lit × DataW H) → Nat
  | [] => 0
  | x :: r => uptoBulkEntry x + uptoBulkEntries r
def uptoBulkEntry {H : Type} : Lit × DataW H → Nat
  | (.string bytes, d) => bytes.length + uptoBulk d + 1
  | (_, d) => uptoBulk d + 1
 end
def uptoSmall : (H : Type) → List (DataW H) → Bool := fun _ ds => decide (uptoBulkAll ds ≤ 1048576)
def OpenSpec.upto (s : _root_.Go.ChangeSpec) : _root_.Go.OpenSpec := { _root_.Go.OpenSpec.ofChange s with cond := some uptoSmall }

/-- 'laws.FnExactIsWish', WHERE WHAT IT READS IS OF BULK AT MOST 1048576: true; the input reads as it did. -/
def fnExactIsWishUptoRow : OpenClaim := { program := "ytmbchpdcgjlggaa", sum := "ce9a6c135bdb7d19b12e1fe2998409b10a71b0dcbf15edb9170112a00367e6c8", func := "loop.example/g01987/laws.FnExactIsWish", spec := "fnExactIsWish", unfollowed := true, recurses := true, apart := false, narrowed := true }
def FnExactIsWishUptoSaid : Prop := fnExactIsWishUptoRow.holds Try.pinned (OpenSpec.upto fnExactIsWishSpec)

/-- 'laws.FnExactCompareValues', WHERE WHAT IT READS IS OF BULK AT MOST 1048576: true; the input reads as it did. -/
def fnExactCompareValuesUptoRow : OpenClaim := { program := "ytmbchpdcgjlggaa", sum := "ce9a6c135bdb7d19b12e1fe2998409b10a71b0dcbf15edb9170112a00367e6c8", func := "loop.example/g01987/laws.FnExactCompareValues", spec := "fnExactCompareValues", unfollowed := true, recurses := true, apart := false, narrowed := true }
def FnExactCompareValuesUptoSaid : Prop := fnExactCompareValuesUptoRow.holds Try.pinned (OpenSpec.upto fnExactCompareValuesSpec)

/-- 'laws.FnExactCompareItems', WHERE WHAT IT READS IS OF BULK AT MOST 1048576: true; the input reads as it did. -/
def fnExactCompareItemsUptoRow : OpenClaim := { program := "ytmbchpdcgjlggaa", sum := "ce9a6c135bdb7d19b12e1fe2998409b10a71b0dcbf15edb9170112a00367e6c8", func := "loop.example/g01987/laws.FnExactCompareItems", spec := "fnExactCompareItems", unfollowed := true, recurses := true, apart := false, narrowed := true }
def FnExactCompareItemsUptoSaid : Prop := fnExactCompareItemsUptoRow.holds Try.pinned (OpenSpec.upto fnExactCompareItemsSpec)

/-- 'laws.FnExactRankOfValue', WHERE WHAT IT READS IS OF BULK AT MOST 1048576: true; the input reads as it did. -/
def fnExactRankOfValueUptoRow : OpenClaim := { program := "ytmbchpdcgjlggaa", sum := "ce9a6c135bdb7d19b12e1fe2998409b10a71b0dcbf15edb9170112a00367e6c8", func := "loop.example/g01987/laws.FnExactRankOfValue", spec := "fnExactRankOfValue", unfollowed := true, recurses := true, apart := false, narrowed := true }
def FnExactRankOfValueUptoSaid : Prop := fnExactRankOfValueUptoRow.holds Try.pinned (OpenSpec.upto fnExactRankOfValueSpec)

/-- 'laws.FnExactIsExpression', WHERE WHAT IT READS IS OF BULK AT MOST 1048576: true; the input reads as it did. -/
def fnExactIsExpressionUptoRow : OpenClaim := { program := "ytmbchpdcgjlggaa", sum := "ce9a6c135bdb7d19b12e1fe2998409b10a71b0dcbf15edb9170112a00367e6c8", func := "loop.example/g01987/laws.FnExactIsExpression", spec := "fnExactIsExpression", unfollowed := true, recurses := true, apart := false, narrowed := true }
def FnExactIsExpressionUptoSaid : Prop := fnExactIsExpressionUptoRow.holds Try.pinned (OpenSpec.upto fnExactIsExpressionSpec)

/-- 'laws.FnExactCompareBy', WHERE WHAT IT READS IS OF BULK AT MOST 1048576: true; the input reads as it did. -/
def fnExactCompareByUptoRow : OpenClaim := { program := "ytmbchpdcgjlggaa", sum := "ce9a6c135bdb7d19b12e1fe2998409b10a71b0dcbf15edb9170112a00367e6c8", func := "loop.example/g01987/laws.FnExactCompareBy", spec := "fnExactCompareBy", unfollowed := true, recurses := true, apart := false, narrowed := true }
def FnExactCompareByUptoSaid : Prop := fnExactCompareByUptoRow.holds Try.pinned (OpenSpec.upto fnExactCompareBySpec)

/-- 'laws.FnExactWishesOf', WHERE WHAT IT READS IS OF BULK AT MOST 1048576: true; the input reads as it did. -/
def fnExactWishesOfUptoRow : OpenClaim := { program := "ytmbchpdcgjlggaa", sum := "ce9a6c135bdb7d19b12e1fe2998409b10a71b0dcbf15edb9170112a00367e6c8", func := "loop.example/g01987/laws.FnExactWishesOf", spec := "fnExactWishesOf", unfollowed := true, recurses := true, apart := false, narrowed := true }
def FnExactWishesOfUptoSaid : Prop := fnExactWishesOfUptoRow.holds Try.pinned (OpenSpec.upto fnExactWishesOfSpec)

/-- 'laws.FnExactJoinExpressions', WHERE WHAT IT READS IS OF BULK AT MOST 1048576: true; the input reads as it did. -/
def fnExactJoinExpressionsUptoRow : OpenClaim := { program := "ytmbchpdcgjlggaa", sum := "ce9a6c135bdb7d19b12e1fe2998409b10a71b0dcbf15edb9170112a00367e6c8", func := "loop.example/g01987/laws.FnExactJoinExpressions", spec := "fnExactJoinExpressions", unfollowed := true, recurses := true, apart := false, narrowed := true }
def FnExactJoinExpressionsUptoSaid : Prop := fnExactJoinExpressionsUptoRow.holds Try.pinned (OpenSpec.upto fnExactJoinExpressionsSpec)

/-- 'laws.FnExactBestItems', WHERE WHAT IT READS IS OF BULK AT MOST 1048576: true; the input reads as it did. -/
def fnExactBestItemsUptoRow : OpenClaim := { program := "ytmbchpdcgjlggaa", sum := "ce9a6c135bdb7d19b12e1fe2998409b10a71b0dcbf15edb9170112a00367e6c8", func := "loop.example/g01987/laws.FnExactBestItems", spec := "fnExactBestItems", unfollowed := true, recurses := true, apart := false, narrowed := true }
def FnExactBestItemsUptoSaid : Prop := fnExactBestItemsUptoRow.holds Try.pinned (OpenSpec.upto fnExactBestItemsSpec)

/-- 'laws.FnExactIsBest', WHERE WHAT IT READS IS OF BULK AT MOST 1048576: true; the input reads as it did. -/
def fnExactIsBestUptoRow : OpenClaim := { program := "ytmbchpdcgjlggaa", sum := "ce9a6c135bdb7d19b12e1fe2998409b10a71b0dcbf15edb9170112a00367e6c8", func := "loop.example/g01987/laws.FnExactIsBest", spec := "fnExactIsBest", unfollowed := true, recurses := true, apart := false, narrowed := true }
def FnExactIsBestUptoSaid : Prop := fnExactIsBestUptoRow.holds Try.pinned (OpenSpec.upto fnExactIsBestSpec)

/-- 'laws.FnExactDominatorsOf', WHERE WHAT IT READS IS OF BULK AT MOST 1048576: true; the input reads as it did. -/
def fnExactDominatorsOfUptoRow : OpenClaim := { program := "ytmbchpdcgjlggaa", sum := "ce9a6c135bdb7d19b12e1fe2998409b10a71b0dcbf15edb9170112a00367e6c8", func := "loop.example/g01987/laws.FnExactDominatorsOf", spec := "fnExactDominatorsOf", unfollowed := true, recurses := true, apart := false, narrowed := true }
def FnExactDominatorsOfUptoSaid : Prop := fnExactDominatorsOfUptoRow.holds Try.pinned (OpenSpec.upto fnExactDominatorsOfSpec)

/-- 'laws.FnExactDominatedBy', WHERE WHAT IT READS IS OF BULK AT MOST 1048576: true; the input reads as it did. -/
def fnExactDominatedByUptoRow : OpenClaim := { program := "ytmbchpdcgjlggaa", sum := "ce9a6c135bdb7d19b12e1fe2998409b10a71b0dcbf15edb9170112a00367e6c8", func := "loop.example/g01987/laws.FnExactDominatedBy", spec := "fnExactDominatedBy", unfollowed := true, recurses := true, apart := false, narrowed := true }
def FnExactDominatedByUptoSaid : Prop := fnExactDominatedByUptoRow.holds Try.pinned (OpenSpec.upto fnExactDominatedBySpec)

end Rows
end Go.Proofs.Ytmbchpdcgjlggaa
