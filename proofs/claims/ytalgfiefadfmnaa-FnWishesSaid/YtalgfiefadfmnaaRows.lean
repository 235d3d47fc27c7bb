/-
  No cell of these rows narrows 'for every input' (looked for: loops, veiled, ifaces, maps, wideKeys, modest, calm, conditions, laid).
  DERIVED. THE GIVEN ROWS OF THIS SEAT. 6 by the template 'for every input the law returns true; each argument reads behind the call as it read before'; 0 by the template 'total and deterministic' (their statements: YtalgfiefadfmnaaTotals.lean).
  GIVEN WITH THE SEED: the statements are not yours to turn. If you find one false, say at which input.
  Laid BY PROGRAM, IN A SANDBOX (cutbox-rows.mjs): the forced cells as the released guide's own fill.sh prints them over the translation a17572809607950e… (all of the seat's roots in one cut). By AI agents, Wed Nov 11 2026. No macro, syntax, notation, axiom, sorry.
-/
import Derived.Test.YtalgfiefadfmnaaChecked
import GoSem.Claim
import GoSem.ClaimJoined
import GoSem.ClaimMapViews
import Derived.JoinedTies
import Derived.KernelRfl
namespace Go.Proofs.Ytalgfiefadfmnaa
/- THE CELL 'sum', in the pinned program and in every row, IS THE sha256 OF THE DUMP (.gsa) THAT YtalgfiefadfmnaaProg.lean LOADS. Nothing in Lean hashes anything: it is a label: what it is worth is what the hold of that sum in a sandbox is worth. -/
noncomputable def Try.pinned : Pinned := { name := "ytalgfiefadfmnaa", sum := "a17572809607950e8393dfe6c92ed942145cf394b0abc1458dd9f5d46cb2f96d", checked := Try.checked }
namespace Rows
def none {H : Type} : Left H := { results := [], args := [] }

/-- 'laws.FnWishes': WHATEVER THE INPUT: true; the input reads as it did. -/
def fnWishesSpec : ChangeSpec := { name := "fnWishes", fn := fun _ => fun
  | [d] => { results := [.lit (.bool true)], args := [d] }
  | _ => none }
def fnWishesRow : OpenClaim := { program := "ytalgfiefadfmnaa", sum := "a17572809607950e8393dfe6c92ed942145cf394b0abc1458dd9f5d46cb2f96d", func := "loop.example/g01987/laws.FnWishes", spec := "fnWishes", unfollowed := true, recurses := true, apart := false }
def FnWishesSaid : Prop := fnWishesRow.holds Try.pinned (OpenSpec.ofChange fnWishesSpec)

/-- ITS FALSE NEIGHBOUR: 'it returns false'. Refute it at one input. -/
def fnWishesWrong : ChangeSpec := { name := "fnWishes", fn := fun _ => fun
  | [d] => { results := [.lit (.bool false)], args := [d] }
  | _ => none }
def FnWishesWrongFalsely : Prop := fnWishesRow.holds Try.pinned (OpenSpec.ofChange fnWishesWrong)

/-- 'laws.FnExactIsWish': WHATEVER THE INPUT: true; the input reads as it did. -/
def fnExactIsWishSpec : ChangeSpec := { name := "fnExactIsWish", fn := fun _ => fun
  | [d] => { results := [.lit (.bool true)], args := [d] }
  | _ => none }
def fnExactIsWishRow : OpenClaim := { program := "ytalgfiefadfmnaa", sum := "a17572809607950e8393dfe6c92ed942145cf394b0abc1458dd9f5d46cb2f96d", func := "loop.example/g01987/laws.FnExactIsWish", spec := "fnExactIsWish", apart := false }
def FnExactIsWishSaid : Prop := fnExactIsWishRow.holds Try.pinned (OpenSpec.ofChange fnExactIsWishSpec)

/-- ITS FALSE NEIGHBOUR: 'it returns false'. Refute it at one input. -/
def fnExactIsWishWrong : ChangeSpec := { name := "fnExactIsWish", fn := fun _ => fun
  | [d] => { results := [.lit (.bool false)], args := [d] }
  | _ => none }
def FnExactIsWishWrongFalsely : Prop := fnExactIsWishRow.holds Try.pinned (OpenSpec.ofChange fnExactIsWishWrong)

/-- 'laws.FnExactCompareValues': WHATEVER THE INPUT: true; the input reads as it did. -/
def fnExactCompareValuesSpec : ChangeSpec := { name := "fnExactCompareValues", fn := fun _ => fun
  | [d1, d2, d3] => { results := [.lit (.bool true)], args := [d1, d2, d3] }
  | _ => none }
def fnExactCompareValuesRow : OpenClaim := { program := "ytalgfiefadfmnaa", sum := "a17572809607950e8393dfe6c92ed942145cf394b0abc1458dd9f5d46cb2f96d", func := "loop.example/g01987/laws.FnExactCompareValues", spec := "fnExactCompareValues", unfollowed := true, recurses := true, apart := false }
def FnExactCompareValuesSaid : Prop := fnExactCompareValuesRow.holds Try.pinned (OpenSpec.ofChange fnExactCompareValuesSpec)

/-- ITS FALSE NEIGHBOUR: 'it returns false'. Refute it at one input. -/
def fnExactCompareValuesWrong : ChangeSpec := { name := "fnExactCompareValues", fn := fun _ => fun
  | [d1, d2, d3] => { results := [.lit (.bool false)], args := [d1, d2, d3] }
  | _ => none }
def FnExactCompareValuesWrongFalsely : Prop := fnExactCompareValuesRow.holds Try.pinned (OpenSpec.ofChange fnExactCompareValuesWrong)

/-- 'laws.FnExactCompareItems': WHATEVER THE INPUT: true; the input reads as it did. -/
def fnExactCompareItemsSpec : ChangeSpec := { name := "fnExactCompareItems", fn := fun _ => fun
  | [d1, d2, d3] => { results := [.lit (.bool true)], args := [d1, d2, d3] }
  | _ => none }
def fnExactCompareItemsRow : OpenClaim := { program := "ytalgfiefadfmnaa", sum := "a17572809607950e8393dfe6c92ed942145cf394b0abc1458dd9f5d46cb2f96d", func := "loop.example/g01987/laws.FnExactCompareItems", spec := "fnExactCompareItems", unfollowed := true, recurses := true, apart := false }
def FnExactCompareItemsSaid : Prop := fnExactCompareItemsRow.holds Try.pinned (OpenSpec.ofChange fnExactCompareItemsSpec)

/-- ITS FALSE NEIGHBOUR: 'it returns false'. Refute it at one input. -/
def fnExactCompareItemsWrong : ChangeSpec := { name := "fnExactCompareItems", fn := fun _ => fun
  | [d1, d2, d3] => { results := [.lit (.bool false)], args := [d1, d2, d3] }
  | _ => none }
def FnExactCompareItemsWrongFalsely : Prop := fnExactCompareItemsRow.holds Try.pinned (OpenSpec.ofChange fnExactCompareItemsWrong)

/-- 'laws.FnExactRankOfValue': WHATEVER THE INPUT: true; the input reads as it did. -/
def fnExactRankOfValueSpec : ChangeSpec := { name := "fnExactRankOfValue", fn := fun _ => fun
  | [d1, d2] => { results := [.lit (.bool true)], args := [d1, d2] }
  | _ => none }
def fnExactRankOfValueRow : OpenClaim := { program := "ytalgfiefadfmnaa", sum := "a17572809607950e8393dfe6c92ed942145cf394b0abc1458dd9f5d46cb2f96d", func := "loop.example/g01987/laws.FnExactRankOfValue", spec := "fnExactRankOfValue", unfollowed := true, recurses := true, apart := false }
def FnExactRankOfValueSaid : Prop := fnExactRankOfValueRow.holds Try.pinned (OpenSpec.ofChange fnExactRankOfValueSpec)

/-- ITS FALSE NEIGHBOUR: 'it returns false'. Refute it at one input. -/
def fnExactRankOfValueWrong : ChangeSpec := { name := "fnExactRankOfValue", fn := fun _ => fun
  | [d1, d2] => { results := [.lit (.bool false)], args := [d1, d2] }
  | _ => none }
def FnExactRankOfValueWrongFalsely : Prop := fnExactRankOfValueRow.holds Try.pinned (OpenSpec.ofChange fnExactRankOfValueWrong)

/-- 'laws.FnExactCodeName': WHATEVER THE INPUT: true; the input reads as it did. -/
def fnExactCodeNameSpec : ChangeSpec := { name := "fnExactCodeName", fn := fun _ => fun
  | [d] => { results := [.lit (.bool true)], args := [d] }
  | _ => none }
def fnExactCodeNameRow : OpenClaim := { program := "ytalgfiefadfmnaa", sum := "a17572809607950e8393dfe6c92ed942145cf394b0abc1458dd9f5d46cb2f96d", func := "loop.example/g01987/laws.FnExactCodeName", spec := "fnExactCodeName", apart := false }
def FnExactCodeNameSaid : Prop := fnExactCodeNameRow.holds Try.pinned (OpenSpec.ofChange fnExactCodeNameSpec)

/-- ITS FALSE NEIGHBOUR: 'it returns false'. Refute it at one input. -/
def fnExactCodeNameWrong : ChangeSpec := { name := "fnExactCodeName", fn := fun _ => fun
  | [d] => { results := [.lit (.bool false)], args := [d] }
  | _ => none }
def FnExactCodeNameWrongFalsely : Prop := fnExactCodeNameRow.holds Try.pinned (OpenSpec.ofChange fnExactCodeNameWrong)

/- THE SECOND FORM. 'bulk': how many values and letters a reading holds, each counted each time it is reached (what is shared counts as often as it is met; a slice's spare places count too). A statement '..UptoSaid' is the law's where the arguments, and the package variables that the reading takes, are together of bulk at most 1048576: NARROWER than '..Said'. Prove '..Said' where nothing that the law and all that it calls make is longer than what came in: it says more and counts as full. Else prove '..UptoSaid'. A law counts once. -/
mutual
def uptoBulk {H : Type} : DataW H → Nat
  | .lit (.string bytes) => bytes.length + 1
  | .lit _ => 1
  | .nil => 1
  | .ptr d => uptoBulk d + 1
  | .slice elems spare => uptoBulkAll elems + uptoBulkAll spare + 1
  | .agg parts => uptoBulkAll parts + 1
  | .iface _ d => uptoBulk d + 1
  | .map entries => uptoBulkEntries entries + 1
  | .held _ => 1
def uptoBulkAll {H : Type} : List (DataW H) → Nat
  | [] => 0
  | d :: r => uptoBulk d + uptoBulkAll r
def uptoBulkEntries {H : Type} : List (Lit × DataW H) → Nat
  | [] => 0
  | x :: r => uptoBulkEntry x + uptoBulkEntries r
def uptoBulkEntry {H : Type} : Lit × DataW H → Nat
  | (.string bytes, d) => bytes.length + uptoBulk d + 1
  | (_, d) => uptoBulk d + 1
 end
def uptoSmall : (H : Type) → List (DataW H) → Bool := fun _ ds => decide (uptoBulkAll ds ≤ 1048576)
def OpenSpec.upto (s : _root_.Go.ChangeSpec) : _root_.Go.OpenSpec := { _root_.Go.OpenSpec.ofChange s with cond := some uptoSmall }

/-- 'laws.FnWishes', WHERE WHAT IT READS IS OF BULK AT MOST 1048576: true; the input reads as it did. -/
def fnWishesUptoRow : OpenClaim := { program := "ytalgfiefadfmnaa", sum := "a17572809607950e8393dfe6c92ed942145cf394b0abc1458dd9f5d46cb2f96d", func := "loop.example/g01987/laws.FnWishes", spec := "fnWishes", unfollowed := true, recurses := true, apart := false, narrowed := true }
def FnWishesUptoSaid : Prop := fnWishesUptoRow.holds Try.pinned (OpenSpec.upto fnWishesSpec)

/-- 'laws.FnExactIsWish', WHERE WHAT IT READS IS OF BULK AT MOST 1048576: true; the input reads as it did. -/
def fnExactIsWishUptoRow : OpenClaim := { program := "ytalgfiefadfmnaa", sum := "a17572809607950e8393dfe6c92ed942145cf394b0abc1458dd9f5d46cb2f96d", func := "loop.example/g01987/laws.FnExactIsWish", spec := "fnExactIsWish", apart := false, narrowed := true }
def FnExactIsWishUptoSaid : Prop := fnExactIsWishUptoRow.holds Try.pinned (OpenSpec.upto fnExactIsWishSpec)

/-- 'laws.FnExactCompareValues', WHERE WHAT IT READS IS OF BULK AT MOST 1048576: true; the input reads as it did. -/
def fnExactCompareValuesUptoRow : OpenClaim := { program := "ytalgfiefadfmnaa", sum := "a17572809607950e8393dfe6c92ed942145cf394b0abc1458dd9f5d46cb2f96d", func := "loop.example/g01987/laws.FnExactCompareValues", spec := "fnExactCompareValues", unfollowed := true, recurses := true, apart := false, narrowed := true }
def FnExactCompareValuesUptoSaid : Prop := fnExactCompareValuesUptoRow.holds Try.pinned (OpenSpec.upto fnExactCompareValuesSpec)

/-- 'laws.FnExactCompareItems', WHERE WHAT IT READS IS OF BULK AT MOST 1048576: true; the input reads as it did. -/
def fnExactCompareItemsUptoRow : OpenClaim := { program := "ytalgfiefadfmnaa", sum := "a17572809607950e8393dfe6c92ed942145cf394b0abc1458dd9f5d46cb2f96d", func := "loop.example/g01987/laws.FnExactCompareItems", spec := "fnExactCompareItems", unfollowed := true, recurses := true, apart := false, narrowed := true }
def FnExactCompareItemsUptoSaid : Prop := fnExactCompareItemsUptoRow.holds Try.pinned (OpenSpec.upto fnExactCompareItemsSpec)

/-- 'laws.FnExactRankOfValue', WHERE WHAT IT READS IS OF BULK AT MOST 1048576: true; the input reads as it did. -/
def fnExactRankOfValueUptoRow : OpenClaim := { program := "ytalgfiefadfmnaa", sum := "a17572809607950e8393dfe6c92ed942145cf394b0abc1458dd9f5d46cb2f96d", func := "loop.example/g01987/laws.FnExactRankOfValue", spec := "fnExactRankOfValue", unfollowed := true, recurses := true, apart := false, narrowed := true }
def FnExactRankOfValueUptoSaid : Prop := fnExactRankOfValueUptoRow.holds Try.pinned (OpenSpec.upto fnExactRankOfValueSpec)

/-- 'laws.FnExactCodeName', WHERE WHAT IT READS IS OF BULK AT MOST 1048576: true; the input reads as it did. -/
def fnExactCodeNameUptoRow : OpenClaim := { program := "ytalgfiefadfmnaa", sum := "a17572809607950e8393dfe6c92ed942145cf394b0abc1458dd9f5d46cb2f96d", func := "loop.example/g01987/laws.FnExactCodeName", spec := "fnExactCodeName", apart := false, narrowed := true }
def FnExactCodeNameUptoSaid : Prop := fnExactCodeNameUptoRow.holds Try.pinned (OpenSpec.upto fnExactCodeNameSpec)

end Rows
end Go.Proofs.Ytalgfiefadfmnaa
