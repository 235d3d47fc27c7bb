/-
  No cell of these rows narrows 'for every input' (looked for: loops, veiled, ifaces, maps, wideKeys, modest, calm, conditions, laid).
  DERIVED. THE GIVEN ROWS OF THIS SEAT. 7 by the template 'for every input the law returns true; each argument reads behind the call as it read before'; 0 by the template 'total and deterministic' (their statements: YtaijajajpnekbaaTotals.lean).
  GIVEN WITH THE SEED: the statements are not yours to turn. If you find one false, say at which input.
  Laid BY PROGRAM, IN A SANDBOX (cutbox-rows.mjs): the forced cells as the released guide's own fill.sh prints them over the translation 0f9c75aaf00f091b… (all of the seat's roots in one cut). By AI agents, Wed Nov 11 2026. No macro, syntax, notation, axiom, sorry.
-/
import Derived.Test.YtaijajajpnekbaaChecked
import GoSem.Claim
import GoSem.ClaimJoined
import GoSem.ClaimMapViews
import Derived.JoinedTies
import Derived.KernelRfl
namespace Go.Proofs.Ytaijajajpnekbaa
/- THE CELL 'sum', in the pinned program and in every row, IS THE sha256 OF THE DUMP (.gsa) THAT YtaijajajpnekbaaProg.lean LOADS. Nothing in Lean hashes anything: it is a label: what it is worth is what the hold of that sum in a sandbox is worth. -/
noncomputable def Try.pinned : Pinned := { name := "ytaijajajpnekbaa", sum := "0f9c75aaf00f091b26aba50cecde5a7a7794c530e01e7c19517d4cad98c29258", checked := Try.checked }
namespace Rows
def none {H : Type} : Left H := { results := [], args := [] }

/-- 'laws.FnExactSubtree': WHATEVER THE INPUT: true; the input reads as it did. -/
def fnExactSubtreeSpec : ChangeSpec := { name := "fnExactSubtree", fn := fun _ => fun
  | [d1, d2] => { results := [.lit (.bool true)], args := [d1, d2] }
  | _ => none }
def fnExactSubtreeRow : OpenClaim := { program := "ytaijajajpnekbaa", sum := "0f9c75aaf00f091b26aba50cecde5a7a7794c530e01e7c19517d4cad98c29258", func := "loop.example/g01987/laws.FnExactSubtree", spec := "fnExactSubtree", recurses := true, apart := false }
def FnExactSubtreeSaid : Prop := fnExactSubtreeRow.holds Try.pinned (OpenSpec.ofChange fnExactSubtreeSpec)

/-- ITS FALSE NEIGHBOUR: 'it returns false'. Refute it at one input. -/
def fnExactSubtreeWrong : ChangeSpec := { name := "fnExactSubtree", fn := fun _ => fun
  | [d1, d2] => { results := [.lit (.bool false)], args := [d1, d2] }
  | _ => none }
def FnExactSubtreeWrongFalsely : Prop := fnExactSubtreeRow.holds Try.pinned (OpenSpec.ofChange fnExactSubtreeWrong)

/-- 'laws.FnExactApplyRule': WHATEVER THE INPUT: true; the input reads as it did. -/
def fnExactApplyRuleSpec : ChangeSpec := { name := "fnExactApplyRule", fn := fun _ => fun
  | [d1, d2, d3] => { results := [.lit (.bool true)], args := [d1, d2, d3] }
  | _ => none }
def fnExactApplyRuleRow : OpenClaim := { program := "ytaijajajpnekbaa", sum := "0f9c75aaf00f091b26aba50cecde5a7a7794c530e01e7c19517d4cad98c29258", func := "loop.example/g01987/laws.FnExactApplyRule", spec := "fnExactApplyRule", unfollowed := true, recurses := true, apart := false }
def FnExactApplyRuleSaid : Prop := fnExactApplyRuleRow.holds Try.pinned (OpenSpec.ofChange fnExactApplyRuleSpec)

/-- ITS FALSE NEIGHBOUR: 'it returns false'. Refute it at one input. -/
def fnExactApplyRuleWrong : ChangeSpec := { name := "fnExactApplyRule", fn := fun _ => fun
  | [d1, d2, d3] => { results := [.lit (.bool false)], args := [d1, d2, d3] }
  | _ => none }
def FnExactApplyRuleWrongFalsely : Prop := fnExactApplyRuleRow.holds Try.pinned (OpenSpec.ofChange fnExactApplyRuleWrong)

/-- 'laws.FnExactNormalizeExpression': WHATEVER THE INPUT: true; the input reads as it did. -/
def fnExactNormalizeExpressionSpec : ChangeSpec := { name := "fnExactNormalizeExpression", fn := fun _ => fun
  | [d] => { results := [.lit (.bool true)], args := [d] }
  | _ => none }
def fnExactNormalizeExpressionRow : OpenClaim := { program := "ytaijajajpnekbaa", sum := "0f9c75aaf00f091b26aba50cecde5a7a7794c530e01e7c19517d4cad98c29258", func := "loop.example/g01987/laws.FnExactNormalizeExpression", spec := "fnExactNormalizeExpression", unfollowed := true, recurses := true, apart := false }
def FnExactNormalizeExpressionSaid : Prop := fnExactNormalizeExpressionRow.holds Try.pinned (OpenSpec.ofChange fnExactNormalizeExpressionSpec)

/-- ITS FALSE NEIGHBOUR: 'it returns false'. Refute it at one input. -/
def fnExactNormalizeExpressionWrong : ChangeSpec := { name := "fnExactNormalizeExpression", fn := fun _ => fun
  | [d] => { results := [.lit (.bool false)], args := [d] }
  | _ => none }
def FnExactNormalizeExpressionWrongFalsely : Prop := fnExactNormalizeExpressionRow.holds Try.pinned (OpenSpec.ofChange fnExactNormalizeExpressionWrong)

/-- 'laws.FnExactRewritings': WHATEVER THE INPUT: true; the input reads as it did. -/
def fnExactRewritingsSpec : ChangeSpec := { name := "fnExactRewritings", fn := fun _ => fun
  | [d] => { results := [.lit (.bool true)], args := [d] }
  | _ => none }
def fnExactRewritingsRow : OpenClaim := { program := "ytaijajajpnekbaa", sum := "0f9c75aaf00f091b26aba50cecde5a7a7794c530e01e7c19517d4cad98c29258", func := "loop.example/g01987/laws.FnExactRewritings", spec := "fnExactRewritings", unfollowed := true, recurses := true, apart := false }
def FnExactRewritingsSaid : Prop := fnExactRewritingsRow.holds Try.pinned (OpenSpec.ofChange fnExactRewritingsSpec)

/-- ITS FALSE NEIGHBOUR: 'it returns false'. Refute it at one input. -/
def fnExactRewritingsWrong : ChangeSpec := { name := "fnExactRewritings", fn := fun _ => fun
  | [d] => { results := [.lit (.bool false)], args := [d] }
  | _ => none }
def FnExactRewritingsWrongFalsely : Prop := fnExactRewritingsRow.holds Try.pinned (OpenSpec.ofChange fnExactRewritingsWrong)

/-- 'laws.FnExactAgreeOn': WHATEVER THE INPUT: true; the input reads as it did. -/
def fnExactAgreeOnSpec : ChangeSpec := { name := "fnExactAgreeOn", fn := fun _ => fun
  | [d1, d2, d3] => { results := [.lit (.bool true)], args := [d1, d2, d3] }
  | _ => none }
def fnExactAgreeOnRow : OpenClaim := { program := "ytaijajajpnekbaa", sum := "0f9c75aaf00f091b26aba50cecde5a7a7794c530e01e7c19517d4cad98c29258", func := "loop.example/g01987/laws.FnExactAgreeOn", spec := "fnExactAgreeOn", unfollowed := true, recurses := true, apart := false }
def FnExactAgreeOnSaid : Prop := fnExactAgreeOnRow.holds Try.pinned (OpenSpec.ofChange fnExactAgreeOnSpec)

/-- ITS FALSE NEIGHBOUR: 'it returns false'. Refute it at one input. -/
def fnExactAgreeOnWrong : ChangeSpec := { name := "fnExactAgreeOn", fn := fun _ => fun
  | [d1, d2, d3] => { results := [.lit (.bool false)], args := [d1, d2, d3] }
  | _ => none }
def FnExactAgreeOnWrongFalsely : Prop := fnExactAgreeOnRow.holds Try.pinned (OpenSpec.ofChange fnExactAgreeOnWrong)

/-- 'laws.FnExpressions': WHATEVER THE INPUT: true; the input reads as it did. -/
def fnExpressionsSpec : ChangeSpec := { name := "fnExpressions", fn := fun _ => fun
  | [d] => { results := [.lit (.bool true)], args := [d] }
  | _ => none }
def fnExpressionsRow : OpenClaim := { program := "ytaijajajpnekbaa", sum := "0f9c75aaf00f091b26aba50cecde5a7a7794c530e01e7c19517d4cad98c29258", func := "loop.example/g01987/laws.FnExpressions", spec := "fnExpressions", unfollowed := true, recurses := true, apart := false }
def FnExpressionsSaid : Prop := fnExpressionsRow.holds Try.pinned (OpenSpec.ofChange fnExpressionsSpec)

/-- ITS FALSE NEIGHBOUR: 'it returns false'. Refute it at one input. -/
def fnExpressionsWrong : ChangeSpec := { name := "fnExpressions", fn := fun _ => fun
  | [d] => { results := [.lit (.bool false)], args := [d] }
  | _ => none }
def FnExpressionsWrongFalsely : Prop := fnExpressionsRow.holds Try.pinned (OpenSpec.ofChange fnExpressionsWrong)

/-- 'laws.FnExactCompareBy': WHATEVER THE INPUT: true; the input reads as it did. -/
def fnExactCompareBySpec : ChangeSpec := { name := "fnExactCompareBy", fn := fun _ => fun
  | [d1, d2, d3] => { results := [.lit (.bool true)], args := [d1, d2, d3] }
  | _ => none }
def fnExactCompareByRow : OpenClaim := { program := "ytaijajajpnekbaa", sum := "0f9c75aaf00f091b26aba50cecde5a7a7794c530e01e7c19517d4cad98c29258", func := "loop.example/g01987/laws.FnExactCompareBy", spec := "fnExactCompareBy", unfollowed := true, recurses := true, apart := false }
def FnExactCompareBySaid : Prop := fnExactCompareByRow.holds Try.pinned (OpenSpec.ofChange fnExactCompareBySpec)

/-- ITS FALSE NEIGHBOUR: 'it returns false'. Refute it at one input. -/
def fnExactCompareByWrong : ChangeSpec := { name := "fnExactCompareBy", fn := fun _ => fun
  | [d1, d2, d3] => { results := [.lit (.bool false)], args := [d1, d2, d3] }
  | _ => none }
def FnExactCompareByWrongFalsely : Prop := fnExactCompareByRow.holds Try.pinned (OpenSpec.ofChange fnExactCompareByWrong)

/- THE SECOND FORM. 'bulk': how many values and letters a reading holds, each counted each time it is reached (what is shared counts as often as it is met; a slice's spare places count too). A statement '..UptoSaid' is the law's where the arguments, and the package variables that the reading takes, are together of bulk at most 1048576: NARROWER than '..Said'. Prove '..Said' where nothing that the law and all that it calls make is longer than what came in: it says more and counts as full. Else prove '..UptoSaid'. A law counts once. -/
mutual
def uptoBulk {H : Type} : DataW H → Nat
  | .lit (.string bytes) => bytes.length + 1
  | .lit _ => 1
  | .nil => 1
  | .ptr d => uptoBulk d + 1
  | .slice elems spare => uptoBulkAll elems + uptoBulkAll spare + 1
  | .agg parts => uptoBulkAll parts + 1
  | .iface _ d => uptoBulk d + 1
  | .map entries => uptoBulkEntries entries + 1
  | .held _ => 1
def uptoBulkAll {H : Type} : List (DataW H) → Nat
  | [] => 0
  | d :: r => uptoBulk d + uptoBulkAll r
def uptoBulkEntries {H : Type} : List (Lit × DataW H) → Nat
  | [] => 0
  | x :: r => uptoBulkEntry x + uptoBulkEntries r
def uptoBulkEntry {H : Type} : Lit × DataW H → Nat
  | (.string bytes, d) => bytes.length + uptoBulk d + 1
  | (_, d) => uptoBulk d + 1
 end
def uptoSmall : (H : Type) → List (DataW H) → Bool := fun _ ds => decide (uptoBulkAll ds ≤ 1048576)
def OpenSpec.upto (s : _root_.Go.ChangeSpec) : _root_.Go.OpenSpec := { _root_.Go.OpenSpec.ofChange s with cond := some uptoSmall }

/-- 'laws.FnExactSubtree', WHERE WHAT IT READS IS OF BULK AT MOST 1048576: true; the input reads as it did. -/
def fnExactSubtreeUptoRow : OpenClaim := { program := "ytaijajajpnekbaa", sum := "0f9c75aaf00f091b26aba50cecde5a7a7794c530e01e7c19517d4cad98c29258", func := "loop.example/g01987/laws.FnExactSubtree", spec := "fnExactSubtree", recurses := true, apart := false, narrowed := true }
def FnExactSubtreeUptoSaid : Prop := fnExactSubtreeUptoRow.holds Try.pinned (OpenSpec.upto fnExactSubtreeSpec)

/-- 'laws.FnExactApplyRule', WHERE WHAT IT READS IS OF BULK AT MOST 1048576: true; the input reads as it did. -/
def fnExactApplyRuleUptoRow : OpenClaim := { program := "ytaijajajpnekbaa", sum := "0f9c75aaf00f091b26aba50cecde5a7a7794c530e01e7c19517d4cad98c29258", func := "loop.example/g01987/laws.FnExactApplyRule", spec := "fnExactApplyRule", unfollowed := true, recurses := true, apart := false, narrowed := true }
def FnExactApplyRuleUptoSaid : Prop := fnExactApplyRuleUptoRow.holds Try.pinned (OpenSpec.upto fnExactApplyRuleSpec)

/-- 'laws.FnExactNormalizeExpression', WHERE WHAT IT READS IS OF BULK AT MOST 1048576: true; the input reads as it did. -/
def fnExactNormalizeExpressionUptoRow : OpenClaim := { program := "ytaijajajpnekbaa", sum := "0f9c75aaf00f091b26aba50cecde5a7a7794c530e01e7c19517d4cad98c29258", func := "loop.example/g01987/laws.FnExactNormalizeExpression", spec := "fnExactNormalizeExpression", unfollowed := true, recurses := true, apart := false, narrowed := true }
def FnExactNormalizeExpressionUptoSaid : Prop := fnExactNormalizeExpressionUptoRow.holds Try.pinned (OpenSpec.upto fnExactNormalizeExpressionSpec)

/-- 'laws.FnExactRewritings', WHERE WHAT IT READS IS OF BULK AT MOST 1048576: true; the input reads as it did. -/
def fnExactRewritingsUptoRow : OpenClaim := { program := "ytaijajajpnekbaa", sum := "0f9c75aaf00f091b26aba50cecde5a7a7794c530e01e7c19517d4cad98c29258", func := "loop.example/g01987/laws.FnExactRewritings", spec := "fnExactRewritings", unfollowed := true, recurses := true, apart := false, narrowed := true }
def FnExactRewritingsUptoSaid : Prop := fnExactRewritingsUptoRow.holds Try.pinned (OpenSpec.upto fnExactRewritingsSpec)

/-- 'laws.FnExactAgreeOn', WHERE WHAT IT READS IS OF BULK AT MOST 1048576: true; the input reads as it did. -/
def fnExactAgreeOnUptoRow : OpenClaim := { program := "ytaijajajpnekbaa", sum := "0f9c75aaf00f091b26aba50cecde5a7a7794c530e01e7c19517d4cad98c29258", func := "loop.example/g01987/laws.FnExactAgreeOn", spec := "fnExactAgreeOn", unfollowed := true, recurses := true, apart := false, narrowed := true }
def FnExactAgreeOnUptoSaid : Prop := fnExactAgreeOnUptoRow.holds Try.pinned (OpenSpec.upto fnExactAgreeOnSpec)

/-- 'laws.FnExpressions', WHERE WHAT IT READS IS OF BULK AT MOST 1048576: true; the input reads as it did. -/
def fnExpressionsUptoRow : OpenClaim := { program := "ytaijajajpnekbaa", sum := "0f9c75aaf00f091b26aba50cecde5a7a7794c530e01e7c19517d4cad98c29258", func := "loop.example/g01987/laws.FnExpressions", spec := "fnExpressions", unfollowed := true, recurses := true, apart := false, narrowed := true }
def FnExpressionsUptoSaid : Prop := fnExpressionsUptoRow.holds Try.pinned (OpenSpec.upto fnExpressionsSpec)

/-- 'laws.FnExactCompareBy', WHERE WHAT IT READS IS OF BULK AT MOST 1048576: true; the input reads as it did. -/
def fnExactCompareByUptoRow : OpenClaim := { program := "ytaijajajpnekbaa", sum := "0f9c75aaf00f091b26aba50cecde5a7a7794c530e01e7c19517d4cad98c29258", func := "loop.example/g01987/laws.FnExactCompareBy", spec := "fnExactCompareBy", unfollowed := true, recurses := true, apart := false, narrowed := true }
def FnExactCompareByUptoSaid : Prop := fnExactCompareByUptoRow.holds Try.pinned (OpenSpec.upto fnExactCompareBySpec)

end Rows
end Go.Proofs.Ytaijajajpnekbaa
