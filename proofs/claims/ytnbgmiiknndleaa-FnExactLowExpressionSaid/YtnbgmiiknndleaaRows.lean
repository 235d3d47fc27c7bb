/-
  No cell of these rows narrows 'for every input' (looked for: loops, veiled, ifaces, maps, wideKeys, modest, calm, conditions, laid).
  DERIVED. THE GIVEN ROWS OF THIS SEAT. 4 by the template 'for every input the law returns true; each argument reads behind the call as it read before'; 0 by the template 'total and deterministic' (their statements: YtnbgmiiknndleaaTotals.lean).
  GIVEN WITH THE SEED: the statements are not yours to turn. If you find one false, say at which input.
  Laid BY PROGRAM, IN A SANDBOX (cutbox-rows.mjs): the forced cells as the released guide's own fill.sh prints them over the translation 1bdc1d8dda3d24a2… (all of the seat's roots in one cut). By AI agents, Wed Nov 11 2026. No macro, syntax, notation, axiom, sorry.
-/
import Derived.Test.YtnbgmiiknndleaaChecked
import GoSem.Claim
import GoSem.ClaimJoined
import GoSem.ClaimMapViews
import Derived.JoinedTies
import Derived.KernelRfl
namespace Go.Proofs.Ytnbgmiiknndleaa
/- THE CELL 'sum', in the pinned program and in every row, IS THE sha256 OF THE DUMP (.gsa) THAT YtnbgmiiknndleaaProg.lean LOADS. Nothing in Lean hashes anything: it is a label: what it is worth is what the hold of that sum in a sandbox is worth. -/
noncomputable def Try.pinned : Pinned := { name := "ytnbgmiiknndleaa", sum := "1bdc1d8dda3d24a27ed14af91a97c66a1fb5daf35281629d2be7dddf28a4a837", checked := Try.checked }
namespace Rows
def none {H : Type} : Left H := { results := [], args := [] }

/-- 'laws.FnExactIsFieldList': WHATEVER THE INPUT: true; the input reads as it did. -/
def fnExactIsFieldListSpec : ChangeSpec := { name := "fnExactIsFieldList", fn := fun _ => fun
  | [d] => { results := [.lit (.bool true)], args := [d] }
  | _ => none }
def fnExactIsFieldListRow : OpenClaim := { program := "ytnbgmiiknndleaa", sum := "1bdc1d8dda3d24a27ed14af91a97c66a1fb5daf35281629d2be7dddf28a4a837", func := "loop.example/g01987/laws.FnExactIsFieldList", spec := "fnExactIsFieldList", unfollowed := true, recurses := true, apart := false }
def FnExactIsFieldListSaid : Prop := fnExactIsFieldListRow.holds Try.pinned (OpenSpec.ofChange fnExactIsFieldListSpec)

/-- ITS FALSE NEIGHBOUR: 'it returns false'. Refute it at one input. -/
def fnExactIsFieldListWrong : ChangeSpec := { name := "fnExactIsFieldList", fn := fun _ => fun
  | [d] => { results := [.lit (.bool false)], args := [d] }
  | _ => none }
def FnExactIsFieldListWrongFalsely : Prop := fnExactIsFieldListRow.holds Try.pinned (OpenSpec.ofChange fnExactIsFieldListWrong)

/-- 'laws.FnExactLowExpression': WHATEVER THE INPUT: true; the input reads as it did. -/
def fnExactLowExpressionSpec : ChangeSpec := { name := "fnExactLowExpression", fn := fun _ => fun
  | [d] => { results := [.lit (.bool true)], args := [d] }
  | _ => none }
def fnExactLowExpressionRow : OpenClaim := { program := "ytnbgmiiknndleaa", sum := "1bdc1d8dda3d24a27ed14af91a97c66a1fb5daf35281629d2be7dddf28a4a837", func := "loop.example/g01987/laws.FnExactLowExpression", spec := "fnExactLowExpression", unfollowed := true, recurses := true, apart := false }
def FnExactLowExpressionSaid : Prop := fnExactLowExpressionRow.holds Try.pinned (OpenSpec.ofChange fnExactLowExpressionSpec)

/-- ITS FALSE NEIGHBOUR: 'it returns false'. Refute it at one input. -/
def fnExactLowExpressionWrong : ChangeSpec := { name := "fnExactLowExpression", fn := fun _ => fun
  | [d] => { results := [.lit (.bool false)], args := [d] }
  | _ => none }
def FnExactLowExpressionWrongFalsely : Prop := fnExactLowExpressionRow.holds Try.pinned (OpenSpec.ofChange fnExactLowExpressionWrong)

/-- 'laws.FnExactSortedBest': WHATEVER THE INPUT: true; the input reads as it did. -/
def fnExactSortedBestSpec : ChangeSpec := { name := "fnExactSortedBest", fn := fun _ => fun
  | [d1, d2] => { results := [.lit (.bool true)], args := [d1, d2] }
  | _ => none }
def fnExactSortedBestRow : OpenClaim := { program := "ytnbgmiiknndleaa", sum := "1bdc1d8dda3d24a27ed14af91a97c66a1fb5daf35281629d2be7dddf28a4a837", func := "loop.example/g01987/laws.FnExactSortedBest", spec := "fnExactSortedBest", unfollowed := true, recurses := true, apart := false }
def FnExactSortedBestSaid : Prop := fnExactSortedBestRow.holds Try.pinned (OpenSpec.ofChange fnExactSortedBestSpec)

/-- ITS FALSE NEIGHBOUR: 'it returns false'. Refute it at one input. -/
def fnExactSortedBestWrong : ChangeSpec := { name := "fnExactSortedBest", fn := fun _ => fun
  | [d1, d2] => { results := [.lit (.bool false)], args := [d1, d2] }
  | _ => none }
def FnExactSortedBestWrongFalsely : Prop := fnExactSortedBestRow.holds Try.pinned (OpenSpec.ofChange fnExactSortedBestWrong)

/-- 'laws.FnExactSortByField': WHATEVER THE INPUT: true; the input reads as it did. -/
def fnExactSortByFieldSpec : ChangeSpec := { name := "fnExactSortByField", fn := fun _ => fun
  | [d1, d2] => { results := [.lit (.bool true)], args := [d1, d2] }
  | _ => none }
def fnExactSortByFieldRow : OpenClaim := { program := "ytnbgmiiknndleaa", sum := "1bdc1d8dda3d24a27ed14af91a97c66a1fb5daf35281629d2be7dddf28a4a837", func := "loop.example/g01987/laws.FnExactSortByField", spec := "fnExactSortByField", unfollowed := true, recurses := true, apart := false }
def FnExactSortByFieldSaid : Prop := fnExactSortByFieldRow.holds Try.pinned (OpenSpec.ofChange fnExactSortByFieldSpec)

/-- ITS FALSE NEIGHBOUR: 'it returns false'. Refute it at one input. -/
def fnExactSortByFieldWrong : ChangeSpec := { name := "fnExactSortByField", fn := fun _ => fun
  | [d1, d2] => { results := [.lit (.bool false)], args := [d1, d2] }
  | _ => none }
def FnExactSortByFieldWrongFalsely : Prop := fnExactSortByFieldRow.holds Try.pinned (OpenSpec.ofChange fnExactSortByFieldWrong)

/- THE SECOND FORM. 'bulk': how many values and letters a reading holds, each counted each time it is reached (what is shared counts as often as it is met; a slice's spare places count too). A statement '..UptoSaid' is the law's where the arguments, and the package variables that the reading takes, are together of bulk at most 1048576: NARROWER than '..Said'. Prove '..Said' where nothing that the law and all that it calls make is longer than what came in: it says more and counts as full. Else prove '..UptoSaid'. A law counts once. -/
mutual
def uptoBulk {H : Type} : DataW H → Nat
  | .lit (.string bytes) => bytes.length + 1
  | .lit _ => 1
  | .nil => 1
  | .ptr d => uptoBulk d + 1
  | .slice elems spare => uptoBulkAll elems + uptoBulkAll spare + 1
  | .agg parts => uptoBulkAll parts + 1
  | .iface _ d => uptoBulk d + 1
  | .map entries => uptoBulkEntries entries + 1
  | .held _ => 1
def uptoBulkAll {H : Type} : List (DataW H) → Nat
  | [] => 0
  | d :: r => uptoBulk d + uptoBulkAll r
def uptoBulkEntries {H : Type} : List (Lit × DataW H) → Nat
  | [] => 0
  | x :: r => uptoBulkEntry x + uptoBulkEntries r
def uptoBulkEntry {H : Type} : Lit × DataW H → Nat
  | (.string bytes, d) => bytes.length + uptoBulk d + 1
  | (_, d) => uptoBulk d + 1
 end
def uptoSmall : (H : Type) → List (DataW H) → Bool := fun _ ds => decide (uptoBulkAll ds ≤ 1048576)
def OpenSpec.upto (s : _root_.Go.ChangeSpec) : _root_.Go.OpenSpec := { _root_.Go.OpenSpec.ofChange s with cond := some uptoSmall }

/-- 'laws.FnExactIsFieldList', WHERE WHAT IT READS IS OF BULK AT MOST 1048576: true; the input reads as it did. -/
def fnExactIsFieldListUptoRow : OpenClaim := { program := "ytnbgmiiknndleaa", sum := "1bdc1d8dda3d24a27ed14af91a97c66a1fb5daf35281629d2be7dddf28a4a837", func := "loop.example/g01987/laws.FnExactIsFieldList", spec := "fnExactIsFieldList", unfollowed := true, recurses := true, apart := false, narrowed := true }
def FnExactIsFieldListUptoSaid : Prop := fnExactIsFieldListUptoRow.holds Try.pinned (OpenSpec.upto fnExactIsFieldListSpec)

/-- 'laws.FnExactLowExpression', WHERE WHAT IT READS IS OF BULK AT MOST 1048576: true; the input reads as it did. -/
def fnExactLowExpressionUptoRow : OpenClaim := { program := "ytnbgmiiknndleaa", sum := "1bdc1d8dda3d24a27ed14af91a97c66a1fb5daf35281629d2be7dddf28a4a837", func := "loop.example/g01987/laws.FnExactLowExpression", spec := "fnExactLowExpression", unfollowed := true, recurses := true, apart := false, narrowed := true }
def FnExactLowExpressionUptoSaid : Prop := fnExactLowExpressionUptoRow.holds Try.pinned (OpenSpec.upto fnExactLowExpressionSpec)

/-- 'laws.FnExactSortedBest', WHERE WHAT IT READS IS OF BULK AT MOST 1048576: true; the input reads as it did. -/
def fnExactSortedBestUptoRow : OpenClaim := { program := "ytnbgmiiknndleaa", sum := "1bdc1d8dda3d24a27ed14af91a97c66a1fb5daf35281629d2be7dddf28a4a837", func := "loop.example/g01987/laws.FnExactSortedBest", spec := "fnExactSortedBest", unfollowed := true, recurses := true, apart := false, narrowed := true }
def FnExactSortedBestUptoSaid : Prop := fnExactSortedBestUptoRow.holds Try.pinned (OpenSpec.upto fnExactSortedBestSpec)

/-- 'laws.FnExactSortByField', WHERE WHAT IT READS IS OF BULK AT MOST 1048576: true; the input reads as it did. -/
def fnExactSortByFieldUptoRow : OpenClaim := { program := "ytnbgmiiknndleaa", sum := "1bdc1d8dda3d24a27ed14af91a97c66a1fb5daf35281629d2be7dddf28a4a837", func := "loop.example/g01987/laws.FnExactSortByField", spec := "fnExactSortByField", unfollowed := true, recurses := true, apart := false, narrowed := true }
def FnExactSortByFieldUptoSaid : Prop := fnExactSortByFieldUptoRow.holds Try.pinned (OpenSpec.upto fnExactSortByFieldSpec)

end Rows
end Go.Proofs.Ytnbgmiiknndleaa
