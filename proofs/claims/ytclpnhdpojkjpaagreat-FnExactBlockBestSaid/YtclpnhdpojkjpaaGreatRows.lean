/-
  No cell of these rows narrows 'for every input' (looked for: loops, veiled, ifaces, maps, wideKeys, modest, calm, conditions, laid).
  DERIVED. THE GIVEN ROWS OF THIS SEAT. 4 by the template 'for every input the law returns true; each argument reads behind the call as it read before'; 0 by the template 'total and deterministic' (their statements: YtclpnhdpojkjpaaGreatTotals.lean).
  GIVEN WITH THE SEED: the statements are not yours to turn. If you find one false, say at which input.
  Laid BY PROGRAM, IN A SANDBOX (cutbox-rows.mjs): the forced cells as the released guide's own fill.sh prints them over the translation c0071c8e31b3a0e8… (all of the seat's roots in one cut). By AI agents, Wed Nov 11 2026. No macro, syntax, notation, axiom, sorry.
-/
import Derived.Test.YtclpnhdpojkjpaaGreatChecked
import GoSem.Claim
import GoSem.ClaimJoined
import GoSem.ClaimMapViews
import Derived.JoinedTies
import Derived.KernelRfl
namespace Go.Proofs.YtclpnhdpojkjpaaGreat
/- THE CELL 'sum', in the pinned program and in every row, IS THE sha256 OF THE DUMP (.gsa) THAT YtclpnhdpojkjpaaGreatProg.lean LOADS. Nothing in Lean hashes anything: it is a label: what it is worth is what the hold of that sum in a sandbox is worth. -/
noncomputable def Tryz.pinned : Pinned := { name := "ytclpnhdpojkjpaagreat", sum := "c0071c8e31b3a0e86c220c4b6d075d3aa5e68501d456241424e00273da8e172b", checked := Tryz.checked }
namespace Rows
def none {H : Type} : Left H := { results := [], args := [] }

/-- 'laws.FnBlocks': WHATEVER THE INPUT: true; the input reads as it did. -/
def fnBlocksSpec : ChangeSpec := { name := "fnBlocks", fn := fun _ => fun
  | [d] => { results := [.lit (.bool true)], args := [d] }
  | _ => none }
def fnBlocksRow : OpenClaim := { program := "ytclpnhdpojkjpaagreat", sum := "c0071c8e31b3a0e86c220c4b6d075d3aa5e68501d456241424e00273da8e172b", func := "loop.example/g01987/laws.FnBlocks", spec := "fnBlocks", inPlace := ["(*sync.WaitGroup).Add", "internal/race.ReleaseMerge", "internal/race.Disable", "internal/race.Enable", "internal/synctest.IsInBubble", "internal/synctest.Associate[sync.WaitGroup]", "sync.fatal", "sync/atomic.OrUint64", "sync/atomic.AddUint64", "internal/race.Read", "sync/atomic.LoadUint64", "sync/atomic.StoreUint64", "internal/synctest.Disassociate[sync.WaitGroup]", "sync.runtime_Semrelease", "(*sync.WaitGroup).Done", "(*sync.WaitGroup).Wait", "internal/race.Acquire", "internal/synctest.IsAssociated[sync.WaitGroup]", "sync/atomic.CompareAndSwapUint64", "internal/race.Write", "sync.runtime_SemacquireWaitGroup"], unfollowed := true, recurses := true, leaving := true, apart := false }
def FnBlocksSaid : Prop := fnBlocksRow.holds Tryz.pinned (OpenSpec.ofChange fnBlocksSpec)

/-- ITS FALSE NEIGHBOUR: 'it returns false'. Refute it at one input. -/
def fnBlocksWrong : ChangeSpec := { name := "fnBlocks", fn := fun _ => fun
  | [d] => { results := [.lit (.bool false)], args := [d] }
  | _ => none }
def FnBlocksWrongFalsely : Prop := fnBlocksRow.holds Tryz.pinned (OpenSpec.ofChange fnBlocksWrong)

/-- 'laws.FnExactBlockBest': WHATEVER THE INPUT: true; the input reads as it did. -/
def fnExactBlockBestSpec : ChangeSpec := { name := "fnExactBlockBest", fn := fun _ => fun
  | [d1, d2, d3] => { results := [.lit (.bool true)], args := [d1, d2, d3] }
  | _ => none }
def fnExactBlockBestRow : OpenClaim := { program := "ytclpnhdpojkjpaagreat", sum := "c0071c8e31b3a0e86c220c4b6d075d3aa5e68501d456241424e00273da8e172b", func := "loop.example/g01987/laws.FnExactBlockBest", spec := "fnExactBlockBest", unfollowed := true, recurses := true, leaving := true, apart := false }
def FnExactBlockBestSaid : Prop := fnExactBlockBestRow.holds Tryz.pinned (OpenSpec.ofChange fnExactBlockBestSpec)

/-- ITS FALSE NEIGHBOUR: 'it returns false'. Refute it at one input. -/
def fnExactBlockBestWrong : ChangeSpec := { name := "fnExactBlockBest", fn := fun _ => fun
  | [d1, d2, d3] => { results := [.lit (.bool false)], args := [d1, d2, d3] }
  | _ => none }
def FnExactBlockBestWrongFalsely : Prop := fnExactBlockBestRow.holds Tryz.pinned (OpenSpec.ofChange fnExactBlockBestWrong)

/-- 'laws.FnExactDivideBest': WHATEVER THE INPUT: true; the input reads as it did. -/
def fnExactDivideBestSpec : ChangeSpec := { name := "fnExactDivideBest", fn := fun _ => fun
  | [d1, d2] => { results := [.lit (.bool true)], args := [d1, d2] }
  | _ => none }
def fnExactDivideBestRow : OpenClaim := { program := "ytclpnhdpojkjpaagreat", sum := "c0071c8e31b3a0e86c220c4b6d075d3aa5e68501d456241424e00273da8e172b", func := "loop.example/g01987/laws.FnExactDivideBest", spec := "fnExactDivideBest", inPlace := ["(*sync.WaitGroup).Add", "internal/race.ReleaseMerge", "internal/race.Disable", "internal/race.Enable", "internal/synctest.IsInBubble", "internal/synctest.Associate[sync.WaitGroup]", "sync.fatal", "sync/atomic.OrUint64", "sync/atomic.AddUint64", "internal/race.Read", "sync/atomic.LoadUint64", "sync/atomic.StoreUint64", "internal/synctest.Disassociate[sync.WaitGroup]", "sync.runtime_Semrelease", "(*sync.WaitGroup).Done", "(*sync.WaitGroup).Wait", "internal/race.Acquire", "internal/synctest.IsAssociated[sync.WaitGroup]", "sync/atomic.CompareAndSwapUint64", "internal/race.Write", "sync.runtime_SemacquireWaitGroup"], unfollowed := true, recurses := true, leaving := true, apart := false }
def FnExactDivideBestSaid : Prop := fnExactDivideBestRow.holds Tryz.pinned (OpenSpec.ofChange fnExactDivideBestSpec)

/-- ITS FALSE NEIGHBOUR: 'it returns false'. Refute it at one input. -/
def fnExactDivideBestWrong : ChangeSpec := { name := "fnExactDivideBest", fn := fun _ => fun
  | [d1, d2] => { results := [.lit (.bool false)], args := [d1, d2] }
  | _ => none }
def FnExactDivideBestWrongFalsely : Prop := fnExactDivideBestRow.holds Tryz.pinned (OpenSpec.ofChange fnExactDivideBestWrong)

/-- 'laws.FnExactMergeBest': WHATEVER THE INPUT: true; the input reads as it did. -/
def fnExactMergeBestSpec : ChangeSpec := { name := "fnExactMergeBest", fn := fun _ => fun
  | [d1, d2, d3, d4] => { results := [.lit (.bool true)], args := [d1, d2, d3, d4] }
  | _ => none }
def fnExactMergeBestRow : OpenClaim := { program := "ytclpnhdpojkjpaagreat", sum := "c0071c8e31b3a0e86c220c4b6d075d3aa5e68501d456241424e00273da8e172b", func := "loop.example/g01987/laws.FnExactMergeBest", spec := "fnExactMergeBest", unfollowed := true, recurses := true, leaving := true, apart := false }
def FnExactMergeBestSaid : Prop := fnExactMergeBestRow.holds Tryz.pinned (OpenSpec.ofChange fnExactMergeBestSpec)

/-- ITS FALSE NEIGHBOUR: 'it returns false'. Refute it at one input. -/
def fnExactMergeBestWrong : ChangeSpec := { name := "fnExactMergeBest", fn := fun _ => fun
  | [d1, d2, d3, d4] => { results := [.lit (.bool false)], args := [d1, d2, d3, d4] }
  | _ => none }
def FnExactMergeBestWrongFalsely : Prop := fnExactMergeBestRow.holds Tryz.pinned (OpenSpec.ofChange fnExactMergeBestWrong)

/- THE SECOND FORM. 'bulk': how many values and letters a reading holds, each counted each time it is reached (what is shared counts as often as it is met; a slice's spare places count too). A statement '..UptoSaid' is the law's where the arguments, and the package variables that the reading takes, are together of bulk at most 1048576: NARROWER than '..Said'. Prove '..Said' where nothing that the law and all that it calls make is longer than what came in: it says more and counts as full. Else prove '..UptoSaid'. A law counts once. -/
mutual
def uptoBulk {H : Type} : DataW H → Nat
  | .lit (.string bytes) => bytes.length + 1
  | .lit _ => 1
  | .nil => 1
  | .ptr d => uptoBulk d + 1
  | .slice elems spare => uptoBulkAll elems + uptoBulkAll spare + 1
  | .agg parts => uptoBulkAll parts + 1
  | .iface _ d => uptoBulk d + 1
  | .map entries => uptoBulkEntries entries + 1
  | .held _ => 1
def uptoBulkAll {H : Type} : List (DataW H) → Nat
  | [] => 0
  | d :: r => uptoBulk d + uptoBulkAll r
def uptoBulkEntries {H : Type} : List (Lit × DataW H) → Nat
  | [] => 0
  | x :: r => uptoBulkEntry x + uptoBulkEntries r
def uptoBulkEntry {H : Type} : Lit × DataW H → Nat
  | (.string bytes, d) => bytes.length + uptoBulk d + 1
  | (_, d) => uptoBulk d + 1
 end
def uptoSmall : (H : Type) → List (DataW H) → Bool := fun _ ds => decide (uptoBulkAll ds ≤ 1048576)
def OpenSpec.upto (s : _root_.Go.ChangeSpec) : _root_.Go.OpenSpec := { _root_.Go.OpenSpec.ofChange s with cond := some uptoSmall }

/-- 'laws.FnBlocks', WHERE WHAT IT READS IS OF BULK AT MOST 1048576: true; the input reads as it did. -/
def fnBlocksUptoRow : OpenClaim := { program := "ytclpnhdpojkjpaagreat", sum := "c0071c8e31b3a0e86c220c4b6d075d3aa5e68501d456241424e00273da8e172b", func := "loop.example/g01987/laws.FnBlocks", spec := "fnBlocks", inPlace := ["(*sync.WaitGroup).Add", "internal/race.ReleaseMerge", "internal/race.Disable", "internal/race.Enable", "internal/synctest.IsInBubble", "internal/synctest.Associate[sync.WaitGroup]", "sync.fatal", "sync/atomic.OrUint64", "sync/atomic.AddUint64", "internal/race.Read", "sync/atomic.LoadUint64", "sync/atomic.StoreUint64", "internal/synctest.Disassociate[sync.WaitGroup]", "sync.runtime_Semrelease", "(*sync.WaitGroup).Done", "(*sync.WaitGroup).Wait", "internal/race.Acquire", "internal/synctest.IsAssociated[sync.WaitGroup]", "sync/atomic.CompareAndSwapUint64", "internal/race.Write", "sync.runtime_SemacquireWaitGroup"], unfollowed := true, recurses := true, leaving := true, apart := false, narrowed := true }
def FnBlocksUptoSaid : Prop := fnBlocksUptoRow.holds Tryz.pinned (OpenSpec.upto fnBlocksSpec)

/-- 'laws.FnExactBlockBest', WHERE WHAT IT READS IS OF BULK AT MOST 1048576: true; the input reads as it did. -/
def fnExactBlockBestUptoRow : OpenClaim := { program := "ytclpnhdpojkjpaagreat", sum := "c0071c8e31b3a0e86c220c4b6d075d3aa5e68501d456241424e00273da8e172b", func := "loop.example/g01987/laws.FnExactBlockBest", spec := "fnExactBlockBest", unfollowed := true, recurses := true, leaving := true, apart := false, narrowed := true }
def FnExactBlockBestUptoSaid : Prop := fnExactBlockBestUptoRow.holds Tryz.pinned (OpenSpec.upto fnExactBlockBestSpec)

/-- 'laws.FnExactDivideBest', WHERE WHAT IT READS IS OF BULK AT MOST 1048576: true; the input reads as it did. -/
def fnExactDivideBestUptoRow : OpenClaim := { program := "ytclpnhdpojkjpaagreat", sum := "c0071c8e31b3a0e86c220c4b6d075d3aa5e68501d456241424e00273da8e172b", func := "loop.example/g01987/laws.FnExactDivideBest", spec := "fnExactDivideBest", inPlace := ["(*sync.WaitGroup).Add", "internal/race.ReleaseMerge", "internal/race.Disable", "internal/race.Enable", "internal/synctest.IsInBubble", "internal/synctest.Associate[sync.WaitGroup]", "sync.fatal", "sync/atomic.OrUint64", "sync/atomic.AddUint64", "internal/race.Read", "sync/atomic.LoadUint64", "sync/atomic.StoreUint64", "internal/synctest.Disassociate[sync.WaitGroup]", "sync.runtime_Semrelease", "(*sync.WaitGroup).Done", "(*sync.WaitGroup).Wait", "internal/race.Acquire", "internal/synctest.IsAssociated[sync.WaitGroup]", "sync/atomic.CompareAndSwapUint64", "internal/race.Write", "sync.runtime_SemacquireWaitGroup"], unfollowed := true, recurses := true, leaving := true, apart := false, narrowed := true }
def FnExactDivideBestUptoSaid : Prop := fnExactDivideBestUptoRow.holds Tryz.pinned (OpenSpec.upto fnExactDivideBestSpec)

/-- 'laws.FnExactMergeBest', WHERE WHAT IT READS IS OF BULK AT MOST 1048576: true; the input reads as it did. -/
def fnExactMergeBestUptoRow : OpenClaim := { program := "ytclpnhdpojkjpaagreat", sum := "c0071c8e31b3a0e86c220c4b6d075d3aa5e68501d456241424e00273da8e172b", func := "loop.example/g01987/laws.FnExactMergeBest", spec := "fnExactMergeBest", unfollowed := true, recurses := true, leaving := true, apart := false, narrowed := true }
def FnExactMergeBestUptoSaid : Prop := fnExactMergeBestUptoRow.holds Tryz.pinned (OpenSpec.upto fnExactMergeBestSpec)

end Rows
end Go.Proofs.YtclpnhdpojkjpaaGreat
