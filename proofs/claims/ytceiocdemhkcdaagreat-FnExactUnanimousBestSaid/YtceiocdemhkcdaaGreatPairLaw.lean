/-
  What the laws of pairs share: forms of the contracts' facts, as their walks ask them.
-/
import Derived.Test.YtceiocdemhkcdaaGreatPairOpen
import Derived.Test.YtceiocdemhkcdaaGreatPairEq
import Derived.Test.YtceiocdemhkcdaaGreatPairMarkI
import Derived.Test.YtceiocdemhkcdaaGreatPairMark
import Derived.Test.YtceiocdemhkcdaaGreatPairSpecE
import Derived.Test.YtceiocdemhkcdaaGreatOwnInt
namespace Go.Proofs.YtceiocdemhkcdaaGreat.num
set_option maxRecDepth 20000
open Go.RowKit
set_option linter.unusedVariables false

theorem PairRow.pairsN {w : World} {b B n : Nat} {ps : List (Int × Int)} (h : PairRow w b ps) (hB : b < B) (hl : ps.length = n) : Pairs w B (some ⟨b, 0, none⟩) n ps := hl ▸ h.pairs hB
theorem OwnP.at {w : World} {B : Nat} {A : Option Addr} {n c : Nat} {l : List (Int × Int)} (h : OwnP w B (.slice A n c) l) : Pairs w w.heap.size A n l := by
  obtain ⟨A', n', c', e, hp⟩ := h.pairs
  injection e with e1 e2 e3
  subst e1 e2 e3
  exact hp
theorem cloOf_len (ps : List (Int × Int)) (q : Bool) : (cloOf ps q).length ≤ 1048576 := by
  unfold cloOf
  split
  · have := clo_len ps 100; omega
  · simp
theorem LinP.small {ps : List (Int × Int)} {q : Bool} {out : List Int} (h : LinP ps q out) : out.length ≤ 1048576 := by
  cases q
  · rw [h.2 rfl]; simp
  · rw [(h.1 rfl).len]; decide
end Go.Proofs.YtceiocdemhkcdaaGreat.num
