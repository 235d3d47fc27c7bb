/-
  The laws' marks on slices of ints that a call made by append (nil, or with room behind).
-/
import Derived.Test.YtceiocdemhkcdaaOwnInt
namespace Go.Proofs.Ytceiocdemhkcdaa.num
set_option maxRecDepth 20000
open Go.RowKit
set_option linter.unusedVariables false

theorem marks_at {k n j : Nat} (h : j < n) : ((marks k n).map (Value.int .i64))[j]? = some (.int .i64 ((k + j : Nat) : Int)) := by simp [marks, h]
theorem ownI_nil (w : World) (B : Nat) : OwnI w B (.slice none 0 0) [] := ⟨rfl, .inl ⟨rfl, rfl⟩⟩
end Go.Proofs.Ytceiocdemhkcdaa.num
