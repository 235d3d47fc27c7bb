/-
  A list with one element more, read.
-/
import Derived.Test.YtceiocdemhkcdaaGreatItemCopy
namespace Go.Proofs.YtceiocdemhkcdaaGreat.num
set_option maxRecDepth 20000
open Go.RowKit
set_option linter.unusedVariables false
set_option linter.unusedSimpArgs false

theorem get_snoc {α : Type} {l : List α} {x y : α} {k i : Nat} (h : l.length = k) (hi : (l ++ [x])[i]? = some y) : (i < k ∧ l[i]? = some y) ∨ (i = k ∧ y = x) := by
  rcases Nat.lt_or_ge i k with g | g
  · exact .inl ⟨g, by rwa [List.getElem?_append_left (by omega)] at hi⟩
  · rw [List.getElem?_append_right (by omega)] at hi
    rcases Nat.eq_zero_or_pos (i - l.length) with e | e
    · rw [e] at hi; simp at hi; exact .inr ⟨by omega, hi.symm⟩
    · rw [List.getElem?_eq_none (by simp; omega)] at hi; cases hi
end Go.Proofs.YtceiocdemhkcdaaGreat.num
