/-
  eqItemS: two slices of items compared by the law's own helper.
-/
import Derived.Test.YtghekfigfjhkeabGreatDoorItemCopy
namespace Go.Proofs.YtghekfigfjhkeabGreatDoor.num
open Go.RowKit

theorem bool_of (p : Prop) : ∃ b : Bool, b = true ↔ p := by
  by_cases h : p
  · exact ⟨true, by simp [h]⟩
  · exact ⟨false, by simp [h]⟩
theorem ne_len {α β : Type} {f : α → β} {l l' : List α} (h : l.length ≠ l'.length) : l.map f ≠ l'.map f := fun e => h (by simpa using congrArg List.length e)
theorem ne_dat {l l' : List It} {k : Nat} {t t' : It} (h1 : l[k]? = some t) (h2 : l'[k]? = some t') (h : t.dat ≠ t'.dat) : l.map It.dat ≠ l'.map It.dat := fun e => h (by
  have := congrArg (·[k]?) e
  simpa [h1, h2] using this)

end Go.Proofs.YtghekfigfjhkeabGreatDoor.num
