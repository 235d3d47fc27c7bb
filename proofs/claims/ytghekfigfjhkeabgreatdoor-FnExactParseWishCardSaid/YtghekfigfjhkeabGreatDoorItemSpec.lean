/-
  The model's functions on items: contracts.
-/
import Derived.Test.YtghekfigfjhkeabGreatDoorItemEq
namespace Go.Proofs.YtghekfigfjhkeabGreatDoor.num
open Go.RowKit

/-- What makes an item: three values from 0 to 9, a number from 0 to 99. -/
def IsP (d : Int × List Int) : Prop := (∀ v ∈ d.2, 0 ≤ v ∧ v ≤ 9) ∧ (0 ≤ d.1 ∧ d.1 ≤ 99) ∧ d.2.length = 3

theorem in_of (x lo hi : Int) (b : Bool) (hb : b = true ↔ lo ≤ x ∧ x ≤ hi) (w : World) :
    Calls Tryz.prog 40 #[.int .i64 x, .int .i64 lo, .int .i64 hi] w fun e w' => e = .returned (.bool b) ∧ w = w' := by
  obtain rfl : b = (decide (lo ≤ x) && decide (x ≤ hi)) := by rw [Bool.eq_iff_iff]; simpa using hb
  clear hb
  by_cases h1 : lo ≤ x
  · go_enter Tryz.func40, Tryz.ntmps40
    go_wp2
    go_ret
    exact ⟨by simp [h1], rfl⟩
  · go_enter Tryz.func40, Tryz.ntmps40
    go_wp2
    go_ret
    exact ⟨by simp; omega, rfl⟩

end Go.Proofs.YtghekfigfjhkeabGreatDoor.num
