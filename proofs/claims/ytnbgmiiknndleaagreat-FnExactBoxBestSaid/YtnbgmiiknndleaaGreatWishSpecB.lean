/-
  The model's IsWish: its contract.
-/
import Derived.Test.YtnbgmiiknndleaaGreatWishSpec
import Derived.Test.YtnbgmiiknndleaaGreatItemSpec
namespace Go.Proofs.YtnbgmiiknndleaaGreat.num
set_option maxRecDepth 20000
open Go.RowKit
set_option linter.unusedVariables false

theorem isW01 {k f v : Int} {ls : List Int} {ps : List (Int × Int)} (hk : k = 0 ∨ k = 1) (hf : 0 ≤ f ∧ f ≤ 2) : IsW ⟨k, f, v, ls, ps⟩ ↔ v = 0 ∧ ls = [] ∧ ps = [] := by
  constructor
  · intro ⟨_, _, h1, h2, h3⟩
    dsimp only at h1 h2 h3
    rw [if_neg (by omega)] at h1 h2 h3
    exact ⟨h1, h2, h3⟩
  · rintro ⟨rfl, rfl, rfl⟩
    exact ⟨hf, by dsimp only; omega, by rw [if_neg (by dsimp only; omega)], by rw [if_neg (by dsimp only; omega)], by rw [if_neg (by dsimp only; omega)]⟩
theorem isW2 {f v : Int} {ls : List Int} {ps : List (Int × Int)} (hf : 0 ≤ f ∧ f ≤ 2) : IsW ⟨2, f, v, ls, ps⟩ ↔ InR v ∧ ls = [] ∧ ps = [] := by
  constructor
  · intro ⟨_, _, h1, h2, h3⟩
    exact ⟨h1, h2, h3⟩
  · rintro ⟨h, rfl, rfl⟩
    exact ⟨hf, ⟨by show (0:Int) ≤ 2; decide, by show (2:Int) ≤ 4; decide⟩, h, rfl, rfl⟩
theorem isW3 {f v : Int} {ls : List Int} {ps : List (Int × Int)} (hf : 0 ≤ f ∧ f ≤ 2) : IsW ⟨3, f, v, ls, ps⟩ ↔ v = 0 ∧ Asc ls ∧ ps = [] := by
  constructor
  · intro ⟨_, _, h1, h2, h3⟩
    exact ⟨h1, h2, h3⟩
  · rintro ⟨rfl, h, rfl⟩
    exact ⟨hf, ⟨by show (0:Int) ≤ 3; decide, by show (3:Int) ≤ 4; decide⟩, rfl, h, rfl⟩
theorem isW4 {f v : Int} {ls : List Int} {ps : List (Int × Int)} (hf : 0 ≤ f ∧ f ≤ 2) : IsW ⟨4, f, v, ls, ps⟩ ↔ v = 0 ∧ ls = [] ∧ OkP ps := by
  constructor
  · intro ⟨_, _, h1, h2, h3⟩
    exact ⟨h1, h2, h3⟩
  · rintro ⟨rfl, rfl, h⟩
    exact ⟨hf, ⟨by show (0:Int) ≤ 4; decide, by show (4:Int) ≤ 4; decide⟩, rfl, rfl, h⟩

end Go.Proofs.YtnbgmiiknndleaaGreat.num
