/-
  The model's rank and comparison of values, for a wish.
-/
import Derived.Test.YtceiocdemhkcdaaWishSpecB
namespace Go.Proofs.Ytceiocdemhkcdaa.num
set_option maxRecDepth 20000
open Go.RowKit
set_option linter.unusedVariables false

/-- The cells of a box of five that the call laid, behind calls. -/
theorem box5 {w w' : World} {v0 v1 v2 v3 v4 : Value} {T : TypeId} (hb : Below (w.alloc (.cells #[v0, v1, v2, v3, v4] T)).heap.size (w.alloc (.cells #[v0, v1, v2, v3, v4] T)) w') :
    w'.cell? ⟨w.heap.size, 0, none⟩ = some v0 ∧ w'.cell? ⟨w.heap.size, 1, none⟩ = some v1 ∧ w'.cell? ⟨w.heap.size, 2, none⟩ = some v2 ∧ w'.cell? ⟨w.heap.size, 3, none⟩ = some v3 ∧ w'.cell? ⟨w.heap.size, 4, none⟩ = some v4 ∧ w.heap.size < w'.heap.size := by
  have hc : ∀ j v, #[v0, v1, v2, v3, v4][j]? = some v → w'.cell? ⟨w.heap.size, j, none⟩ = some v := fun j v h => (hb.cell (p := ⟨w.heap.size, j, none⟩) (by simp)).trans (by rw [World.cell?_alloc_at _ _ _ _ rfl]; exact h)
  exact ⟨hc 0 _ rfl, hc 1 _ rfl, hc 2 _ rfl, hc 3 _ rfl, hc 4 _ rfl, by have := hb.size; simp at this; omega⟩

theorem IsW.val2 {d : WD} (h : IsW d) (hk : d.kind = 2) : InR d.value := by have := h.v; rwa [if_pos hk] at this
theorem rankW3 {f x v : Int} {ls : List Int} {ps : List (Int × Int)} : rankW ⟨3, f, x, ls, ps⟩ v = if v ∈ ls then 0 else 1 := rfl
theorem rankW2 {f x v : Int} {ls : List Int} {ps : List (Int × Int)} : rankW ⟨2, f, x, ls, ps⟩ v = if v < x then x - v else v - x := rfl
theorem rankW_le {d : WD} (hw : IsW d) (h4 : d.kind ≠ 4) {x : Int} (hx : InR x) : 0 ≤ rankW d x ∧ rankW d x ≤ 9 := by
  have hv := fun hk => hw.val2 hk
  have hk := hw.k
  obtain ⟨x0, x9⟩ := hx
  unfold rankW
  split
  · omega
  · split
    · omega
    · split
      · rename_i h
        obtain ⟨v0, v9⟩ := hv h
        split <;> omega
      · split <;> omega
end Go.Proofs.Ytceiocdemhkcdaa.num
