/-
  What slices.DeleteFunc leaves of a row on the way. Plain mathematics.
-/
import Derived.Test.YtceiocdemhkcdaaItemCopy
namespace Go.Proofs.Ytceiocdemhkcdaa.num
set_option maxRecDepth 20000
open Go.RowKit
set_option linter.unusedVariables false
set_option linter.unusedSimpArgs false

/-- What is left of the first k. -/
def lftI (hold : It → Bool) (its : List It) (k : Nat) : List It := (its.take k).filter fun u => !hold u
theorem lft_keep {hold : It → Bool} {its : List It} {k : Nat} {x : It} (h : its[k]? = some x) (hx : hold x = false) : lftI hold its (k + 1) = lftI hold its k ++ [x] := by
  unfold lftI
  rw [take_at h, List.filter_append]
  simp [hx]
theorem lft_drop {hold : It → Bool} {its : List It} {k : Nat} {x : It} (h : its[k]? = some x) (hx : hold x = true) : lftI hold its (k + 1) = lftI hold its k := by
  unfold lftI
  rw [take_at h, List.filter_append]
  simp [hx]
theorem lft_all {hold : It → Bool} {its : List It} {k : Nat} (h : ∀ u ∈ its.take k, hold u = false) : lftI hold its k = its.take k := by
  unfold lftI
  exact List.filter_eq_self.2 fun u hu => by rw [h u hu]; rfl
theorem drop_at {its : List It} {k : Nat} {x : It} (h : its[k]? = some x) : its.drop k = x :: its.drop (k + 1) := by
  obtain ⟨hl, rfl⟩ := List.getElem?_eq_some_iff.1 h
  exact List.drop_eq_getElem_cons hl
/-- What the row holds on the way: what is left of the first j; some that are not read again; the others. -/
structure DelInv (hold : It → Bool) (its : List It) (i j : Nat) (m : List It) : Prop where
  eq : ∃ mid : List It, m = lftI hold its j ++ (mid ++ its.drop j) ∧ 0 < mid.length
  len : m.length = its.length
  at' : (lftI hold its j).length = i
  le : j ≤ its.length
theorem DelInv.lt {hold : It → Bool} {its : List It} {i j : Nat} {m : List It} (h : DelInv hold its i j m) : i < j := by
  obtain ⟨mid, e, hm⟩ := h.eq
  have h1 := h.len
  have h2 := h.at'
  have h3 := h.le
  rw [e, List.length_append, List.length_append, List.length_drop] at h1
  omega
theorem DelInv.start {hold : It → Bool} {its : List It} {k : Nat} {x : It} (h : its[k]? = some x) (hx : hold x = true) (hall : ∀ u ∈ its.take k, hold u = false) : DelInv hold its k (k + 1) its := by
  have hl := (List.getElem?_eq_some_iff.1 h).1
  have e : lftI hold its (k + 1) = its.take k := by rw [lft_drop h hx, lft_all hall]
  exact ⟨⟨[x], by rw [e, List.singleton_append, ← drop_at h, List.take_append_drop], by simp⟩, rfl, by rw [e, List.length_take]; omega, hl⟩
theorem DelInv.keep {hold : It → Bool} {its : List It} {i j : Nat} {m : List It} {x : It} (h : DelInv hold its i j m) (hat : its[j]? = some x) (hx : hold x = false) : DelInv hold its (i + 1) (j + 1) (m.set i x) := by
  obtain ⟨mid, e, hm⟩ := h.eq
  have hl := (List.getElem?_eq_some_iff.1 hat).1
  obtain ⟨a, mid', rfl⟩ : ∃ a r, mid = a :: r := by cases mid with | nil => simp at hm | cons a r => exact ⟨a, r, rfl⟩
  refine ⟨⟨mid' ++ [x], ?_, by simp⟩, by rw [List.length_set]; exact h.len, by rw [lft_keep hat hx, List.length_append, h.at']; rfl, hl⟩
  rw [e, lft_keep hat hx, drop_at hat, List.set_append_right _ _ (by rw [h.at']; exact Nat.le_refl _), h.at', Nat.sub_self]
  simp
theorem DelInv.skip {hold : It → Bool} {its : List It} {i j : Nat} {m : List It} {x : It} (h : DelInv hold its i j m) (hat : its[j]? = some x) (hx : hold x = true) : DelInv hold its i (j + 1) m := by
  obtain ⟨mid, e, hm⟩ := h.eq
  have hl := (List.getElem?_eq_some_iff.1 hat).1
  refine ⟨⟨mid ++ [x], ?_, by simp⟩, h.len, by rw [lft_drop hat hx]; exact h.at', hl⟩
  rw [e, lft_drop hat hx, drop_at hat]
  simp
theorem DelInv.read {hold : It → Bool} {its : List It} {i j : Nat} {m : List It} {x : It} (h : DelInv hold its i j m) (hat : its[j]? = some x) : m[j]? = some x := by
  obtain ⟨mid, e, hm⟩ := h.eq
  have h1 := h.len
  have h2 := h.le
  have hl : (lftI hold its j ++ mid).length = j := by
    rw [e, List.length_append, List.length_append, List.length_drop] at h1
    rw [List.length_append]
    omega
  rw [e, ← List.append_assoc, List.getElem?_append_right (by omega), hl, Nat.sub_self, drop_at hat]
  rfl
theorem DelInv.done {hold : It → Bool} {its : List It} {i : Nat} {m : List It} (h : DelInv hold its i its.length m) : m.take i = its.filter fun u => !hold u := by
  obtain ⟨mid, e, hm⟩ := h.eq
  have h2 := h.at'
  rw [e, List.take_append_of_le_length (by omega), List.take_of_length_le (by omega)]
  unfold lftI
  rw [List.take_length]
end Go.Proofs.Ytceiocdemhkcdaa.num
