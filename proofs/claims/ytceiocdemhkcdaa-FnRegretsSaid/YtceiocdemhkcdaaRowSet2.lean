/-
  One element of two cells set anew.
-/
import Derived.Test.YtceiocdemhkcdaaRowG
import Derived.Test.YtceiocdemhkcdaaItemCopy
import Derived.Test.YtceiocdemhkcdaaFmSet
namespace Go.Proofs.Ytceiocdemhkcdaa.num
set_option maxRecDepth 20000
open Go.RowKit
set_option linter.unusedVariables false
set_option linter.unusedSimpArgs false

theorem OwnG.set2 {α : Type} {f : α → List Value} {s : Nat} (hf : ∀ x, (f x).length = s) {T : TypeId} {w : World} {B g n c k i1 i2 : Nat} {v1 v2 : Value} {l : List α} {x y : α} (h : OwnG T f s w B (.slice (some ⟨g, 0, none⟩) n c) l) (hk : l[k]? = some x) (hy : ∀ j, j < s → (f y)[j]? = if j = i2 then some v2 else if j = i1 then some v1 else (f x)[j]?) (h1 : i1 < s) (h2 : i2 < s) :
    OwnG T f s ((w.setCell ⟨g, k * s + i1, none⟩ v1).setCell ⟨g, k * s + i2, none⟩ v2) B (.slice (some ⟨g, 0, none⟩) n c) (l.set k y) := by
  have hlt : k < l.length := by
    rcases Nat.lt_or_ge k l.length with q | q
    · exact q
    · rw [List.getElem?_eq_none q] at hk; cases hk
  have hs : 0 < s := by omega
  rcases h.row with ⟨e, _⟩ | ⟨g', cap, F, e, hB, hle, hcap, hrow, hF⟩
  · cases e
  · injection e with e1 e2 e3
    injection e1 with e1
    injection e1 with e1
    subst e1 e2 e3
    refine OwnG.of_row hf hB (by simp) hle hcap (World.rowIs.set (World.rowIs.set hrow (k * s + i1) v1) (k * s + i2) v2) fun j hj => ?_
    rw [fm_set hf l k _ hlt j hj]
    have hd : j / s * s + j % s = j := by rw [Nat.mul_comm]; exact Nat.div_add_mod j s
    by_cases e : j / s = k
    · obtain ⟨r, hr, rfl⟩ : ∃ r, r < s ∧ j = k * s + r := ⟨j % s, Nat.mod_lt _ hs, by rw [← e]; exact hd.symm⟩
      have hm : (k * s + r) % s = r := by rw [Nat.mul_comm, Nat.mul_add_mod, Nat.mod_eq_of_lt hr]
      rw [if_pos e, hm, hy r hr]
      have hold := hF _ hj
      rw [fm_at hf l k r x hk hr] at hold
      by_cases q2 : r = i2
      · rw [if_pos q2, if_pos (show k * s + r = k * s + i2 by rw [q2])]
      · have n2 : ¬ (k * s + r = k * s + i2) := by omega
        by_cases q1 : r = i1
        · rw [if_neg q2, if_pos q1, if_neg n2, if_pos (show k * s + r = k * s + i1 by rw [q1])]
        · rw [if_neg q2, if_neg q1, if_neg n2, if_neg (show ¬ (k * s + r = k * s + i1) by omega), hold]
    · rw [if_neg e, hF j hj]
      have hm := Nat.mod_lt j hs
      have ne : ∀ i, i < s → j ≠ k * s + i := fun i hi hji => e (by rw [hji, Nat.mul_comm, Nat.mul_add_div hs, Nat.div_eq_of_lt hi, Nat.add_zero])
      rw [if_neg (ne i2 h2), if_neg (ne i1 h1)]
end Go.Proofs.Ytceiocdemhkcdaa.num
