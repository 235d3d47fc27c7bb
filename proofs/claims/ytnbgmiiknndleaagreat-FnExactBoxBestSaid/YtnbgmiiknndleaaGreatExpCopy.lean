/-
  The laws' own copy and comparison of slices of nodes.
-/
import Derived.Test.YtnbgmiiknndleaaGreatExpMem
namespace Go.Proofs.YtnbgmiiknndleaaGreat.num
set_option maxRecDepth 20000
open Go.RowKit
set_option linter.unusedVariables false
set_option linter.unusedSimpArgs false

theorem OwnN.of_row {w : World} {B bx n : Nat} {ns : List Nd} (hB : B ≤ bx) (hl : ns.length = n) (hn : n ≤ 1048576) (hr : w.rowIs bx 82 (n * 6) (nodeCell ns)) (hx : ∀ (k : Nat) (x : Nd), ns[k]? = some x → (Lit.int .i64 x.op).wf = true ∧ WiO w (bx + 1) x.t)
    (hd : ∀ (i j : Nat) (x y : Nd) (b : Nat), i < j → ns[i]? = some x → ns[j]? = some y → x.t.has b → ¬ y.t.has b) : OwnN w B (.slice (some ⟨bx, 0, none⟩) n n) ns :=
  ⟨OwnG.of_row nodeCells_len hB hl (Nat.le_refl _) (by unfold maxLen; omega) hr (fun j hj => cellG_own nodeCells_len zN hl hj), fun k x hk => ⟨(hx k x hk).1, (hx k x hk).2.low (by omega)⟩,
    fun k x b hk hb e => by have h := ((hx k x hk).2.has_in hb).1; have := Option.some.inj e; simp at this; omega, hd⟩
theorem get_snoc {α : Type} {l : List α} {x y : α} {k i : Nat} (h : l.length = k) (hi : (l ++ [x])[i]? = some y) : (i < k ∧ l[i]? = some y) ∨ (i = k ∧ y = x) := by
  rcases Nat.lt_or_ge i k with g | g
  · exact .inl ⟨g, by rwa [List.getElem?_append_left (by omega)] at hi⟩
  · rw [List.getElem?_append_right (by omega)] at hi
    rcases Nat.eq_zero_or_pos (i - l.length) with e | e
    · rw [e] at hi; simp at hi; exact .inr ⟨by omega, hi.symm⟩
    · rw [List.getElem?_eq_none (by simp; omega)] at hi; cases hi

theorem nd_dat {x y : Nd} : x.dat = y.dat ↔ x.op = y.op ∧ x.t.dat = y.t.dat := by unfold Nd.dat; rw [ND.mk.injEq]
theorem ne_nd {l l' : List Nd} {k : Nat} {t t' : Nd} (h1 : l[k]? = some t) (h2 : l'[k]? = some t') (h : t.dat ≠ t'.dat) : l.map Nd.dat ≠ l'.map Nd.dat := fun e => h (by
  have := congrArg (·[k]?) e
  simpa [h1, h2] using this)
end Go.Proofs.YtnbgmiiknndleaaGreat.num
