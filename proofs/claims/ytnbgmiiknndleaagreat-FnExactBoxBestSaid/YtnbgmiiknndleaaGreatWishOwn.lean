/-
  A wish copied by the laws' own helper: its slices are rows of the call's own.
-/
import Derived.Test.YtnbgmiiknndleaaGreatWishLaw
namespace Go.Proofs.YtnbgmiiknndleaaGreat.num
set_option maxRecDepth 20000
open Go.RowKit
set_option linter.unusedVariables false

/-- A wish whose two slices are the call's own, apart from one another. -/
structure WiO (w : World) (B : Nat) (t : Wi) : Prop where
  k : (Lit.int .i64 t.kind).wf = true
  f : (Lit.int .i64 t.field).wf = true
  v : (Lit.int .i64 t.value).wf = true
  l : OwnI w B (.slice t.LA t.Ln t.Lc) t.ls
  p : OwnP w B (.slice t.PA t.Pn t.Pc) t.ps
  a : ∀ b, (Value.slice t.LA t.Ln t.Lc).ownBlock = some b → (Value.slice t.PA t.Pn t.Pc).ownBlock ≠ some b
theorem WiO.wi {w : World} {B : Nat} {t : Wi} (h : WiO w B t) : WiIn w w.heap.size t := ⟨h.k, h.f, h.v, ownI_at h.l, h.p.at⟩
/-- The blocks of a wish. -/
def Wi.has (t : Wi) (b : Nat) : Prop := (Value.slice t.LA t.Ln t.Lc).ownBlock = some b ∨ (Value.slice t.PA t.Pn t.Pc).ownBlock = some b
theorem WiO.blocks {w w' : World} {B : Nat} {t : Wi} (h : WiO w B t) (hb : ∀ b, t.has b → w'.heap[b]? = w.heap[b]?) : WiO w' B t :=
  ⟨h.k, h.f, h.v, ownI_blocks h.l fun k hk => hb k (.inl hk), h.p.blocks fun k hk => hb k (.inr hk), h.a⟩
theorem WiO.has_in {w : World} {B : Nat} {t : Wi} (h : WiO w B t) {b : Nat} (hb : t.has b) : B ≤ b ∧ b < w.heap.size := by
  rcases hb with hb | hb
  · exact ⟨ownI_lows h.l b hb, ownI_tops h.l b hb⟩
  · exact ⟨h.p.lows b hb, h.p.tops b hb⟩
theorem WiO.below {w w' : World} {B : Nat} {t : Wi} (h : WiO w B t) (hb : Below w.heap.size w w') : WiO w' B t := h.blocks fun b k => hb.block b (h.has_in k).2
theorem ownI_lowE {w : World} {B B' : Nat} {v : Value} {l : List Int} (h : OwnI w B v l) (hB : B' ≤ B) : OwnI w B' v l :=
  ⟨h.1, h.2.imp id fun ⟨g, cap, cur, h1, h2, h3⟩ => ⟨g, cap, cur, h1, Nat.le_trans hB h2, h3⟩⟩
theorem ownP_lowE {w : World} {B B' : Nat} {v : Value} {l : List (Int × Int)} (h : OwnP w B v l) (hB : B' ≤ B) : OwnP w B' v l :=
  ⟨h.1, h.2.imp id fun ⟨g, cap, cur, h1, h2, h3⟩ => ⟨g, cap, cur, h1, Nat.le_trans hB h2, h3⟩⟩
theorem WiO.low {w : World} {B B' : Nat} {t : Wi} (h : WiO w B t) (hB : B' ≤ B) : WiO w B' t := ⟨h.k, h.f, h.v, ownI_lowE h.l hB, ownP_lowE h.p hB, h.a⟩
theorem intRow_own {w : World} {b B n : Nat} {xs : List Int} (h : IntRow w b xs) (hB : B ≤ b) (hl : xs.length = n) (hn : n ≤ 1048576) : OwnI w B (.slice (some ⟨b, 0, none⟩) n n) xs :=
  ownI_of_row hB hl (Nat.le_refl _) (by unfold maxLen; omega) (by have := h; unfold IntRow at this; rw [hl] at this; exact this) fun j hj => by
    rw [List.getElem?_map, List.getD_eq_getElem?_getD, List.getElem?_eq_getElem (by omega)]; rfl
theorem flat_cell : ∀ (ps : List (Int × Int)) (j : Nat), j < ps.length * 2 → (flat ps)[j]? = some (pairCell ps j) := fun ps j hj => by
  have hlt : j / 2 < ps.length := by omega
  have hg : ps[j / 2]? = some ps[j / 2] := List.getElem?_eq_getElem hlt
  rcases Nat.mod_two_eq_zero_or_one j with h | h
  · have e : j = j / 2 * 2 := by omega
    rw [e, flat_even ps (j / 2) _ hg, pairCell_even hg]
  · have e : j = j / 2 * 2 + 1 := by omega
    rw [e, flat_odd ps (j / 2) _ hg, pairCell_odd hg]
theorem pairRow_own {w : World} {b B n : Nat} {ps : List (Int × Int)} (h : PairRow w b ps) (hB : B ≤ b) (hl : ps.length = n) (hn : n ≤ 1048576) : OwnP w B (.slice (some ⟨b, 0, none⟩) n n) ps :=
  OwnP.of_row hB hl (Nat.le_refl _) (by unfold maxLen; omega) (by have := h; unfold PairRow at this; rw [hl] at this; exact this) fun j hj => flat_cell ps j (by omega)

end Go.Proofs.YtnbgmiiknndleaaGreat.num
