/-
  A wish copied by the laws' own helper: its slices are rows of the call's own.
-/
import Derived.Test.YtceiocdemhkcdaaGreatWishLaw
namespace Go.Proofs.YtceiocdemhkcdaaGreat.num
set_option maxRecDepth 20000
open Go.RowKit
set_option linter.unusedVariables false

/-- A wish whose two slices are the call's own, apart from one another. -/
structure WiO (w : World) (B : Nat) (t : Wi) : Prop where
  k : (Lit.int .i64 t.kind).wf = true
  f : (Lit.int .i64 t.field).wf = true
  v : (Lit.int .i64 t.value).wf = true
  l : OwnI w B (.slice t.LA t.Ln t.Lc) t.ls
  p : OwnP w B (.slice t.PA t.Pn t.Pc) t.ps
  a : ∀ b, (Value.slice t.LA t.Ln t.Lc).ownBlock = some b → (Value.slice t.PA t.Pn t.Pc).ownBlock ≠ some b
theorem WiO.wi {w : World} {B : Nat} {t : Wi} (h : WiO w B t) : WiIn w w.heap.size t := ⟨h.k, h.f, h.v, ownI_at h.l, h.p.at⟩
/-- The blocks of a wish. -/
def Wi.has (t : Wi) (b : Nat) : Prop := (Value.slice t.LA t.Ln t.Lc).ownBlock = some b ∨ (Value.slice t.PA t.Pn t.Pc).ownBlock = some b
theorem WiO.blocks {w w' : World} {B : Nat} {t : Wi} (h : WiO w B t) (hb : ∀ b, t.has b → w'.heap[b]? = w.heap[b]?) : WiO w' B t :=
  ⟨h.k, h.f, h.v, ownI_blocks h.l fun k hk => hb k (.inl hk), h.p.blocks fun k hk => hb k (.inr hk), h.a⟩
theorem WiO.has_in {w : World} {B : Nat} {t : Wi} (h : WiO w B t) {b : Nat} (hb : t.has b) : B ≤ b ∧ b < w.heap.size := by
  rcases hb with hb | hb
  · exact ⟨ownI_lows h.l b hb, ownI_tops h.l b hb⟩
  · exact ⟨h.p.lows b hb, h.p.tops b hb⟩
theorem WiO.below {w w' : World} {B : Nat} {t : Wi} (h : WiO w B t) (hb : Below w.heap.size w w') : WiO w' B t := h.blocks fun b k => hb.block b (h.has_in k).2
theorem ownI_lowE {w : World} {B B' : Nat} {v : Value} {l : List Int} (h : OwnI w B v l) (hB : B' ≤ B) : OwnI w B' v l :=
  ⟨h.1, h.2.imp id fun ⟨g, cap, cur, h1, h2, h3⟩ => ⟨g, cap, cur, h1, Nat.le_trans hB h2, h3⟩⟩
theorem ownP_lowE {w : World} {B B' : Nat} {v : Value} {l : List (Int × Int)} (h : OwnP w B v l) (hB : B' ≤ B) : OwnP w B' v l :=
  ⟨h.1, h.2.imp id fun ⟨g, cap, cur, h1, h2, h3⟩ => ⟨g, cap, cur, h1, Nat.le_trans hB h2, h3⟩⟩
theorem WiO.low {w : World} {B B' : Nat} {t : Wi} (h : WiO w B t) (hB : B' ≤ B) : WiO w B' t := ⟨h.k, h.f, h.v, ownI_lowE h.l hB, ownP_lowE h.p hB, h.a⟩
theorem intRow_own {w : World} {b B n : Nat} {xs : List Int} (h : IntRow w b xs) (hB : B ≤ b) (hl : xs.length = n) (hn : n ≤ 1048576) : OwnI w B (.slice (some ⟨b, 0, none⟩) n n) xs :=
  ownI_of_row hB hl (Nat.le_refl _) (by unfold maxLen; omega) (by have := h; unfold IntRow at this; rw [hl] at this; exact this) fun j hj => by
    rw [List.getElem?_map, List.getD_eq_getElem?_getD, List.getElem?_eq_getElem (by omega)]; rfl
theorem flat_cell : ∀ (ps : List (Int × Int)) (j : Nat), j < ps.length * 2 → (flat ps)[j]? = some (pairCell ps j) := fun ps j hj => by
  have hlt : j / 2 < ps.length := by omega
  have hg : ps[j / 2]? = some ps[j / 2] := List.getElem?_eq_getElem hlt
  rcases Nat.mod_two_eq_zero_or_one j with h | h
  · have e : j = j / 2 * 2 := by omega
    rw [e, flat_even ps (j / 2) _ hg, pairCell_even hg]
  · have e : j = j / 2 * 2 + 1 := by omega
    rw [e, flat_odd ps (j / 2) _ hg, pairCell_odd hg]
theorem pairRow_own {w : World} {b B n : Nat} {ps : List (Int × Int)} (h : PairRow w b ps) (hB : B ≤ b) (hl : ps.length = n) (hn : n ≤ 1048576) : OwnP w B (.slice (some ⟨b, 0, none⟩) n n) ps :=
  OwnP.of_row hB hl (Nat.le_refl _) (by unfold maxLen; omega) (by have := h; unfold PairRow at this; rw [hl] at this; exact this) fun j hj => flat_cell ps j (by omega)

set_option maxRecDepth 20000 in
theorem toWish_o (w : World) (B : Nat) (t : Wi) (hi : WiIn w B t) (hB : B ≤ w.heap.size) (hn : t.Short) :
    Calls Tryz.prog 142 #[t.val] w fun e w' => ∃ t' : Wi, e = .returned t'.val ∧ t'.dat = t.dat ∧ t'.Short ∧ WiO w' w.heap.size t' ∧ Below w.heap.size w w' := by
  obtain ⟨k, f, v, LA, Ln, Lc, ls, PA, Pn, Pc, ps⟩ := t
  obtain ⟨hk, hf, hv, hl, hp⟩ := hi
  unfold Wi.val
  simp only [Wi.Short] at hk hf hv hl hp hn ⊢
  have HL := Lib.hid hl
  have HP := Lib.hid hp
  have HK := Lib.hid hk
  have HF := Lib.hid hf
  have HV := Lib.hid hv
  have HN := Lib.hid hn
  clear hl hp hk hf hv hn
  go_enter Tryz.func142, Tryz.ntmps142
  go_wp2_with fail
  refine (toInts _ B LA Ln Lc ls (HL.out.below (below3 hB _ _ _)) (by simp; omega) HN.out.1).mono ?_
  rintro e w1 ⟨rfl, rfl⟩
  go_wp2_with fail
  refine (toPairs _ B PA Pn Pc ps (HP.out.below (below4 hB _ _ _ _)) (by simp; omega) HN.out.2).mono ?_
  rintro e w2 ⟨rfl, hrow, hb2⟩
  have hr1 : w2.heap[w.heap.size + 1]? = some (.cells #[.int .i64 0, .int .i64 0, .int .i64 0, .slice none 0 0, .slice none 0 0] 109 (0, 0)) := (hb2.block _ (by simp <;> omega)).trans (heap_mid _ _ _ _ _)
  have hr2 : w2.heap[w.heap.size + 1 + 1]? = some (.cells #[.int .i64 k, .int .i64 f, .int .i64 v, .slice (some ⟨w.heap.size + 1 + 1 + 1, 0, none⟩) Ln Ln, .slice none 0 0] 109 (0, 0)) := (hb2.block _ (by simp <;> omega)).trans (heap_mid2 _ _ _ _ _)
  have hr3 : IntRow w2 (w.heap.size + 1 + 1 + 1) ls := (IntRow.made _ ls _ (by simp)).below hb2 (by simp)
  have hbel : Below w.heap.size w w2 := (below4 (Nat.le_refl _) _ _ _ _).trans (hb2.mono (by simp; omega))
  have hsz : w.heap.size + 1 + 1 + 1 + 1 < w2.heap.size := by have := hrow.lt; simp at this ⊢; omega
  have HRow := Lib.hid hrow
  have HR3 := Lib.hid hr3
  have HB2 := Lib.hid hbel
  have HS := Lib.hid hsz
  have d0 : w2.cell? ⟨w.heap.size + 1, 0, none⟩ = some (.int .i64 0) := cell_of_row w2 _ 0 _ _ (0, 0) hr1
  have d1 : w2.cell? ⟨w.heap.size + 1, 1, none⟩ = some (.int .i64 0) := cell_of_row w2 _ 1 _ _ (0, 0) hr1
  have d2 : w2.cell? ⟨w.heap.size + 1, 2, none⟩ = some (.int .i64 0) := cell_of_row w2 _ 2 _ _ (0, 0) hr1
  have d3 : w2.cell? ⟨w.heap.size + 1, 3, none⟩ = some (.slice none 0 0) := cell_of_row w2 _ 3 _ _ (0, 0) hr1
  have d4 : w2.cell? ⟨w.heap.size + 1, 4, none⟩ = some (.slice none 0 0) := cell_of_row w2 _ 4 _ _ (0, 0) hr1
  have g0 : w2.frozen? ⟨w.heap.size + 1, 0, none⟩ = false := frozen_of_row w2 _ 0 _ _ hr1
  have g1 : w2.frozen? ⟨w.heap.size + 1, 1, none⟩ = false := frozen_of_row w2 _ 1 _ _ hr1
  have g2 : w2.frozen? ⟨w.heap.size + 1, 2, none⟩ = false := frozen_of_row w2 _ 2 _ _ hr1
  have g3 : w2.frozen? ⟨w.heap.size + 1, 3, none⟩ = false := frozen_of_row w2 _ 3 _ _ hr1
  have g4 : w2.frozen? ⟨w.heap.size + 1, 4, none⟩ = false := frozen_of_row w2 _ 4 _ _ hr1
  have c0 : w2.cell? ⟨w.heap.size + 1 + 1, 0, none⟩ = some (.int .i64 k) := cell_of_row w2 _ 0 _ _ (0, 0) hr2
  have c1 : w2.cell? ⟨w.heap.size + 1 + 1, 1, none⟩ = some (.int .i64 f) := cell_of_row w2 _ 1 _ _ (0, 0) hr2
  have c2 : w2.cell? ⟨w.heap.size + 1 + 1, 2, none⟩ = some (.int .i64 v) := cell_of_row w2 _ 2 _ _ (0, 0) hr2
  have c3 : w2.cell? ⟨w.heap.size + 1 + 1, 3, none⟩ = some (.slice (some ⟨w.heap.size + 1 + 1 + 1, 0, none⟩) Ln Ln) := cell_of_row w2 _ 3 _ _ (0, 0) hr2
  have c4 : w2.cell? ⟨w.heap.size + 1 + 1, 4, none⟩ = some (.slice none 0 0) := cell_of_row w2 _ 4 _ _ (0, 0) hr2
  have e4 : w2.frozen? ⟨w.heap.size + 1 + 1, 4, none⟩ = false := frozen_of_row w2 _ 4 _ _ hr2
  have HR1 := Lib.hid hr1
  clear hr1 hr2 hr3 hrow hbel hsz hb2
  go_wp2
  refine bodyPost_ret_by (results_cell_row rfl _ _ (w.heap.size + 1) 109 _ (0, 0) _ rfl (five_set ((heap_setCell_other _ _ _ _ (by simp)).trans HR1.out)) Tryz.underlying109 rfl (by kernel_rfl)) rfl ?_
  have hk2 : ∀ b, w.heap.size + 1 + 1 < b → ∀ v1 v2 v3 v4 v5 v6, ((((((w2.setCell ⟨w.heap.size + 1 + 1, 4, none⟩ v1).setCell ⟨w.heap.size + 1, 0, none⟩ v2).setCell ⟨w.heap.size + 1, 1, none⟩ v3).setCell ⟨w.heap.size + 1, 2, none⟩ v4).setCell ⟨w.heap.size + 1, 3, none⟩ v5).setCell ⟨w.heap.size + 1, 4, none⟩ v6).heap[b]? = w2.heap[b]? := fun b hb v1 v2 v3 v4 v5 v6 => by
    rw [heap_setCell_other _ _ _ _ (by simp; omega), heap_setCell_other _ _ _ _ (by simp; omega), heap_setCell_other _ _ _ _ (by simp; omega), heap_setCell_other _ _ _ _ (by simp; omega), heap_setCell_other _ _ _ _ (by simp; omega), heap_setCell_other _ _ _ _ (by simp; omega)]
  refine ⟨⟨k, f, v, some ⟨w.heap.size + 1 + 1 + 1, 0, none⟩, Ln, Ln, ls, some ⟨w.heap.size + 1 + 1 + 1 + 1, 0, none⟩, Pn, Pn, ps⟩, rfl, rfl, HN.out, ⟨HK.out, HF.out, HV.out, ?_, ?_, ?_⟩, ?_⟩
  · exact intRow_own (World.rowIs.of_block HR3.out (hk2 _ (by omega) _ _ _ _ _ _)) (by omega) HL.out.1 HN.out.1
  · have hp0 : PairRow w2 (w.heap.size + 1 + 1 + 1 + 1) ps := by have := HRow.out; simp at this; exact this
    exact pairRow_own (World.rowIs.of_block hp0 (hk2 _ (by omega) _ _ _ _ _ _)) (by omega) HP.out.1 HN.out.2
  · intro b h1 h2
    cases h1
    have := Option.some.inj h2
    simp at this
  · exact (((((HB2.out.setCell (by show _ ≤ w.heap.size + 1 + 1; omega) _).setCell (by show _ ≤ w.heap.size + 1; omega) _).setCell (by show _ ≤ w.heap.size + 1; omega) _).setCell (by show _ ≤ w.heap.size + 1; omega) _).setCell (by show _ ≤ w.heap.size + 1; omega) _).setCell (by show _ ≤ w.heap.size + 1; omega) _
end Go.Proofs.YtceiocdemhkcdaaGreat.num
