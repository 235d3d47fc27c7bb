/-
  The model's copy of a wish: contract.
-/
import Derived.Test.YtadjoiahllekdaaSpread
import Derived.Test.YtadjoiahllekdaaWishOwn
namespace Go.Proofs.Ytadjoiahllekdaa.num
set_option maxRecDepth 20000
open Go.RowKit
set_option linter.unusedVariables false
set_option linter.unusedSimpArgs false

theorem ownP_shapeW {w : World} {B : Nat} {v : Value} {l : List (Int × Int)} (h : OwnP w B v l) : ∃ A n c, v = .slice A n c := by
  rcases h.2 with ⟨rfl, _⟩ | ⟨g, cap, cur, rfl, _⟩
  · exact ⟨_, _, _, rfl⟩
  · exact ⟨_, _, _, rfl⟩
/-- What the copy hands back. -/
theorem wishcp_end {w wb : World} {t : Wi} {LA' PA' : Option Addr} {Ln' Lc' Pn' Pc' : Nat} {u0 u1 u2 u3 u4 : Value} (hwf : ((Lit.int .i64 t.kind).wf = true ∧ (Lit.int .i64 t.field).wf = true ∧ (Lit.int .i64 t.value).wf = true) ∧ t.ls.length ≤ 1048576 ∧ t.ps.length ≤ 1048576)
    (hl : OwnI wb (w.heap.size + 2) (.slice LA' Ln' Lc') t.ls) (hp : OwnP wb (w.heap.size + 2) (.slice PA' Pn' Pc') t.ps) (ha : ∀ b, (Value.slice LA' Ln' Lc').ownBlock = some b → (Value.slice PA' Pn' Pc').ownBlock ≠ some b) (hb : Below w.heap.size w wb) :
    ∃ t' : Wi, Ending.returned (.agg #[.int .i64 t.kind, .int .i64 t.field, .int .i64 t.value, .slice LA' Ln' Lc', .slice PA' Pn' Pc']) = .returned t'.val ∧ t'.dat = t.dat ∧ t'.Short ∧ WiO (((((wb.setCell ⟨w.heap.size + 1, 0, none⟩ u0).setCell ⟨w.heap.size + 1, 1, none⟩ u1).setCell ⟨w.heap.size + 1, 2, none⟩ u2).setCell ⟨w.heap.size + 1, 3, none⟩ u3).setCell ⟨w.heap.size + 1, 4, none⟩ u4) w.heap.size t' ∧
      Below w.heap.size w (((((wb.setCell ⟨w.heap.size + 1, 0, none⟩ u0).setCell ⟨w.heap.size + 1, 1, none⟩ u1).setCell ⟨w.heap.size + 1, 2, none⟩ u2).setCell ⟨w.heap.size + 1, 3, none⟩ u3).setCell ⟨w.heap.size + 1, 4, none⟩ u4) := by
  have hk : ∀ b, w.heap.size + 2 ≤ b → (((((wb.setCell ⟨w.heap.size + 1, 0, none⟩ u0).setCell ⟨w.heap.size + 1, 1, none⟩ u1).setCell ⟨w.heap.size + 1, 2, none⟩ u2).setCell ⟨w.heap.size + 1, 3, none⟩ u3).setCell ⟨w.heap.size + 1, 4, none⟩ u4).heap[b]? = wb.heap[b]? := fun b h => by
    repeat rw [heap_setCell_other _ _ _ _ (by simp; omega)]
  have hn : Ln' = t.ls.length ∧ Pn' = t.ps.length := by
    constructor
    · rcases hl.2 with ⟨e, h⟩ | ⟨g, cap, cur, e, _⟩ <;> (injection e with e1 e2 e3 <;> omega)
    · rcases hp.2 with ⟨e, h⟩ | ⟨g, cap, cur, e, _⟩ <;> (injection e with e1 e2 e3 <;> omega)
  refine ⟨⟨t.kind, t.field, t.value, LA', Ln', Lc', t.ls, PA', Pn', Pc', t.ps⟩, rfl, rfl, ⟨by show Ln' ≤ _; rw [hn.1]; exact hwf.2.1, by show Pn' ≤ _; rw [hn.2]; exact hwf.2.2⟩, ⟨hwf.1.1, hwf.1.2.1, hwf.1.2.2, ?_, ?_, ha⟩, ?_⟩
  · exact ownI_lowE (ownI_blocks hl fun b h => hk b (ownI_lows hl b h)) (by omega)
  · exact ownP_lowE (hp.blocks fun b h => hk b (hp.lows b h)) (by omega)
  · exact ((((hb.setCell (by show _ ≤ w.heap.size + 1; omega) _).setCell (by show _ ≤ w.heap.size + 1; omega) _).setCell (by show _ ≤ w.heap.size + 1; omega) _).setCell (by show _ ≤ w.heap.size + 1; omega) _).setCell (by show _ ≤ w.heap.size + 1; omega) _

end Go.Proofs.Ytadjoiahllekdaa.num
