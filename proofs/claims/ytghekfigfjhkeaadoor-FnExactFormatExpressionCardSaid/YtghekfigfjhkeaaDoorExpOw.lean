/-
  The program's list of the operators' words: what the variable holds.
-/
import Derived.Test.YtghekfigfjhkeaaDoorWishKw
import Derived.Deep.Strs
import Derived.LaidLaws
namespace Go.Proofs.YtghekfigfjhkeaaDoor.num
open Go.RowKit Go.ChangeShapes Go.WideShapes Go.Deep
set_option linter.unusedVariables false

/-- The five words. -/
def owT : List (List UInt8) := [[], [97, 110, 100], [116, 104, 101, 110], [110, 111, 116], [98, 111, 116, 104]]
def owB (i : Nat) : ByteArray := ⟨(owT.getD i []).toArray⟩
theorem gOw : Tryd.prog.globalNamed "loop.example/g01987/impl.opWords" = some 0 := by kernel_rfl
theorem gOwType : (Tryd.prog.globals[0]?).map (·.type) = some 71 := by kernel_rfl
/-- The variable holds them. -/
def Ow (w : World) : Prop := ∃ (b off c : Nat), w.cell? ⟨0, 0, none⟩ = some (.slice (some ⟨b, off, none⟩) 5 c) ∧ 0 < w.heap.size ∧ b < w.heap.size ∧ ∀ i, i < 5 → w.cell? ⟨b, off + i, none⟩ = some (.string (owB i))
theorem Ow.below {w w' : World} (h : Ow w) (hb : Below w.heap.size w w') : Ow w' := by
  obtain ⟨b, off, c, h1, h2, h3, h4⟩ := h
  exact ⟨b, off, c, (hb.cell (p := ⟨0, 0, none⟩) h2).trans h1, Nat.lt_of_lt_of_le h2 hb.size, Nat.lt_of_lt_of_le h3 hb.size, fun i hi => (hb.cell (p := ⟨b, off + i, none⟩) h3).trans (h4 i hi)⟩
theorem ow_of {W : World} {rest : List (String × DataW Unit)} (h : laidMet Tryd.prog (("loop.example/g01987/impl.opWords", .slice (owT.map fun l => .lit (.string l)) []) :: rest) W) : Ow W := by
  obtain ⟨ps, ⟨g', t', cs, fuel, p, q, hg', ht', hvar, hd, _, _⟩, _⟩ := h
  obtain rfl := Option.some.inj (gOw.symm.trans hg')
  obtain rfl := Option.some.inj (gOwType.symm.trans ht')
  rcases open_strs Tryd.underlying71 Tryd.underlying9 cellsStr hd with ⟨hc, hx⟩ | ⟨a, len, cap, m, Sx, hc, _, hl, hm, hmm, hx, hcell⟩
  · simp at hx
  · simp only [Prod.mk.injEq, DataW.slice.injEq] at hx
    obtain ⟨⟨e1, e2⟩, _⟩ := hx
    have hlen : len = 5 := by
      have := congrArg List.length e1
      simpa [owT] using this.symm
    subst hlen
    have hS : ∀ i, i < 5 → Sx i = owB i := fun i hi => by
      have h1 := congrArg (fun l => l[i]?) e1
      simp only [List.getElem?_map, List.getElem?_range hi, Option.map_some] at h1
      have h2 : owT[i]? = some (owT.getD i []) := by
        rw [List.getD_eq_getElem?_getD, List.getElem?_eq_getElem (by simpa [owT] using hi)]; rfl
      rw [h2] at h1
      simp only [Option.map_some, Option.some.injEq, DataW.lit.injEq, Lit.string.injEq] at h1
      apply bytes_ext
      unfold owB
      simpa using h1.symm
    have hm5 : 5 ≤ m := by rw [hmm]; split <;> omega
    obtain ⟨b, off, rfl, hb, h0⟩ := add_flat (hcell 0 (by omega)).1 (hcell 0 (by omega)).1
    have hg0 : W.cell? ⟨0, 0, none⟩ = some (.slice (some ⟨b, off, none⟩) 5 cap) := by
      rw [World.var?_cell gOw hvar 0]
      have : cs = #[.slice (some ⟨b, off, none⟩) 5 cap] := by
        apply Array.ext'
        simpa using hc
      rw [this]; rfl
    refine ⟨b, off, cap, hg0, World.block_lt_of_cell? W _ hg0, hb, fun i hi => ?_⟩
    obtain ⟨b', off', e, _, h1⟩ := add_flat (hcell 0 (by omega)).1 (hcell i (by omega)).1
    injection e with e3 e4
    subst e3 e4
    rw [h1, hS i hi]
end Go.Proofs.YtghekfigfjhkeaaDoor.num
