/-
  ParseItem, the program's: contract.
-/
import Derived.Test.YtghekfigfjhkeabDoorPieceMath
import Derived.Test.YtghekfigfjhkeabDoorParseI
namespace Go.Proofs.YtghekfigfjhkeabDoor.num
open Go.RowKit
set_option linter.unusedVariables false

/-- The library's variable MaxLen holds some int. -/
def Mx (w : World) : Prop := ∃ m, w.cell? ⟨1, 0, none⟩ = some (.int .i64 m)
theorem Mx.below {w w' : World} (h : Mx w) (hb : Below w.heap.size w w') : Mx w' := by
  obtain ⟨m, hm⟩ := h
  exact ⟨m, (hb.cell (p := ⟨1, 0, none⟩) (World.block_lt_of_cell? w _ hm)).trans hm⟩
theorem piece_le {c : UInt8} {l p : List UInt8} (h : p ∈ pieces c l) : p.length ≤ l.length := by
  have h1 := pieces_len c l
  obtain ⟨x, t, e⟩ := pieces_ne c l
  have h2 : ∀ (L : List (List UInt8)), p ∈ L → p.length ≤ (L.map List.length).sum := by
    intro L
    induction L with
    | nil => intro h; cases h
    | cons a L ih =>
      intro h
      simp only [List.map_cons, List.sum_cons]
      rcases List.mem_cons.1 h with rfl | h
      · omega
      · have := ih h; omega
  have h3 := h2 _ h
  rw [e] at h1 h3
  simp only [List.length_cons] at h1
  omega
theorem pieces_count (c : UInt8) (l : List UInt8) : (pieces c l).length ≤ l.length + 1 := by have := pieces_len c l; omega

theorem split_c (s : ByteArray) (hs : s.size ≤ 1048576) (w : World) (hm : Mx w) :
    Calls Tryd.prog 37 #[.string s, .string ⟨#[44]⟩] w fun e w' => ∃ ps : List ByteArray, ps.map (·.data.toList) = pieces 44 s.data.toList ∧ e = .returned (.slice (some ⟨w.heap.size, 0, none⟩) ps.length ps.length) ∧ w.alloc (.cells (ps.map Value.string).toArray 9) = w' := by
  obtain ⟨m, hm⟩ := hm
  refine (Tryd.strings_Split s ⟨#[44]⟩ m w (by omega) hm (by decide)).mono fun e w' ⟨he, hw⟩ => ?_
  refine ⟨Lib.splitB ⟨#[44]⟩ 0 (Lib.countB s ⟨#[44]⟩) s, splitB_pieces 44 s, ?_, hw.symm⟩
  rw [he, Lib.splitB_all ⟨#[44]⟩ (by decide) 0 _ s rfl]

theorem str_at {ps : List ByteArray} {L : List (List UInt8)} (h : ps.map (·.data.toList) = L) {k : Nat} (hk : k < ps.length) : ∃ p, ps[k]? = some p ∧ L[k]? = some p.data.toList := by
  refine ⟨ps[k], List.getElem?_eq_getElem hk, ?_⟩
  rw [← h, List.getElem?_map, List.getElem?_eq_getElem hk]; rfl
theorem int_step {L : List (List UInt8)} {k n : Nat} {p : List UInt8} (hp : L[k]? = some p) (j : Nat) :
    (if j = k then (Value.int .i64 (pVal p)) else if j < k then .int .i64 ((L.map pVal).getD j 0) else .int .i64 0) = (if j < k + 1 then Value.int .i64 ((L.map pVal).getD j 0) else .int .i64 0) := by
  by_cases h1 : j = k
  · subst h1
    rw [if_pos rfl, if_pos (by omega)]
    simp [List.getD_eq_getElem?_getD, hp]
  · by_cases h2 : j < k
    · rw [if_neg h1, if_pos h2, if_pos (by omega)]
    · rw [if_neg h1, if_neg h2, if_neg (by omega)]

/-- What splitInts hands back. -/
def Vals (w : World) (B : Nat) (L : List (List UInt8)) (v : Value) (ok : Bool) : Prop :=
  (ok = false ∧ allOk L = false ∧ v = .slice none 0 0) ∨ (ok = true ∧ allOk L = true ∧ ∃ b, v = .slice (some ⟨b, 0, none⟩) L.length L.length ∧ B ≤ b ∧ IntRow w b (L.map pVal))

/-- Two cells. -/
def Box2g (w : World) (g : Nat) (u v : Value) : Prop := w.cell? ⟨g, 0, none⟩ = some u ∧ w.cell? ⟨g, 1, none⟩ = some v
/-- What ParseItem hands back: t's slice is nothing, or a block of the call's own. -/
def Made (w : World) (B : Nat) (t : It) (ok : Bool) : Prop := (ok = false ∧ t = ⟨0, none, 0, 0, []⟩) ∨ (ok = true ∧ ∃ b, t.A = some ⟨b, 0, none⟩ ∧ t.n = 3 ∧ t.xs.length = 3 ∧ B ≤ b ∧ IntRow w b t.xs)
theorem two_set {w : World} {g : Nat} {t : TypeId} {u0 u1 v0 v1 : Value} (h : w.heap[g]? = some (.cells #[u0, u1] t (0, 0))) :
    ((w.setCell ⟨g, 0, none⟩ v0).setCell ⟨g, 1, none⟩ v1).heap[g]? = some (.cells #[v0, v1] t (0, 0)) := by
  have h := heap_setCell_same _ g 1 _ _ v1 (heap_setCell_same w g 0 _ _ v0 h)
  simpa using h
theorem set_alloc {w : World} {g : Nat} {t : TypeId} {u0 u1 v0 v1 : Value} (h : w.heap[g]? = some (.cells #[u0, u1] t (0, 0))) (o : Obj) :
    (((w.setCell ⟨g, 0, none⟩ v0).setCell ⟨g, 1, none⟩ v1).alloc o).heap[g]? = some (.cells #[v0, v1] t (0, 0)) :=
  (Below.heap_alloc _ _ _ (lt_of_block (two_set h))).trans (two_set h)
theorem size_list (s : ByteArray) : s.data.toList.length = s.size := by rw [Array.length_toList]; rfl
theorem size_mk (l : List UInt8) : (⟨l.toArray⟩ : ByteArray).size = l.length := by simp [ByteArray.size]
theorem cut_le (c : UInt8) : ∀ l : List UInt8, (Lib.cut l [c]).1.length ≤ l.length ∧ (Lib.cut l [c]).2.1.length ≤ l.length
  | [] => by simp [Lib.cut, Lib.index]
  | b :: l => by
    have ih := cut_le c l
    rw [cut_cons]
    split
    · simp
    · split
      · simp only [List.length_cons]; omega
      · simp

end Go.Proofs.YtghekfigfjhkeabDoor.num
