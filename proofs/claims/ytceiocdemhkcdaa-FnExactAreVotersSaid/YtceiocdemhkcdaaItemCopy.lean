/-
  The laws' own helpers on slices of items: measure, copy, compare.
-/
import Derived.Test.YtceiocdemhkcdaaItemRow
import Derived.Deep.RegionWith
import Derived.StillTailTactics
namespace Go.Proofs.Ytceiocdemhkcdaa.num
set_option maxRecDepth 20000
open Go.RowKit

def It.dat (t : It) : Int × List Int := (t.id, t.xs)
/-- Cell j of the block of a slice of items; behind the last item: zero. -/
def itemCell (its : List It) (j : Nat) : Value :=
  match its[j / 2]? with
  | some t => if j % 2 = 0 then .int .i64 t.id else .slice t.A t.n t.c
  | none => if j % 2 = 0 then .int .i64 0 else .slice none 0 0
theorem itemCell_even {its : List It} {k : Nat} {t : It} (h : its[k]? = some t) : itemCell its (k * 2) = .int .i64 t.id := by
  unfold itemCell
  rw [Nat.mul_div_cancel _ (by decide), h]
  simp
theorem itemCell_odd {its : List It} {k : Nat} {t : It} (h : its[k]? = some t) : itemCell its (k * 2 + 1) = .slice t.A t.n t.c := by
  unfold itemCell
  rw [show (k * 2 + 1) / 2 = k by omega, h]
  simp only
  rw [if_neg (by omega)]
theorem itemCell_even0 {its : List It} {k : Nat} (h : its.length = k) : itemCell its (k * 2) = .int .i64 0 := by
  unfold itemCell
  rw [Nat.mul_div_cancel _ (by decide), List.getElem?_eq_none (by omega)]
  simp
theorem itemCell_odd0 {its : List It} {k : Nat} (h : its.length = k) : itemCell its (k * 2 + 1) = .slice none 0 0 := by
  unfold itemCell
  rw [show (k * 2 + 1) / 2 = k by omega, List.getElem?_eq_none (by omega)]
  simp only
  rw [if_neg (by omega)]
theorem itemCell_snoc {its : List It} {k : Nat} (h : its.length = k) (t : It) (j : Nat) :
    (if j = k * 2 + 1 then .slice t.A t.n t.c else if j = k * 2 then .int .i64 t.id else itemCell its j) = itemCell (its ++ [t]) j := by
  have hk : (its ++ [t])[k]? = some t := by rw [List.getElem?_append_right (by omega)]; simp [h]
  by_cases h1 : j = k * 2 + 1
  · subst h1
    rw [if_pos rfl, itemCell_odd hk]
  · by_cases h2 : j = k * 2
    · subst h2
      rw [if_neg h1, if_pos rfl, itemCell_even hk]
    · rw [if_neg h1, if_neg h2]
      have hj : j / 2 ≠ k := by omega
      unfold itemCell
      rcases Nat.lt_or_ge (j / 2) k with h3 | h3
      · rw [List.getElem?_append_left (by omega)]
      · rw [List.getElem?_eq_none (by omega), List.getElem?_eq_none (by simp; omega)]

/-- An item whose slice is a block of the call's own, behind block b. -/
def OwnIt (w : World) (b : Nat) (t : It) : Prop := ∃ bk, t.A = some ⟨bk, 0, none⟩ ∧ b < bk ∧ t.n = t.xs.length ∧ t.c = t.n ∧ IntRow w bk t.xs
theorem OwnIt.below {w w' : World} {b : Nat} {t : It} (h : OwnIt w b t) (hb : Below w.heap.size w w') : OwnIt w' b t := by
  obtain ⟨bk, h1, h2, h3, h4, h5⟩ := h
  exact ⟨bk, h1, h2, h3, h4, h5.below hb h5.lt⟩
theorem OwnIt.set {w : World} {b : Nat} {t : It} (h : OwnIt w b t) (j : Nat) (v : Value) : OwnIt (w.setCell ⟨b, j, none⟩ v) b t := by
  obtain ⟨bk, h1, h2, h3, h4, h5⟩ := h
  exact ⟨bk, h1, h2, h3, h4, World.rowIs.setOther h5 (by show bk ≠ b; omega) v⟩
/-- Block b is a row of items of the call's own, each with its own block behind b. -/
structure Fresh (w : World) (b : Nat) (its : List It) : Prop where
  row : w.rowIs b 43 (its.length * 2) (itemCell its)
  own : ∀ t ∈ its, OwnIt w b t
theorem Fresh.lt {w : World} {b : Nat} {its : List It} (h : Fresh w b its) : b < w.heap.size := World.rowIs.lt h.row
theorem Fresh.below {w w' : World} {b : Nat} {its : List It} (h : Fresh w b its) (hb : Below w.heap.size w w') : Fresh w' b its :=
  ⟨rowIs_below h.row hb h.lt, fun t ht => (h.own t ht).below hb⟩
theorem Fresh.items {w : World} {b B : Nat} {its : List It} (h : Fresh w b its) (hB : w.heap.size ≤ B) : Items w B (some ⟨b, 0, none⟩) its.length its :=
  ⟨rfl, fun k hk => by
    have hg : its[k]? = some its[k] := List.getElem?_eq_getElem hk
    have hlt := h.lt
    obtain ⟨bk, h1, _, h3, _, h5⟩ := h.own its[k] (List.getElem_mem hk)
    refine ⟨b, 0, rfl, by omega, ?_, ?_, ?_⟩
    · rw [Nat.zero_add, World.rowIs.cell h.row (by omega), itemCell_even hg]
    · rw [Nat.zero_add, World.rowIs.cell h.row (by omega), itemCell_odd hg]
    · rw [h1, h3]; exact h5.ints (by have := h5.lt; omega)⟩
/-- What is known of item k. -/
theorem Items.at {w : World} {B : Nat} {A : Option Addr} {n : Nat} {its : List It} (h : Items w B A n its) (k : Nat) (hk : k < n) :
    ∃ (b off : Nat) (t : It), A = some ⟨b, off, none⟩ ∧ b < B ∧ its[k]? = some t ∧ w.cell? ⟨b, off + k * 2, none⟩ = some (.int .i64 t.id) ∧ w.cell? ⟨b, off + k * 2 + 1, none⟩ = some (.slice t.A t.n t.c) ∧ Ints w B t.A t.n t.xs := by
  have hl := h.1
  obtain ⟨b, off, h1, h2, h3, h4, h5⟩ := h.2 k (by omega)
  exact ⟨b, off, its[k], h1, h2, List.getElem?_eq_getElem _, h3, h4, h5⟩
theorem mem_of_at {α : Type} {l : List α} {k : Nat} {t : α} (h : l[k]? = some t) : t ∈ l := List.mem_of_getElem? h
theorem take_at {α : Type} {l : List α} {k : Nat} {t : α} (h : l[k]? = some t) : l.take (k + 1) = l.take k ++ [t] := by
  rw [List.take_add_one, h]; rfl
theorem below_drewN {B : Nat} {a w : World} (h : Below B a w) (n : Nat) : Below B a (w.drewN n) := ⟨h.os, h.tape, h.output, h.size, h.block⟩
theorem take_all {α : Type} {l : List α} {n : Nat} (h : l.length = n) : l.take n = l := List.take_of_length_le (by omega)

theorem info_item : (Try.prog.info? 43).map (fun i => (i.zero, i.size, i.bytes)) = some (some (.agg #[.int .i64 0, .slice none 0 0]), 2, 32) := by kernel_rfl
theorem make_items (n : Nat) (hn : n ≤ 1048576) (w : World) :
    (Instr.makeSlice 24 (.int .i64 (n : Int)) (.int .i64 (n : Int))).run Try.prog w = .ok (.slice (some ⟨w.heap.size, 0, none⟩) n n) (w.alloc (.cells (madeCells #[.int .i64 0, .slice none 0 0] (n * 2)) 43)) := by
  obtain ⟨i, hi, hzz⟩ := Option.map_eq_some_iff.1 info_item
  simp only [Prod.mk.injEq] at hzz
  obtain ⟨hz, hs, hb⟩ := hzz
  have hr := run_make (P := Try.prog) w _ _ i _ Try.underlying24 hi hz .i64 .i64 n n (by omega) (Int.le_refl _) (by rw [hb]; omega) (by omega)
  rw [hs] at hr
  simp only [Int.toNat_natCast] at hr
  exact hr
theorem made_items (w : World) (n : Nat) : (w.alloc (.cells (madeCells #[.int .i64 0, .slice none 0 0] (n * 2)) 43)).rowIs w.heap.size 43 (n * 2) (itemCell []) :=
  ⟨_, heap_alloc_new w _, size_madeCells _ _, fun i hi => by
    have h : (madeCells #[.int .i64 0, .slice none 0 0] (n * 2))[i]? = some (#[(.int .i64 0 : Value), .slice none 0 0][i % 2]!) := by simp [madeCells, hi]
    rw [h]
    unfold itemCell
    rcases Nat.mod_two_eq_zero_or_one i with h1 | h1 <;> rw [h1] <;> rfl⟩

end Go.Proofs.Ytceiocdemhkcdaa.num
