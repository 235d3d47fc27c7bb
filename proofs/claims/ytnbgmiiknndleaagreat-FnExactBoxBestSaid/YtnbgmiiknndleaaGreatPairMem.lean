/-
  Slices of pairs: what they read as, rows of the call's own, and the laws' own helpers that measure, copy, compare, mark them.
-/
import Derived.Test.YtnbgmiiknndleaaGreatProg
import Derived.WalkKit
import Derived.ProofKit
import Derived.Lib.Hide
import Derived.Outline
import Derived.WalkSpells
import Derived.Deep.OwnRows
import Derived.Deep.QuietTactic
import Derived.BigQuiet
import Derived.StillTailTactics
namespace Go.Proofs.YtnbgmiiknndleaaGreat.num
set_option maxRecDepth 20000
open Go.RowKit
set_option linter.unusedVariables false

/-- A slice of pairs that reads as ps, below block B. -/
def Pairs (w : World) (B : Nat) (A : Option Addr) (n : Nat) (ps : List (Int × Int)) : Prop :=
  ps.length = n ∧ ∀ k p, ps[k]? = some p → ∃ b off : Nat, A = some ⟨b, off, none⟩ ∧ b < B ∧ w.cell? ⟨b, off + k * 2, none⟩ = some (.int .i64 p.1) ∧ w.cell? ⟨b, off + k * 2 + 1, none⟩ = some (.int .i64 p.2)
theorem Pairs.below {w w' : World} {B : Nat} {A : Option Addr} {n : Nat} {ps : List (Int × Int)} (h : Pairs w B A n ps) (hb : Below B w w') : Pairs w' B A n ps :=
  ⟨h.1, fun k p hk => by
    obtain ⟨b, off, ha, hB, h1, h2⟩ := h.2 k p hk
    exact ⟨b, off, ha, hB, (hb.cell (p := ⟨b, off + k * 2, none⟩) hB).trans h1, (hb.cell (p := ⟨b, off + k * 2 + 1, none⟩) hB).trans h2⟩⟩
theorem Pairs.more {w : World} {B B' : Nat} {A : Option Addr} {n : Nat} {ps : List (Int × Int)} (h : Pairs w B A n ps) (hB : B ≤ B') : Pairs w B' A n ps :=
  ⟨h.1, fun k p hk => by
    obtain ⟨b, off, ha, hb, hc⟩ := h.2 k p hk
    exact ⟨b, off, ha, by omega, hc⟩⟩
theorem Pairs.at {w : World} {B : Nat} {A : Option Addr} {n : Nat} {ps : List (Int × Int)} (h : Pairs w B A n ps) (k : Nat) (hk : k < n) :
    ∃ (b off : Nat) (x y : Int), A = some ⟨b, off, none⟩ ∧ b < B ∧ ps[k]? = some (x, y) ∧ w.cell? ⟨b, off + k * 2, none⟩ = some (.int .i64 x) ∧ w.cell? ⟨b, off + k * 2 + 1, none⟩ = some (.int .i64 y) := by
  have hl := h.1
  have hg : ps[k]? = some (ps[k]'(by omega)) := List.getElem?_eq_getElem _
  obtain ⟨b, off, h1, h2, h3, h4⟩ := h.2 k _ hg
  exact ⟨b, off, _, _, h1, h2, hg, h3, h4⟩

/-- Cell j of the block of a slice of pairs; behind the last: zero. -/
def pairCell (ps : List (Int × Int)) (j : Nat) : Value :=
  match ps[j / 2]? with
  | some p => if j % 2 = 0 then .int .i64 p.1 else .int .i64 p.2
  | none => .int .i64 0
theorem pairCell_even {ps : List (Int × Int)} {k : Nat} {p : Int × Int} (h : ps[k]? = some p) : pairCell ps (k * 2) = .int .i64 p.1 := by
  unfold pairCell
  rw [Nat.mul_div_cancel _ (by decide), h]
  simp
theorem pairCell_odd {ps : List (Int × Int)} {k : Nat} {p : Int × Int} (h : ps[k]? = some p) : pairCell ps (k * 2 + 1) = .int .i64 p.2 := by
  unfold pairCell
  rw [show (k * 2 + 1) / 2 = k by omega, h]
  simp only
  rw [if_neg (by omega)]
theorem pairCell_none {ps : List (Int × Int)} {j : Nat} (h : ps.length ≤ j / 2) : pairCell ps j = .int .i64 0 := by
  unfold pairCell
  rw [List.getElem?_eq_none h]
theorem pairCell_snoc {ps : List (Int × Int)} {k : Nat} (h : ps.length = k) (p : Int × Int) (j : Nat) :
    (if j = k * 2 + 1 then .int .i64 p.2 else if j = k * 2 then .int .i64 p.1 else pairCell ps j) = pairCell (ps ++ [p]) j := by
  have hk : (ps ++ [p])[k]? = some p := by rw [List.getElem?_append_right (by omega)]; simp [h]
  by_cases h1 : j = k * 2 + 1
  · subst h1
    rw [if_pos rfl, pairCell_odd hk]
  · by_cases h2 : j = k * 2
    · subst h2
      rw [if_neg h1, if_pos rfl, pairCell_even hk]
    · rw [if_neg h1, if_neg h2]
      have hj : j / 2 ≠ k := by omega
      unfold pairCell
      rcases Nat.lt_or_ge (j / 2) k with h3 | h3
      · rw [List.getElem?_append_left (by omega)]
      · rw [List.getElem?_eq_none (by omega), List.getElem?_eq_none (by simp; omega)]
/-- Block b is a row of pairs of the call's own. -/
def PairRow (w : World) (b : Nat) (ps : List (Int × Int)) : Prop := w.rowIs b 144 (ps.length * 2) (pairCell ps)
theorem PairRow.lt {w : World} {b : Nat} {ps : List (Int × Int)} (h : PairRow w b ps) : b < w.heap.size := World.rowIs.lt h
theorem PairRow.below {w w' : World} {b B : Nat} {ps : List (Int × Int)} (h : PairRow w b ps) (hb : Below B w w') (hB : b < B) : PairRow w' b ps := World.rowIs.of_block h (hb.block b hB)
theorem PairRow.pairs {w : World} {b B : Nat} {ps : List (Int × Int)} (h : PairRow w b ps) (hB : b < B) : Pairs w B (some ⟨b, 0, none⟩) ps.length ps :=
  ⟨rfl, fun k p hk => by
    have hlt : k < ps.length := by
      rcases Nat.lt_or_ge k ps.length with h' | h'
      · exact h'
      · rw [List.getElem?_eq_none h'] at hk; cases hk
    refine ⟨b, 0, rfl, hB, ?_, ?_⟩
    · rw [Nat.zero_add, World.rowIs.cell h (by omega), pairCell_even hk]
    · rw [Nat.zero_add, World.rowIs.cell h (by omega), pairCell_odd hk]⟩
theorem ptake_at {α : Type} {l : List α} {k : Nat} {t : α} (h : l[k]? = some t) : l.take (k + 1) = l.take k ++ [t] := by
  rw [List.take_add_one, h]; rfl
theorem ptake_all {α : Type} {l : List α} {n : Nat} (h : l.length = n) : l.take n = l := List.take_of_length_le (by omega)
theorem info_pair : (Tryz.prog.info? 144).map (fun i => (i.zero, i.size, i.bytes)) = some (some (.agg #[.int .i64 0, .int .i64 0]), 2, 16) := by kernel_rfl
theorem make_pairs (n : Nat) (hn : n ≤ 1048576) (w : World) :
    (Instr.makeSlice 78 (.int .i64 (n : Int)) (.int .i64 (n : Int))).run Tryz.prog w = .ok (.slice (some ⟨w.heap.size, 0, none⟩) n n) (w.alloc (.cells (madeCells #[.int .i64 0, .int .i64 0] (n * 2)) 144)) := by
  obtain ⟨i, hi, hzz⟩ := Option.map_eq_some_iff.1 info_pair
  simp only [Prod.mk.injEq] at hzz
  obtain ⟨hz, hs, hb⟩ := hzz
  have hr := run_make (P := Tryz.prog) w _ _ i _ Tryz.underlying78 hi hz .i64 .i64 n n (by omega) (Int.le_refl _) (by rw [hb]; omega) (by omega)
  rw [hs] at hr
  simp only [Int.toNat_natCast] at hr
  exact hr
theorem made_pairs (w : World) (n : Nat) : (w.alloc (.cells (madeCells #[.int .i64 0, .int .i64 0] (n * 2)) 144)).rowIs w.heap.size 144 (n * 2) (pairCell []) :=
  ⟨_, heap_alloc_new w _, size_madeCells _ _, fun i hi => by
    have h : (madeCells #[.int .i64 0, .int .i64 0] (n * 2))[i]? = some (#[(.int .i64 0 : Value), .int .i64 0][i % 2]!) := by simp [madeCells, hi]
    rw [h]
    unfold pairCell
    rcases Nat.mod_two_eq_zero_or_one i with h1 | h1 <;> rw [h1] <;> rfl⟩

theorem pheap_mid (w : World) (o1 o2 o3 : Obj) : (((w.alloc o1).alloc o2).alloc o3).heap[w.heap.size + 1]? = some o2 := by
  rw [Below.heap_alloc _ _ _ (by simp)]
  exact heap_alloc2_new w o1 o2
end Go.Proofs.YtnbgmiiknndleaaGreat.num
