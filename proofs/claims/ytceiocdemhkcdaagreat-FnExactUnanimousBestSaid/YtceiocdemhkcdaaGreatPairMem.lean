/-
  Slices of pairs: what they read as, rows of the call's own, and the laws' own helpers that measure, copy, compare, mark them.
-/
import Derived.Test.YtceiocdemhkcdaaGreatProg
import Derived.WalkKit
import Derived.ProofKit
import Derived.Lib.Hide
import Derived.Outline
import Derived.WalkSpells
import Derived.Deep.OwnRows
import Derived.Deep.QuietTactic
import Derived.BigQuiet
import Derived.StillTailTactics
namespace Go.Proofs.YtceiocdemhkcdaaGreat.num
set_option maxRecDepth 20000
open Go.RowKit
set_option linter.unusedVariables false

/-- A slice of pairs that reads as ps, below block B. -/
def Pairs (w : World) (B : Nat) (A : Option Addr) (n : Nat) (ps : List (Int × Int)) : Prop :=
  ps.length = n ∧ ∀ k p, ps[k]? = some p → ∃ b off : Nat, A = some ⟨b, off, none⟩ ∧ b < B ∧ w.cell? ⟨b, off + k * 2, none⟩ = some (.int .i64 p.1) ∧ w.cell? ⟨b, off + k * 2 + 1, none⟩ = some (.int .i64 p.2)
theorem Pairs.below {w w' : World} {B : Nat} {A : Option Addr} {n : Nat} {ps : List (Int × Int)} (h : Pairs w B A n ps) (hb : Below B w w') : Pairs w' B A n ps :=
  ⟨h.1, fun k p hk => by
    obtain ⟨b, off, ha, hB, h1, h2⟩ := h.2 k p hk
    exact ⟨b, off, ha, hB, (hb.cell (p := ⟨b, off + k * 2, none⟩) hB).trans h1, (hb.cell (p := ⟨b, off + k * 2 + 1, none⟩) hB).trans h2⟩⟩
theorem Pairs.more {w : World} {B B' : Nat} {A : Option Addr} {n : Nat} {ps : List (Int × Int)} (h : Pairs w B A n ps) (hB : B ≤ B') : Pairs w B' A n ps :=
  ⟨h.1, fun k p hk => by
    obtain ⟨b, off, ha, hb, hc⟩ := h.2 k p hk
    exact ⟨b, off, ha, by omega, hc⟩⟩
theorem Pairs.at {w : World} {B : Nat} {A : Option Addr} {n : Nat} {ps : List (Int × Int)} (h : Pairs w B A n ps) (k : Nat) (hk : k < n) :
    ∃ (b off : Nat) (x y : Int), A = some ⟨b, off, none⟩ ∧ b < B ∧ ps[k]? = some (x, y) ∧ w.cell? ⟨b, off + k * 2, none⟩ = some (.int .i64 x) ∧ w.cell? ⟨b, off + k * 2 + 1, none⟩ = some (.int .i64 y) := by
  have hl := h.1
  have hg : ps[k]? = some (ps[k]'(by omega)) := List.getElem?_eq_getElem _
  obtain ⟨b, off, h1, h2, h3, h4⟩ := h.2 k _ hg
  exact ⟨b, off, _, _, h1, h2, hg, h3, h4⟩

/-- Cell j of the block of a slice of pairs; behind the last: zero. -/
def pairCell (ps : List (Int × Int)) (j : Nat) : Value :=
  match ps[j / 2]? with
  | some p => if j % 2 = 0 then .int .i64 p.1 else .int .i64 p.2
  | none => .int .i64 0
theorem pairCell_even {ps : List (Int × Int)} {k : Nat} {p : Int × Int} (h : ps[k]? = some p) : pairCell ps (k * 2) = .int .i64 p.1 := by
  unfold pairCell
  rw [Nat.mul_div_cancel _ (by decide), h]
  simp
theorem pairCell_odd {ps : List (Int × Int)} {k : Nat} {p : Int × Int} (h : ps[k]? = some p) : pairCell ps (k * 2 + 1) = .int .i64 p.2 := by
  unfold pairCell
  rw [show (k * 2 + 1) / 2 = k by omega, h]
  simp only
  rw [if_neg (by omega)]
theorem pairCell_none {ps : List (Int × Int)} {j : Nat} (h : ps.length ≤ j / 2) : pairCell ps j = .int .i64 0 := by
  unfold pairCell
  rw [List.getElem?_eq_none h]
theorem pairCell_snoc {ps : List (Int × Int)} {k : Nat} (h : ps.length = k) (p : Int × Int) (j : Nat) :
    (if j = k * 2 + 1 then .int .i64 p.2 else if j = k * 2 then .int .i64 p.1 else pairCell ps j) = pairCell (ps ++ [p]) j := by
  have hk : (ps ++ [p])[k]? = some p := by rw [List.getElem?_append_right (by omega)]; simp [h]
  by_cases h1 : j = k * 2 + 1
  · subst h1
    rw [if_pos rfl, pairCell_odd hk]
  · by_cases h2 : j = k * 2
    · subst h2
      rw [if_neg h1, if_pos rfl, pairCell_even hk]
    · rw [if_neg h1, if_neg h2]
      have hj : j / 2 ≠ k := by omega
      unfold pairCell
      rcases Nat.lt_or_ge (j / 2) k with h3 | h3
      · rw [List.getElem?_append_left (by omega)]
      · rw [List.getElem?_eq_none (by omega), List.getElem?_eq_none (by simp; omega)]
/-- Block b is a row of pairs of the call's own. -/
def PairRow (w : World) (b : Nat) (ps : List (Int × Int)) : Prop := w.rowIs b 181 (ps.length * 2) (pairCell ps)
theorem PairRow.lt {w : World} {b : Nat} {ps : List (Int × Int)} (h : PairRow w b ps) : b < w.heap.size := World.rowIs.lt h
theorem PairRow.below {w w' : World} {b B : Nat} {ps : List (Int × Int)} (h : PairRow w b ps) (hb : Below B w w') (hB : b < B) : PairRow w' b ps := World.rowIs.of_block h (hb.block b hB)
theorem PairRow.pairs {w : World} {b B : Nat} {ps : List (Int × Int)} (h : PairRow w b ps) (hB : b < B) : Pairs w B (some ⟨b, 0, none⟩) ps.length ps :=
  ⟨rfl, fun k p hk => by
    have hlt : k < ps.length := by
      rcases Nat.lt_or_ge k ps.length with h' | h'
      · exact h'
      · rw [List.getElem?_eq_none h'] at hk; cases hk
    refine ⟨b, 0, rfl, hB, ?_, ?_⟩
    · rw [Nat.zero_add, World.rowIs.cell h (by omega), pairCell_even hk]
    · rw [Nat.zero_add, World.rowIs.cell h (by omega), pairCell_odd hk]⟩
theorem ptake_at {α : Type} {l : List α} {k : Nat} {t : α} (h : l[k]? = some t) : l.take (k + 1) = l.take k ++ [t] := by
  rw [List.take_add_one, h]; rfl
theorem ptake_all {α : Type} {l : List α} {n : Nat} (h : l.length = n) : l.take n = l := List.take_of_length_le (by omega)
theorem info_pair : (Tryz.prog.info? 181).map (fun i => (i.zero, i.size, i.bytes)) = some (some (.agg #[.int .i64 0, .int .i64 0]), 2, 16) := by kernel_rfl
theorem make_pairs (n : Nat) (hn : n ≤ 1048576) (w : World) :
    (Instr.makeSlice 107 (.int .i64 (n : Int)) (.int .i64 (n : Int))).run Tryz.prog w = .ok (.slice (some ⟨w.heap.size, 0, none⟩) n n) (w.alloc (.cells (madeCells #[.int .i64 0, .int .i64 0] (n * 2)) 181)) := by
  obtain ⟨i, hi, hzz⟩ := Option.map_eq_some_iff.1 info_pair
  simp only [Prod.mk.injEq] at hzz
  obtain ⟨hz, hs, hb⟩ := hzz
  have hr := run_make (P := Tryz.prog) w _ _ i _ Tryz.underlying107 hi hz .i64 .i64 n n (by omega) (Int.le_refl _) (by rw [hb]; omega) (by omega)
  rw [hs] at hr
  simp only [Int.toNat_natCast] at hr
  exact hr
theorem made_pairs (w : World) (n : Nat) : (w.alloc (.cells (madeCells #[.int .i64 0, .int .i64 0] (n * 2)) 181)).rowIs w.heap.size 181 (n * 2) (pairCell []) :=
  ⟨_, heap_alloc_new w _, size_madeCells _ _, fun i hi => by
    have h : (madeCells #[.int .i64 0, .int .i64 0] (n * 2))[i]? = some (#[(.int .i64 0 : Value), .int .i64 0][i % 2]!) := by simp [madeCells, hi]
    rw [h]
    unfold pairCell
    rcases Nat.mod_two_eq_zero_or_one i with h1 | h1 <;> rw [h1] <;> rfl⟩

theorem szPairs (A : Option Addr) (n c : Nat) (left : Int) (hn : n ≤ 9223372036854775807) (h0 : 0 ≤ left) (h1 : left ≤ 1048576) (w : World) :
    Calls Tryz.prog 174 #[.slice A n c, .int .i64 left] w fun e w' => (∃ r : Int, e = .returned (.int .i64 r) ∧ (r = -1 ∨ (0 ≤ r ∧ r ≤ left ∧ (n : Int) ≤ left))) ∧ w = w' := by
  by_cases hle : (n : Int) ≤ left
  · go_enter Tryz.func174, Tryz.ntmps174
    go_wp2
    go_ret
    exact ⟨⟨_, rfl, .inr ⟨by omega, by omega, hle⟩⟩, rfl⟩
  · go_enter Tryz.func174, Tryz.ntmps174
    go_wp2
    go_ret
    exact ⟨⟨_, rfl, .inl rfl⟩, rfl⟩
theorem pheap_mid (w : World) (o1 o2 o3 : Obj) : (((w.alloc o1).alloc o2).alloc o3).heap[w.heap.size + 1]? = some o2 := by
  rw [Below.heap_alloc _ _ _ (by simp)]
  exact heap_alloc2_new w o1 o2
theorem toPair_c (w : World) (x y : Int) :
    Calls Tryz.prog 200 #[.agg #[.int .i64 x, .int .i64 y]] w fun e w' => e = .returned (.agg #[.int .i64 x, .int .i64 y]) ∧ Below w.heap.size w w' := by
  go_enter Tryz.func200, Tryz.ntmps200
  go_wp2
  refine bodyPost_ret_by (results_cell_row rfl _ _ (w.heap.size + 1) 181 _ (0, 0) _ rfl (pheap_mid _ _ _ _) Tryz.underlying181 rfl (by kernel_rfl)) rfl ?_
  exact ⟨rfl, (((Below.refl _ w).alloc (Nat.le_refl _) _).alloc (by simp) _).alloc (by simp; omega) _⟩
theorem toPairs (w : World) (B : Nat) (A : Option Addr) (n c : Nat) (ps : List (Int × Int)) (hi : Pairs w B A n ps) (hB : B ≤ w.heap.size) (hn : n ≤ 1048576) :
    Calls Tryz.prog 175 #[.slice A n c] w fun e w' => e = .returned (.slice (some ⟨w.heap.size, 0, none⟩) n n) ∧ PairRow w' w.heap.size ps ∧ Below w.heap.size w w' := by
  have HX := Lib.hid hi
  have hmk := make_pairs n hn
  clear hi
  go_enter Tryz.func175, Tryz.ntmps175
  go_wp2
  clear hmk
  go_loopw [4] (fun i wr => ∃ k : Nat, k ≤ n ∧ i = .int .i64 k ∧ wr.rowIs w.heap.size 181 (n * 2) (pairCell (ps.take k)) ∧ Below w.heap.size w wr) (fun i _ => n - (intOf i).toNat)
  case atStart => exact ⟨0, Nat.zero_le _, rfl, made_pairs w n, (Below.refl _ _).alloc (Nat.le_refl _) _⟩
  case round =>
    obtain ⟨k, hk, rfl, hrow, hbel⟩ := hrel
    have HR := Lib.hid hrow
    have HB := Lib.hid hbel
    by_cases hlt : k < n
    · obtain ⟨b, off, x, y, rfl, hb, hat, hc1, hc2⟩ := HX.out.at k hlt
      have g1 := (hbel.cell (p := ⟨b, off + k * 2, none⟩) (by exact Nat.lt_of_lt_of_le hb hB)).trans hc1
      have g2 := (hbel.cell (p := ⟨b, off + k * 2 + 1, none⟩) (by exact Nat.lt_of_lt_of_le hb hB)).trans hc2
      have HT := Lib.hid hat
      have hlk : Hid ((ps.take k).length = k) := Lib.hid (by rw [List.length_take, HX.out.1]; omega)
      clear hat hc1 hc2 hbel hrow
      go_wp2_with fail
      refine (toPair_c wr x y).mono ?_
      rintro e w1 ⟨rfl, hb1⟩
      have hrow1 := World.rowIs.of_block HR.out (hb1.block _ (World.rowIs.lt HR.out))
      have q1 : w1.cell? ⟨w.heap.size, k * 2, none⟩ = some (.int .i64 0) := by rw [World.rowIs.cell hrow1 (by omega), pairCell_none (by rw [hlk.out]; omega)]
      have q2 : w1.cell? ⟨w.heap.size, k * 2 + 1, none⟩ = some (.int .i64 0) := by rw [World.rowIs.cell hrow1 (by omega), pairCell_none (by rw [hlk.out]; omega)]
      have q3 := World.rowIs.frozen hrow1 (k * 2)
      have q4 := World.rowIs.frozen hrow1 (k * 2 + 1)
      have HR1 := Lib.hid hrow1
      have HB1 := Lib.hid (HB.out.trans (hb1.mono HB.out.size))
      clear hrow1 hb1 g1 g2
      go_wp2
      go_roundw
      case rel =>
        refine ⟨k + 1, by omega, by go_num, ?_, (HB1.out.setCell (Nat.le_refl _) _).setCell (Nat.le_refl _) _⟩
        rw [ptake_at HT.out]
        exact (World.rowIs.set (World.rowIs.set HR1.out (k * 2) (.int .i64 x)) (k * 2 + 1) (.int .i64 y)).congr (fun j _ => pairCell_snoc hlk.out (x, y) j)
      case measure => simp [intOf]; omega
    · obtain rfl : k = n := by omega
      clear hrow hbel
      go_wp2
      go_ret
      refine ⟨rfl, ?_, HB.out⟩
      have h := HR.out
      rw [ptake_all HX.out.1] at h
      unfold PairRow
      rw [HX.out.1]; exact h
end Go.Proofs.YtceiocdemhkcdaaGreat.num
