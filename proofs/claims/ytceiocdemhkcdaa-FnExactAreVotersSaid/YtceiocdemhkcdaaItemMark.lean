/-
  The laws' own marks: markIntS, heldIntS, markItemS.
-/
import Derived.Test.YtceiocdemhkcdaaItemEq
namespace Go.Proofs.Ytceiocdemhkcdaa.num
set_option maxRecDepth 20000
open Go.RowKit

/-- Every block but b, and every block from the end on, is as it was. -/
def marks (k : Nat) (n : Nat) : List Int := (List.range n).map fun j => ((k + j : Nat) : Int)
theorem marks_len (k n : Nat) : (marks k n).length = n := by simp [marks]
theorem marks_get {k n j : Nat} (h : j < n) : (marks k n).getD j 0 = ((k + j : Nat) : Int) := by
  rw [List.getD_eq_getElem?_getD]
  simp [marks, h]
/-- w' is w but for block b. -/
structure Only (b : Nat) (w w' : World) : Prop where
  os : w'.os = w.os
  tape : w'.tape = w.tape
  output : w'.output = w.output
  size : w'.heap.size = w.heap.size
  block : ∀ k, k ≠ b → w'.heap[k]? = w.heap[k]?
theorem Only.refl (b : Nat) (w : World) : Only b w w := ⟨rfl, rfl, rfl, rfl, fun _ _ => rfl⟩
theorem Only.set {b : Nat} {w w' : World} (h : Only b w w') (j : Nat) (v : Value) : Only b w (w'.setCell ⟨b, j, none⟩ v) :=
  ⟨h.os, h.tape, h.output, by simpa [World.setCell] using h.size, fun k hk => (Below.heap_setCell w' ⟨b, j, none⟩ v k hk).trans (h.block k hk)⟩
theorem Only.below {b B : Nat} {w w' : World} (h : Only b w w') (hB : B ≤ b) : Below B w w' :=
  ⟨h.os, h.tape, h.output, by rw [h.size]; exact Nat.le_refl _, fun k hk => h.block k (by omega)⟩

/-- Below bx and from S on as it was. -/
structure Mid (bx S : Nat) (w w' : World) : Prop where
  os : w'.os = w.os
  tape : w'.tape = w.tape
  output : w'.output = w.output
  size : w'.heap.size = w.heap.size
  block : ∀ k, k < bx ∨ S ≤ k → w'.heap[k]? = w.heap[k]?
theorem Mid.refl (bx S : Nat) (w : World) : Mid bx S w w := ⟨rfl, rfl, rfl, rfl, fun _ _ => rfl⟩
theorem Mid.only {bx S b : Nat} {w w' w'' : World} (h : Mid bx S w w') (g : Only b w' w'') (h1 : bx ≤ b) (h2 : b < S) : Mid bx S w w'' :=
  ⟨g.os.trans h.os, g.tape.trans h.tape, g.output.trans h.output, g.size.trans h.size, fun k hk => (g.block k (by omega)).trans (h.block k hk)⟩
theorem Mid.below {bx S : Nat} {w w' : World} (h : Mid bx S w w') : Below bx w w' :=
  ⟨h.os, h.tape, h.output, by rw [h.size]; exact Nat.le_refl _, fun k hk => h.block k (.inl hk)⟩
/-- A row of ints behind a call that marked one. -/
def Slot (w : World) (bx S : Nat) (t : It) : Prop := ∃ bk ys, t.A = some ⟨bk, 0, none⟩ ∧ bx < bk ∧ bk < S ∧ ys.length = t.n ∧ IntRow w bk ys
theorem row_len {w : World} {b n m : Nat} {t s : TypeId} {f g : Nat → Value} (h : w.rowIs b t n f) (k : w.rowIs b s m g) : n = m := by
  obtain ⟨c, h1, h2, _⟩ := h
  obtain ⟨d, k1, k2, _⟩ := k
  rw [h1] at k1
  injection k1 with k1
  injection k1 with k1
  rw [← h2, ← k2, k1]
theorem Slot.only {w w' : World} {bx S b k0 n : Nat} {t : It} {xs : List Int} (h : Slot w bx S t) (h0 : IntRow w b xs) (hl : xs.length = n) (h1 : IntRow w' b (marks k0 n)) (g : Only b w w') : Slot w' bx S t := by
  obtain ⟨bk, ys, a1, a2, a3, a4, a5⟩ := h
  by_cases e : bk = b
  · subst e
    have := row_len a5 h0
    exact ⟨bk, marks k0 n, a1, a2, a3, by rw [marks_len]; omega, h1⟩
  · exact ⟨bk, ys, a1, a2, a3, a4, World.rowIs.of_block a5 (g.block bk e)⟩
theorem Slot.set {w : World} {bx S : Nat} {t : It} (h : Slot w bx S t) (j : Nat) (v : Value) : Slot (w.setCell ⟨bx, j, none⟩ v) bx S t := by
  obtain ⟨bk, ys, a1, a2, a3, a4, a5⟩ := h
  exact ⟨bk, ys, a1, a2, a3, a4, World.rowIs.setOther a5 (by show bk ≠ bx; omega) v⟩
/-- What stays of the row of items while it is marked. -/
def MarkRow (w : World) (bx n : Nat) (its : List It) : Prop := ∃ f, w.rowIs bx 43 (n * 2) f ∧ ∀ j t, its[j]? = some t → f (j * 2 + 1) = .slice t.A t.n t.c ∧ ∃ z, f (j * 2) = .int .i64 z
theorem MarkRow.set {w : World} {bx n k : Nat} {its : List It} (h : MarkRow w bx n its) (z : Int) : MarkRow (w.setCell ⟨bx, k * 2, none⟩ (.int .i64 z)) bx n its := by
  obtain ⟨f, h1, h2⟩ := h
  refine ⟨_, World.rowIs.set h1 _ _, fun j t ht => ?_⟩
  obtain ⟨a, z', b⟩ := h2 j t ht
  refine ⟨by rw [if_neg (by omega)]; exact a, ?_⟩
  by_cases e : j = k
  · exact ⟨z, by rw [if_pos (by omega)]⟩
  · exact ⟨z', by rw [if_neg (by omega)]; exact b⟩
theorem MarkRow.only {w w' : World} {bx n b : Nat} {its : List It} (h : MarkRow w bx n its) (g : Only b w w') (hb : bx ≠ b) : MarkRow w' bx n its := by
  obtain ⟨f, h1, h2⟩ := h
  exact ⟨f, World.rowIs.of_block h1 (g.block bx hb), h2⟩
theorem mark_start {w : World} {bx n : Nat} {its its0 : List It} (h : Copy w bx n its0 its) : MarkRow w bx n its :=
  ⟨_, by have := h.fresh.row; rw [h.len] at this; exact this, fun j t ht => ⟨itemCell_odd ht, _, itemCell_even ht⟩⟩
theorem slot_start {w : World} {bx n : Nat} {its its0 : List It} (h : Copy w bx n its0 its) : ∀ t ∈ its, Slot w bx w.heap.size t := fun t ht => by
  obtain ⟨bk, a1, a2, a3, _, a5⟩ := h.fresh.own t ht
  exact ⟨bk, t.xs, a1, a2, a5.lt, a3.symm, a5⟩

theorem Slot.below {w w' : World} {bx S : Nat} {t : It} (h : Slot w bx S t) (hb : Below S w w') : Slot w' bx S t := by
  obtain ⟨bk, ys, a1, a2, a3, a4, a5⟩ := h
  exact ⟨bk, ys, a1, a2, a3, a4, a5.below hb a3⟩
theorem Mid.row {w w' : World} {bx S b : Nat} {xs : List Int} (h : Mid bx S w w') (hx : IntRow w b xs) (hS : S ≤ b) : IntRow w' b xs := World.rowIs.of_block hx (h.block b (.inr hS))
/-- eqIntS, the world behind it told as 'Below'. -/
theorem eqInts_b (w : World) (B : Nat) (A A' : Option Addr) (n n' c c' : Nat) (xs ys : List Int) (hx : Ints w B A n xs) (hy : Ints w B A' n' ys) (hn : n ≤ 1048576) (b : Bool) (hb : b = true ↔ xs = ys) :
    Calls Try.prog 126 #[.slice A n c, .slice A' n' c'] w fun e w' => e = .returned (.bool b) ∧ Below w.heap.size w w' :=
  (eqInts w B A A' n n' c c' xs ys hx hy hn b hb).mono fun _ _ ⟨he, m, hm⟩ => ⟨he, hm ▸ below_drewN (Below.refl _ _) m⟩
end Go.Proofs.Ytceiocdemhkcdaa.num
