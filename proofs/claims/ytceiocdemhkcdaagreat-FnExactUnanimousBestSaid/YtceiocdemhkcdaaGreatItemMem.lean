/-
  Slices of ints and of items as the laws of chapter 2 meet them: what they read as, and the laws' own helpers that measure and copy them.
-/
import Derived.Test.YtceiocdemhkcdaaGreatProg
import Derived.WalkKit
import Derived.ProofKit
import Derived.Lib.Hide
import Derived.Outline
import Derived.WalkSpells
namespace Go.Proofs.YtceiocdemhkcdaaGreat.num
set_option maxRecDepth 20000
open Go.RowKit

/-- A slice of ints (address A, n elements) that reads as xs and lies below block B. -/
def Ints (w : World) (B : Nat) (A : Option Addr) (n : Nat) (xs : List Int) : Prop :=
  xs.length = n ∧ ∀ k, k < n → ∃ b off : Nat, A = some ⟨b, off, none⟩ ∧ b < B ∧ w.cell? ⟨b, off + k, none⟩ = some (.int .i64 (xs.getD k 0))
theorem Ints.below {w w' : World} {B : Nat} {A : Option Addr} {n : Nat} {xs : List Int} (h : Ints w B A n xs) (hb : Below B w w') : Ints w' B A n xs :=
  ⟨h.1, fun k hk => by
    obtain ⟨b, off, ha, hB, hc⟩ := h.2 k hk
    exact ⟨b, off, ha, hB, (hb.cell (p := ⟨b, off + k, none⟩) hB).trans hc⟩⟩
theorem Ints.more {w : World} {B B' : Nat} {A : Option Addr} {n : Nat} {xs : List Int} (h : Ints w B A n xs) (hB : B ≤ B') : Ints w B' A n xs :=
  ⟨h.1, fun k hk => by
    obtain ⟨b, off, ha, hb, hc⟩ := h.2 k hk
    exact ⟨b, off, ha, by omega, hc⟩⟩
/-- An item's value in a cell row: its number, and its slice with what that reads as. -/
structure It where
  id : Int
  A : Option Addr
  n : Nat
  c : Nat
  xs : List Int
def It.val (t : It) : Value := .agg #[.int .i64 t.id, .slice t.A t.n t.c]
/-- A slice of items that reads as its, below block B. -/
def Items (w : World) (B : Nat) (A : Option Addr) (n : Nat) (its : List It) : Prop :=
  its.length = n ∧ ∀ k (hk : k < its.length), ∃ b off : Nat, A = some ⟨b, off, none⟩ ∧ b < B ∧ w.cell? ⟨b, off + k * 2, none⟩ = some (.int .i64 its[k].id) ∧ w.cell? ⟨b, off + k * 2 + 1, none⟩ = some (.slice its[k].A its[k].n its[k].c) ∧ Ints w B its[k].A its[k].n its[k].xs
theorem Items.below {w w' : World} {B : Nat} {A : Option Addr} {n : Nat} {its : List It} (h : Items w B A n its) (hb : Below B w w') : Items w' B A n its :=
  ⟨h.1, fun k hk => by
    obtain ⟨b, off, ha, hB, h1, h2, h3⟩ := h.2 k hk
    exact ⟨b, off, ha, hB, (hb.cell (p := ⟨b, off + k * 2, none⟩) hB).trans h1, (hb.cell (p := ⟨b, off + k * 2 + 1, none⟩) hB).trans h2, h3.below hb⟩⟩

theorem szInts_yes (A : Option Addr) (n c : Nat) (left : Int) (hn : n ≤ 9223372036854775807) (h0 : n ≤ left) (h1 : left ≤ 1048576) (w : World) :
    Calls Tryz.prog 110 #[.slice A n c, .int .i64 left] w fun e w' => e = .returned (.int .i64 (left - n)) ∧ w = w' := by
  go_enter Tryz.func110, Tryz.ntmps110
  go_wp2
  go_ret
  exact ⟨rfl, rfl⟩
theorem szInts_no (A : Option Addr) (n c : Nat) (left : Int) (hn : n ≤ 9223372036854775807) (h0 : left < n) (h1 : 0 ≤ left) (w : World) :
    Calls Tryz.prog 110 #[.slice A n c, .int .i64 left] w fun e w' => e = .returned (.int .i64 (-1)) ∧ w = w' := by
  go_enter Tryz.func110, Tryz.ntmps110
  go_wp2
  go_ret
  exact ⟨rfl, rfl⟩
theorem szItem_yes (t : It) (left : Int) (hn : t.n ≤ 9223372036854775807) (h0 : t.n ≤ left) (h1 : left ≤ 1048576) (w : World) :
    Calls Tryz.prog 73 #[t.val, .int .i64 left] w fun e w' => e = .returned (.int .i64 (left - t.n)) ∧ Below w.heap.size w w' := by
  obtain ⟨id, A, n, c, xs⟩ := t
  unfold It.val
  simp only [] at hn h0 ⊢
  go_enter Tryz.func73, Tryz.ntmps73
  go_wp2_with fail
  refine (szInts_yes _ _ _ _ hn h0 h1 _).mono ?_
  rintro e w1 ⟨rfl, rfl⟩
  go_wp2
  go_ret
  exact ⟨rfl, (Below.refl _ _).alloc (Nat.le_refl _) _⟩
theorem szItem_no (t : It) (left : Int) (hn : t.n ≤ 9223372036854775807) (h0 : left < t.n) (h1 : 0 ≤ left) (w : World) :
    Calls Tryz.prog 73 #[t.val, .int .i64 left] w fun e w' => e = .returned (.int .i64 (-1)) ∧ Below w.heap.size w w' := by
  obtain ⟨id, A, n, c, xs⟩ := t
  unfold It.val
  simp only [] at hn h0 ⊢
  go_enter Tryz.func73, Tryz.ntmps73
  go_wp2_with fail
  refine (szInts_no _ _ _ _ hn h0 h1 _).mono ?_
  rintro e w1 ⟨rfl, rfl⟩
  go_wp2
  go_ret
  exact ⟨rfl, (Below.refl _ _).alloc (Nat.le_refl _) _⟩
end Go.Proofs.YtceiocdemhkcdaaGreat.num
