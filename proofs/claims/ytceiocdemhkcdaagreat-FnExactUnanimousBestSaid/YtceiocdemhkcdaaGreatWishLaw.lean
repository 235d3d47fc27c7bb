/-
  What the laws of wishes share: boxes that hold a wish or an item, and copies, told from world to world.
-/
import Derived.Test.YtceiocdemhkcdaaGreatWishOpen
import Derived.Test.YtceiocdemhkcdaaGreatRegion
import Derived.Test.YtceiocdemhkcdaaGreatLawRes
namespace Go.Proofs.YtceiocdemhkcdaaGreat.num
set_option maxRecDepth 20000
open Go.RowKit
set_option linter.unusedVariables false

/-- Block g holds the wish t. -/
def Box5 (w : World) (g : Nat) (t : Wi) : Prop :=
  g < w.heap.size ∧ w.cell? ⟨g, 0, none⟩ = some (.int .i64 t.kind) ∧ w.cell? ⟨g, 1, none⟩ = some (.int .i64 t.field) ∧ w.cell? ⟨g, 2, none⟩ = some (.int .i64 t.value) ∧ w.cell? ⟨g, 3, none⟩ = some (.slice t.LA t.Ln t.Lc) ∧ w.cell? ⟨g, 4, none⟩ = some (.slice t.PA t.Pn t.Pc)
theorem Box5.below {w w' : World} {g : Nat} {t : Wi} (h : Box5 w g t) (hb : Below w.heap.size w w') : Box5 w' g t :=
  ⟨Nat.lt_of_lt_of_le h.1 hb.size, (hb.cell (p := ⟨g, 0, none⟩) h.1).trans h.2.1, (hb.cell (p := ⟨g, 1, none⟩) h.1).trans h.2.2.1, (hb.cell (p := ⟨g, 2, none⟩) h.1).trans h.2.2.2.1, (hb.cell (p := ⟨g, 3, none⟩) h.1).trans h.2.2.2.2.1, (hb.cell (p := ⟨g, 4, none⟩) h.1).trans h.2.2.2.2.2⟩
theorem Box5.alloc {w : World} {g : Nat} {t : Wi} (h : Box5 w g t) (o : Obj) : Box5 (w.alloc o) g t := h.below ((Below.refl _ w).alloc (Nat.le_refl _) _)
theorem Box5.new (w : World) (t : Wi) (T : TypeId) : Box5 (w.alloc (.cells #[.int .i64 t.kind, .int .i64 t.field, .int .i64 t.value, .slice t.LA t.Ln t.Lc, .slice t.PA t.Pn t.Pc] T)) w.heap.size t :=
  ⟨by simp, World.cell?_alloc_at _ _ _ _ rfl, World.cell?_alloc_at _ _ _ _ rfl, World.cell?_alloc_at _ _ _ _ rfl, World.cell?_alloc_at _ _ _ _ rfl, World.cell?_alloc_at _ _ _ _ rfl⟩
/-- Block g holds the item t. -/
def Box2 (w : World) (g : Nat) (t : It) : Prop :=
  g < w.heap.size ∧ w.cell? ⟨g, 0, none⟩ = some (.int .i64 t.id) ∧ w.cell? ⟨g, 1, none⟩ = some (.slice t.A t.n t.c)
theorem Box2.below {w w' : World} {g : Nat} {t : It} (h : Box2 w g t) (hb : Below w.heap.size w w') : Box2 w' g t :=
  ⟨Nat.lt_of_lt_of_le h.1 hb.size, (hb.cell (p := ⟨g, 0, none⟩) h.1).trans h.2.1, (hb.cell (p := ⟨g, 1, none⟩) h.1).trans h.2.2⟩
theorem Box2.alloc {w : World} {g : Nat} {t : It} (h : Box2 w g t) (o : Obj) : Box2 (w.alloc o) g t := h.below ((Below.refl _ w).alloc (Nat.le_refl _) _)
theorem Box2.new (w : World) (t : It) (T : TypeId) : Box2 (w.alloc (.cells #[.int .i64 t.id, .slice t.A t.n t.c] T)) w.heap.size t :=
  ⟨by simp, World.cell?_alloc_at _ _ _ _ rfl, World.cell?_alloc_at _ _ _ _ rfl⟩
theorem WiIn.step {w w' : World} {t : Wi} (h : WiIn w w.heap.size t) (hb : Below w.heap.size w w') : WiIn w' w'.heap.size t := (h.below hb).more hb.size
theorem kind_dat (t : Wi) : t.kind = t.dat.kind := rfl
/-- A copy of the wish t. -/
structure CopyW (w : World) (t t' : Wi) : Prop where
  dat : t'.dat = t.dat
  short : t'.Short
  at' : WiIn w w.heap.size t'
theorem CopyW.step {w w' : World} {t t' : Wi} (h : CopyW w t t') (hb : Below w.heap.size w w') : CopyW w' t t' := ⟨h.dat, h.short, h.at'.step hb⟩
theorem toWish_w (w : World) (B : Nat) (t : Wi) (hi : WiIn w B t) (hB : B ≤ w.heap.size) (hn : t.Short) :
    Calls Tryz.prog 142 #[t.val] w fun e w' => ∃ t' : Wi, e = .returned t'.val ∧ CopyW w' t t' ∧ Below w.heap.size w w' :=
  (toWish_c w B t hi hB hn).mono fun _ _ ⟨t', h1, h2, h3, h4, h5⟩ => ⟨t', h1, ⟨h2, h3, h4⟩, h5⟩
theorem eqWish_w (w : World) (t t1 t2 : Wi) (h1 : CopyW w t t1) (h2 : CopyW w t t2) :
    Calls Tryz.prog 143 #[t1.val, t2.val] w fun e w' => e = .returned (.bool true) ∧ Below w.heap.size w w' :=
  eqWish_c w w.heap.size t1 t2 h1.at' h2.at' (Nat.le_refl _) h1.short true (by rw [h1.dat, h2.dat]; simp)
end Go.Proofs.YtceiocdemhkcdaaGreat.num
