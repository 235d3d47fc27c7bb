/-
  What the laws lean on: a slice of ints that a call handed back, marked and looked at; a copy of items or of an item, marked.
-/
import Derived.Test.YtceiocdemhkcdaaOnlySet
import Derived.Test.YtceiocdemhkcdaaSteps
namespace Go.Proofs.Ytceiocdemhkcdaa.num
set_option maxRecDepth 20000
open Go.RowKit
set_option linter.unusedVariables false
set_option linter.unusedSimpArgs false

structure CopyI (w : World) (t t' : It) : Prop where
  dat : t'.dat = t.dat
  short : t'.n ≤ 1048576
  at' : Ints w w.heap.size t'.A t'.n t'.xs
theorem CopyI.step {w w' : World} {t t' : It} (h : CopyI w t t') (hb : Below w.heap.size w w') : CopyI w' t t' := ⟨h.dat, h.short, h.at'.step hb⟩
structure ResI (w : World) (lo hi : Nat) (v : Value) (l : List Int) : Prop where
  own : OwnI w lo v l
  top : ∀ b, v.ownBlock = some b → b < hi
  le : hi ≤ w.heap.size
theorem ResI.new {w : World} {lo : Nat} {v : Value} {l : List Int} (h : OwnI w lo v l) : ResI w lo w.heap.size v l := ⟨h, fun b hb => ownI_tops h b hb, Nat.le_refl _⟩
theorem ResI.step {w w' : World} {lo hi : Nat} {v : Value} {l : List Int} (h : ResI w lo hi v l) (hb : Below w.heap.size w w') : ResI w' lo hi v l := ⟨ownI_below h.own hb, h.top, Nat.le_trans h.le hb.size⟩
theorem ResI.only {S : Nat → Prop} {w w' : World} {lo hi : Nat} {v : Value} {l : List Int} (h : ResI w lo hi v l) (ho : OnlyS S w w') (hs : ∀ b, S b → b < lo ∨ hi ≤ b) : ResI w' lo hi v l :=
  ⟨ownI_blocks h.own fun b hb => ho.block b fun e => by
    have h1 := h.top b hb
    have h2 := ownI_lows h.own b hb
    rcases hs b e with q | q <;> omega, h.top, by rw [ho.size]; exact h.le⟩
theorem ResI.eq {w : World} {lo hi lo' hi' : Nat} {A A' : Option Addr} {n n' c c' : Nat} {l : List Int} (h1 : ResI w lo hi (.slice A n c) l) (h2 : ResI w lo' hi' (.slice A' n' c') l) (hn : l.length ≤ 1048576) :
    Calls Try.prog 126 #[.slice A n c, .slice A' n' c'] w fun e w' => e = .returned (.bool true) ∧ Below w.heap.size w w' := by
  have e1 := (ownI_at h1.own).1
  exact eqInts_b w w.heap.size _ _ n n' c c' l l (ownI_at h1.own) (ownI_at h2.own) (by omega) true (by simp)
theorem Mid.onlyS {bx S : Nat} {w w' : World} (h : Mid bx S w w') : OnlyS (fun b => bx ≤ b ∧ b < S) w w' :=
  ⟨h.os, h.tape, h.output, h.size, fun k hk => h.block k (by
    rcases Nat.lt_or_ge k bx with q | q
    · exact .inl q
    · rcases Nat.lt_or_ge k S with r | r
      · exact absurd ⟨q, r⟩ hk
      · exact .inr r)⟩
/-- A copy of items that the law made, and what lies behind it. -/
structure CopyL (w : World) (lo hi n : Nat) (its its' : List It) : Prop where
  c : Copy w lo n its its'
  s : ∀ t ∈ its', Slot w lo hi t
  lt : lo < hi
  le : hi ≤ w.heap.size
theorem CopyL.new {w : World} {lo n : Nat} {its its' : List It} (h : Copy w lo n its its') : CopyL w lo w.heap.size n its its' := ⟨h, slot_start h, h.fresh.lt, Nat.le_refl _⟩
theorem CopyL.step {w w' : World} {lo hi n : Nat} {its its' : List It} (h : CopyL w lo hi n its its') (hb : Below w.heap.size w w') : CopyL w' lo hi n its its' :=
  ⟨h.c.below hb, fun t ht => (h.s t ht).below (hb.mono h.le), h.lt, Nat.le_trans h.le hb.size⟩
end Go.Proofs.Ytceiocdemhkcdaa.num
