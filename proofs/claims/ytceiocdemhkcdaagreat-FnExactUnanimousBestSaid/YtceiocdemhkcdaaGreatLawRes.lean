/-
  What the laws lean on: a slice of ints that a call handed back, marked and looked at; a copy of items or of an item, marked.
-/
import Derived.Test.YtceiocdemhkcdaaGreatOnlySet
import Derived.Test.YtceiocdemhkcdaaGreatSteps
namespace Go.Proofs.YtceiocdemhkcdaaGreat.num
set_option maxRecDepth 20000
open Go.RowKit
set_option linter.unusedVariables false
set_option linter.unusedSimpArgs false

structure CopyI (w : World) (t t' : It) : Prop where
  dat : t'.dat = t.dat
  short : t'.n ≤ 1048576
  at' : Ints w w.heap.size t'.A t'.n t'.xs
theorem CopyI.step {w w' : World} {t t' : It} (h : CopyI w t t') (hb : Below w.heap.size w w') : CopyI w' t t' := ⟨h.dat, h.short, h.at'.step hb⟩
theorem toItem_w (w : World) (B : Nat) (t : It) (hi : Ints w B t.A t.n t.xs) (hB : B ≤ w.heap.size) (hn : t.n ≤ 1048576) :
    Calls Tryz.prog 75 #[t.val] w fun e w' => ∃ t' : It, e = .returned t'.val ∧ CopyI w' t t' ∧ Below w.heap.size w w' :=
  (toItem_c w B t hi hB hn).mono fun _ _ ⟨b, h1, _, h3, h4⟩ => ⟨_, h1, ⟨rfl, hn, ints_row hi h3⟩, h4⟩
theorem eqItem_w (w : World) (t t1 t2 : It) (h1 : CopyI w t t1) (h2 : CopyI w t t2) :
    Calls Tryz.prog 77 #[t1.val, t2.val] w fun e w' => e = .returned (.bool true) ∧ Below w.heap.size w w' :=
  eqItem_c w w.heap.size t1 t2 h1.at' h2.at' (Nat.le_refl _) h1.short true (by rw [h1.dat, h2.dat]; simp)
structure ResI (w : World) (lo hi : Nat) (v : Value) (l : List Int) : Prop where
  own : OwnI w lo v l
  top : ∀ b, v.ownBlock = some b → b < hi
  le : hi ≤ w.heap.size
theorem ResI.new {w : World} {lo : Nat} {v : Value} {l : List Int} (h : OwnI w lo v l) : ResI w lo w.heap.size v l := ⟨h, fun b hb => ownI_tops h b hb, Nat.le_refl _⟩
theorem ResI.step {w w' : World} {lo hi : Nat} {v : Value} {l : List Int} (h : ResI w lo hi v l) (hb : Below w.heap.size w w') : ResI w' lo hi v l := ⟨ownI_below h.own hb, h.top, Nat.le_trans h.le hb.size⟩
theorem ResI.only {S : Nat → Prop} {w w' : World} {lo hi : Nat} {v : Value} {l : List Int} (h : ResI w lo hi v l) (ho : OnlyS S w w') (hs : ∀ b, S b → b < lo ∨ hi ≤ b) : ResI w' lo hi v l :=
  ⟨ownI_blocks h.own fun b hb => ho.block b fun e => by
    have h1 := h.top b hb
    have h2 := ownI_lows h.own b hb
    rcases hs b e with q | q <;> omega, h.top, by rw [ho.size]; exact h.le⟩
theorem ResI.eq {w : World} {lo hi lo' hi' : Nat} {A A' : Option Addr} {n n' c c' : Nat} {l : List Int} (h1 : ResI w lo hi (.slice A n c) l) (h2 : ResI w lo' hi' (.slice A' n' c') l) (hn : l.length ≤ 1048576) :
    Calls Tryz.prog 41 #[.slice A n c, .slice A' n' c'] w fun e w' => e = .returned (.bool true) ∧ Below w.heap.size w w' := by
  have e1 := (ownI_at h1.own).1
  exact eqInts_b w w.heap.size _ _ n n' c c' l l (ownI_at h1.own) (ownI_at h2.own) (by omega) true (by simp)
theorem ResI.mark {w : World} {lo hi : Nat} {v : Value} {l : List Int} (h : ResI w lo hi v l) (hn : l.length ≤ 1048576) (z : Int) (k0 : Nat) (hz : z = (k0 : Int)) (hk0 : k0 ≤ 1152921504606846976) :
    Calls Tryz.prog 44 #[v, .int .i64 z] w fun e w' => e = .returned (.int .i64 ((k0 + l.length : Nat) : Int)) ∧ ResI w' lo hi v (marks k0 l.length) ∧ OnlyS (fun b => lo ≤ b ∧ b < hi) w w' := by
  refine (markI' w lo v l h.own hn z k0 hz hk0).mono ?_
  rintro e w' ⟨rfl, h1, h2⟩
  exact ⟨rfl, ⟨h1, h.top, by rw [h2.size]; exact h.le⟩, h2.s fun b hb => ⟨ownI_lows h.own b hb, h.top b hb⟩⟩
theorem ResI.held {w : World} {lo hi : Nat} {v : Value} {n k0 : Nat} (h : ResI w lo hi v (marks k0 n)) (hn : n ≤ 1048576) (z : Int) (hz : z = (k0 : Int)) (hk0 : k0 ≤ 1152921504606846976) :
    Calls Tryz.prog 45 #[v, .int .i64 z] w fun e w' => e = .returned (.int .i64 ((k0 + n : Nat) : Int)) ∧ w = w' := heldI' w lo v k0 n h.own hn z hz hk0
theorem Mid.onlyS {bx S : Nat} {w w' : World} (h : Mid bx S w w') : OnlyS (fun b => bx ≤ b ∧ b < S) w w' :=
  ⟨h.os, h.tape, h.output, h.size, fun k hk => h.block k (by
    rcases Nat.lt_or_ge k bx with q | q
    · exact .inl q
    · rcases Nat.lt_or_ge k S with r | r
      · exact absurd ⟨q, r⟩ hk
      · exact .inr r)⟩
/-- A copy of items that the law made, and what lies behind it. -/
structure CopyL (w : World) (lo hi n : Nat) (its its' : List It) : Prop where
  c : Copy w lo n its its'
  s : ∀ t ∈ its', Slot w lo hi t
  lt : lo < hi
  le : hi ≤ w.heap.size
theorem CopyL.new {w : World} {lo n : Nat} {its its' : List It} (h : Copy w lo n its its') : CopyL w lo w.heap.size n its its' := ⟨h, slot_start h, h.fresh.lt, Nat.le_refl _⟩
theorem CopyL.step {w w' : World} {lo hi n : Nat} {its its' : List It} (h : CopyL w lo hi n its its') (hb : Below w.heap.size w w') : CopyL w' lo hi n its its' :=
  ⟨h.c.below hb, fun t ht => (h.s t ht).below (hb.mono h.le), h.lt, Nat.le_trans h.le hb.size⟩
theorem CopyL.mark {w : World} {lo hi n : Nat} {its its' : List It} (h : CopyL w lo hi n its its') (hn : n ≤ 1048576) :
    Calls Tryz.prog 42 #[.slice (some ⟨lo, 0, none⟩) n n, .int .i64 1] w fun e w' => (∃ r : Nat, e = .returned (.int .i64 r) ∧ 0 < r ∧ r ≤ 1099512676353) ∧ OnlyS (fun b => lo ≤ b ∧ b < hi) w w' :=
  (markItemsB w lo n n hi its' (mark_start h.c) h.s h.c.len h.lt hn h.c.small).mono fun _ _ ⟨h1, h2⟩ => ⟨h1, h2.onlyS⟩
theorem eqItems_w (w : World) (lo hi lo' hi' n : Nat) (its xs ys : List It) (h1 : CopyL w lo hi n its xs) (h2 : CopyL w lo' hi' n its ys) (hn : n ≤ 1048576) :
    Calls Tryz.prog 39 #[.slice (some ⟨lo, 0, none⟩) n n, .slice (some ⟨lo', 0, none⟩) n n] w fun e w' => e = .returned (.bool true) ∧ Below w.heap.size w w' :=
  eqItems w w.heap.size _ _ n n n n xs ys h1.c.items h2.c.items (Nat.le_refl _) hn h1.c.small true (by rw [h1.c.dat, h2.c.dat]; simp)
theorem toItems_w (w : World) (B : Nat) (A : Option Addr) (n c : Nat) (its : List It) (hi : Items w B A n its) (hB : B ≤ w.heap.size) (hn : n ≤ 1048576) (hN : ∀ t ∈ its, t.n ≤ 1048576) :
    Calls Tryz.prog 37 #[.slice A n c] w fun e w' => ∃ its', e = .returned (.slice (some ⟨w.heap.size, 0, none⟩) n n) ∧ CopyL w' w.heap.size w'.heap.size n its its' ∧ Below w.heap.size w w' :=
  (toItems w B A n c its hi hB hn hN).mono fun _ _ ⟨x, h1, h2, h3, h4⟩ => ⟨x, h1, .new (copy_of hn hN hi h2 h3), h4⟩
end Go.Proofs.YtceiocdemhkcdaaGreat.num
