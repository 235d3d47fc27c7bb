/-
  What the laws of expressions share: copies of a slice of nodes, told from world to world.
-/
import Derived.Test.YtceiocdemhkcdaaExpOpen
import Derived.Test.YtceiocdemhkcdaaExpSpec
namespace Go.Proofs.Ytceiocdemhkcdaa.num
set_option maxRecDepth 20000
open Go.RowKit
set_option linter.unusedVariables false

/-- A copy of the nodes ns at block lo. -/
structure CopyN (w : World) (lo n : Nat) (ns ns' : List Nd) : Prop where
  dat : datN ns' = datN ns
  short : ShortN ns'
  own : OwnN w lo (.slice (some ⟨lo, 0, none⟩) n n) ns'
theorem CopyN.step {w w' : World} {lo n : Nat} {ns ns' : List Nd} (h : CopyN w lo n ns ns') (hb : Below w.heap.size w w') : CopyN w' lo n ns ns' := ⟨h.dat, h.short, h.own.below hb⟩
theorem CopyN.nodes {w : World} {lo n : Nat} {ns ns' : List Nd} (h : CopyN w lo n ns ns') : Nodes w w.heap.size (some ⟨lo, 0, none⟩) n ns' := h.own.nodes
theorem CopyN.lt {w : World} {lo n : Nat} {ns ns' : List Nd} (h : CopyN w lo n ns ns') : lo < w.heap.size := h.own.r.tops lo rfl
theorem toNodes_w (w : World) (B : Nat) (A : Option Addr) (n c : Nat) (ns : List Nd) (hi : Nodes w B A n ns) (hB : B ≤ w.heap.size) (hn : n ≤ 1048576) (hN : ShortN ns) :
    Calls Try.prog 68 #[.slice A n c] w fun e w' => ∃ ns', e = .returned (.slice (some ⟨w.heap.size, 0, none⟩) n n) ∧ CopyN w' w.heap.size n ns ns' ∧ Below w.heap.size w w' :=
  (toNodes_c w B A n c ns hi hB hn hN).mono fun _ _ ⟨ns', h1, h2, h3, h4, h5⟩ => ⟨ns', h1, ⟨h2, h3, h4⟩, h5⟩
theorem eqNodes_w (w : World) (lo lo' n : Nat) (ns xs ys : List Nd) (h1 : CopyN w lo n ns xs) (h2 : CopyN w lo' n ns ys) (hn : n ≤ 1048576) :
    Calls Try.prog 70 #[.slice (some ⟨lo, 0, none⟩) n n, .slice (some ⟨lo', 0, none⟩) n n] w fun e w' => e = .returned (.bool true) ∧ Below w.heap.size w w' :=
  eqNodes_c w w.heap.size _ _ n n n n xs ys h1.nodes h2.nodes (Nat.le_refl _) hn h1.short true ⟨fun _ => by have := h1.dat.trans h2.dat.symm; exact this, fun _ => rfl⟩
end Go.Proofs.Ytceiocdemhkcdaa.num
