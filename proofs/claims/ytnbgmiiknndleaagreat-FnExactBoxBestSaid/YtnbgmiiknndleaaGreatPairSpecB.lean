/-
  The model's functions on pairs: contracts. A way along the pairs; what pairs are valid.
-/
import Derived.Test.YtnbgmiiknndleaaGreatPairSpecA
namespace Go.Proofs.YtnbgmiiknndleaaGreat.num
set_option maxRecDepth 20000
open Go.RowKit
set_option linter.unusedVariables false

theorem ownI_one (w : World) (B : Nat) (x : Int) (hB : B ≤ w.heap.size) : OwnI (w.alloc (.cells #[.int .i64 x] 3)) B (.slice (some ⟨w.heap.size, 0, none⟩) 1 1) [x] :=
  ⟨rfl, .inr ⟨w.heap.size, 1, #[.int .i64 x], rfl, hB, heap_alloc_new w _, Nat.le_refl _, by decide, rfl, rfl⟩⟩
theorem ownI_below {w w' : World} {B : Nat} {v : Value} {l : List Int} (h : OwnI w B v l) (hb : Below w.heap.size w w') : OwnI w' B v l := by
  obtain ⟨h1, h2⟩ := h
  refine ⟨h1, ?_⟩
  rcases h2 with h2 | ⟨g, cap, cur, h3, h4, h5, h6⟩
  · exact .inl h2
  · exact .inr ⟨g, cap, cur, h3, h4, (hb.block g (lt_of_block h5)).trans h5, h6⟩

/-- The relation of the search's loops. -/
def SeenRel (ps : List (Int × Int)) (a b : Int) (B : Nat) (w : World) (S : List Int) (i k : Nat) (v : Value) (wr : World) : Prop := Seen ps a b S i k ∧ OwnI wr B v S ∧ Below B w wr

end Go.Proofs.YtnbgmiiknndleaaGreat.num
