/-
  An item that comes into a law: its measure.
-/
import Derived.Test.YtjjlhiaghjipcaaLawRes
namespace Go.Proofs.Ytjjlhiaghjipcaa.num
set_option maxRecDepth 20000
open Go.RowKit
set_option linter.unusedVariables false

theorem szItem_l (w : World) (t : It) (left : Int) (hn : t.n ≤ 9223372036854775807) (h0 : 0 ≤ left) (h1 : left ≤ 1048576) :
    Calls Try.prog 33 #[t.val, .int .i64 left] w fun e w' => (∃ r : Int, e = .returned (.int .i64 r) ∧ (r = -1 ∨ (0 ≤ r ∧ r ≤ left ∧ t.n ≤ 1048576 ∧ True))) ∧ Below w.heap.size w w' := by
  by_cases h : (t.n : Int) ≤ left
  · exact (szItem_yes t left hn h h1 w).mono fun _ _ ⟨he, hb⟩ => ⟨⟨_, he, .inr ⟨by omega, by omega, by omega, trivial⟩⟩, hb⟩
  · exact (szItem_no t left hn (by omega) h0 w).mono fun _ _ ⟨he, hb⟩ => ⟨⟨_, he, .inl rfl⟩, hb⟩
end Go.Proofs.Ytjjlhiaghjipcaa.num
