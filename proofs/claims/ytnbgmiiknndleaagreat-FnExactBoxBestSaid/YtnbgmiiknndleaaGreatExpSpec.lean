/-
  The model's test of an expression: contracts.
-/
import Derived.Test.YtnbgmiiknndleaaGreatExpCopy
import Derived.Test.YtnbgmiiknndleaaGreatWishSpecB
namespace Go.Proofs.YtnbgmiiknndleaaGreat.num
set_option maxRecDepth 20000
open Go.RowKit
set_option linter.unusedVariables false
set_option linter.unusedSimpArgs false

/-- The data of a slice of nodes. -/
def datN (ns : List Nd) : List ND := ns.map Nd.dat
theorem datN_at {ns : List Nd} {k : Nat} {x : Nd} (h : ns[k]? = some x) : datN (ns.take (k + 1)) = datN (ns.take k) ++ [x.dat] := by
  unfold datN; rw [ptake_at h, List.map_append, List.map_singleton]
theorem datN_split (ns : List Nd) (k : Nat) : datN ns = datN (ns.take k) ++ datN (ns.drop k) := by
  unfold datN; rw [← List.map_append, List.take_append_drop]
theorem noE_base {L : List ND} {nd : ND} {st : List Tr} (h0 : nd.op = 0) (hw : ¬ IsW nd.w) : ¬ ∃ s, Stk (L ++ [nd]) s := fun ⟨s, hs⟩ => by
  rcases hs.inv with ⟨_, h, _⟩ | ⟨h, _⟩ | ⟨h, _⟩
  · exact hw h
  · omega
  · exact (bin_ne h).1 h0
theorem noE_dual {L : List ND} {nd : ND} {st : List Tr} (hst : Stk L st) (h3 : nd.op = 3) (hw : st.length < 1 ∨ ¬ NoW nd.w) : ¬ ∃ s, Stk (L ++ [nd]) s := fun ⟨s, hs⟩ => by
  rcases hs.inv with ⟨h, _⟩ | ⟨_, h, a, s', k, _⟩ | ⟨h, _⟩
  · omega
  · rcases hw with hw | hw
    · rw [hst.one k] at hw; simp at hw
    · exact hw h
  · exact (bin_ne h).2 h3
theorem noE_bin {L : List ND} {nd : ND} {st : List Tr} (hst : Stk L st) (hb : Bin nd.op) (hw : st.length < 2 ∨ ¬ NoW nd.w) : ¬ ∃ s, Stk (L ++ [nd]) s := fun ⟨s, hs⟩ => by
  rcases hs.inv with ⟨h, _⟩ | ⟨h, _⟩ | ⟨_, h, a, b, s', k, _⟩
  · exact (bin_ne hb).1 h
  · exact (bin_ne hb).2 h
  · rcases hw with hw | hw
    · rw [hst.one k] at hw; simp at hw; omega
    · exact hw h
theorem noE_odd {L : List ND} {nd : ND} (h0 : nd.op ≠ 0) (h3 : nd.op ≠ 3) (hb : ¬ Bin nd.op) : ¬ ∃ s, Stk (L ++ [nd]) s := fun ⟨s, hs⟩ => by
  rcases hs.inv with ⟨h, _⟩ | ⟨h, _⟩ | ⟨h, _⟩
  · exact h0 h
  · exact h3 h
  · exact hb h

end Go.Proofs.YtnbgmiiknndleaaGreat.num
