/-
  append of one element, its run told.
-/
import Derived.Test.YtceiocdemhkcdaaSpread
import Derived.Test.YtceiocdemhkcdaaItemCopy
import Derived.Lib.AppendZeros
namespace Go.Proofs.Ytceiocdemhkcdaa.num
set_option maxRecDepth 20000
open Go.RowKit
set_option linter.unusedVariables false
set_option linter.unusedSimpArgs false

/-- append of one element, its run told. -/
theorem run_oneG {α : Type} {f : α → List Value} {s : Nat} (hf : ∀ x, (f x).length = s) (h1 : ∀ x, ∀ u ∈ f x, u.oneCell' = true) {T tS ty : TypeId} {z : Value} {bytes : Nat} (ht : Try.prog.underlying tS = some (.slice T)) (hinf : (Try.prog.info? T).map (fun i => (i.zero, i.size, i.bytes)) = some (some z, s, bytes)) (hzs : z.cells.size = s) (hs0 : 0 < s) (hbt : 0 < bytes)
    {w : World} {B N c : Nat} {v : Value} {l : List α} (y : α) {cs : Array Value} (hcs : cs = (f y).toArray) (h : OwnG T f s w B v l) (hN : w.heap.size = N) (hlen : (l.length + 1) * bytes ≤ 140737488355328) (hB : B ≤ w.heap.size) :
    ∃ v' w', (Builtin.append_ #[tS, tS] ty #[v, .slice (some ⟨N, 0, none⟩) 1 c]).run Try.prog (w.alloc (.cells cs T)) = .ok v' w' ∧ OwnG T f s w' B v' (l ++ [y]) ∧ w.grownBy w' v.ownBlock ∧ (v'.ownBlock = v.ownBlock ∨ v'.ownBlock = some (N + 1)) := by
  subst hcs hN
  obtain ⟨v', w', hr, ho, hg, hat⟩ := run_app_some (P := Try.prog) (ty := ty) ht hinf hzs hs0 hbt (World.ownsRow.alloc h (.cells (f y).toArray T)) ⟨w.heap.size, 0, none⟩ (m := 1) (c := c) (news := f y) (by rw [hf, Nat.one_mul]) (fun j u hj => by
    rw [addr_add, Nat.zero_add, World.cell?_alloc_at _ _ _ _ rfl]
    simpa using hj) (h1 y) hlen (by simp; omega)
  refine ⟨v', w', hr, ?_, ⟨hg.os, hg.tape, hg.output, Nat.le_trans (by simp) hg.size, fun k hk hv => (hg.block k (by simp; omega) hv).trans (Below.heap_alloc _ _ _ hk)⟩, by simpa using hat⟩
  unfold OwnG
  rw [List.length_append, List.length_singleton, List.flatMap_append, List.flatMap_singleton]
  exact ho
end Go.Proofs.Ytceiocdemhkcdaa.num
