/-
  The linear order of the model: contract.
-/
import Derived.Test.YtceiocdemhkcdaaGreatPairSpecD
namespace Go.Proofs.YtceiocdemhkcdaaGreat.num
set_option maxRecDepth 20000
open Go.RowKit
set_option linter.unusedVariables false

theorem Lin.len {ps : List (Int × Int)} {k : Nat} {out : List Int} (h : Lin ps k out) : out.length = k := by
  induction h with
  | nil => rfl
  | snoc _ _ ih => simp [ih]
/-- What Linearize answers. -/
def LinP (ps : List (Int × Int)) (ok : Bool) (out : List Int) : Prop := (ok = true → Lin ps 10 out) ∧ (ok = false → out = [])
theorem LinP.one {ps : List (Int × Int)} {ok : Bool} {o o' : List Int} (h : LinP ps ok o) (h' : LinP ps ok o') : o = o' := by
  cases ok
  · rw [h.2 rfl, h'.2 rfl]
  · exact (h.1 rfl).one (h'.1 rfl)
def FreeUp (ps : List (Int × Int)) (out : List Int) (v : Int) (m : Nat) (f : Bool) : Prop := f = true ↔ v ∉ out ∧ ∀ p, p ∈ ps.take m → p.2 = v → p.1 ∈ out
theorem FreeUp.step {ps : List (Int × Int)} {out : List Int} {v : Int} {m : Nat} {f : Bool} {p : Int × Int} (h : FreeUp ps out v m f) (hp : ps[m]? = some p) {g : Bool} (hg : g = true ↔ f = true ∧ (p.2 = v → p.1 ∈ out)) : FreeUp ps out v (m + 1) g := by
  unfold FreeUp at h ⊢
  rw [hg, h, ptake_at hp]
  constructor
  · rintro ⟨⟨h1, h2⟩, h3⟩
    refine ⟨h1, fun q hq e => ?_⟩
    rcases List.mem_append.1 hq with hq | hq
    · exact h2 q hq e
    · obtain rfl := List.mem_singleton.1 hq
      exact h3 e
  · rintro ⟨h1, h2⟩
    exact ⟨⟨h1, fun q hq e => h2 q (List.mem_append_left _ hq) e⟩, fun e => h2 p (List.mem_append_right _ (by simp)) e⟩

end Go.Proofs.YtceiocdemhkcdaaGreat.num
