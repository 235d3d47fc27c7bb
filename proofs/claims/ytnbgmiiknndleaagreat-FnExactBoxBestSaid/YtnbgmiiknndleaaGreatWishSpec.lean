/-
  The model's functions on a wish: what is valid, the rank, the comparison.
-/
import Derived.Test.YtnbgmiiknndleaaGreatWishMem
import Derived.Test.YtnbgmiiknndleaaGreatPairSpecC
namespace Go.Proofs.YtnbgmiiknndleaaGreat.num
set_option maxRecDepth 20000
open Go.RowKit
set_option linter.unusedVariables false

/-- At least one value, all from 0 to 9, each less than the next. -/
def AscUp (l : List Int) : Prop := (∀ v ∈ l, InR v) ∧ ∀ i x y, l[i]? = some x → l[i + 1]? = some y → x < y
def Asc (l : List Int) : Prop := l ≠ [] ∧ AscUp l
theorem AscUp.nil : AscUp [] := ⟨by simp, by simp⟩
theorem ascUp_take {l : List Int} (h : AscUp l) (k : Nat) : AscUp (l.take k) :=
  ⟨fun v hv => h.1 v (List.mem_of_mem_take hv), fun i x y hx hy => by
    rw [List.getElem?_take] at hx hy
    split at hx
    · split at hy
      · exact h.2 i x y hx hy
      · cases hy
    · cases hx⟩
theorem ascUp_snoc {l : List Int} {k : Nat} {v : Int} (h : AscUp (l.take k)) (hv : l[k]? = some v) (hr : InR v) (ho : ∀ j u, k = j + 1 → l[j]? = some u → u < v) : AscUp (l.take (k + 1)) := by
  rw [ptake_at hv]
  have hk : k < l.length := (List.getElem?_eq_some_iff.1 hv).1
  have hlen : (l.take k).length = k := by rw [List.length_take]; omega
  refine ⟨fun x hx => ?_, fun i x y hx hy => ?_⟩
  · rcases List.mem_append.1 hx with hx | hx
    · exact h.1 x hx
    · rw [List.mem_singleton.1 hx]; exact hr
  · rcases Nat.lt_trichotomy (i + 1) k with h1 | h1 | h1
    · rw [List.getElem?_append_left (by omega)] at hx hy
      exact h.2 i x y hx hy
    · rw [List.getElem?_append_left (by omega), List.getElem?_take, if_pos (by omega)] at hx
      rw [List.getElem?_append_right (by omega), hlen] at hy
      rw [show i + 1 - k = 0 by omega] at hy
      simp at hy
      subst hy
      exact ho i x h1.symm hx
    · rw [List.getElem?_eq_none (by simp; omega)] at hy
      cases hy
theorem asc_bad {l : List Int} {k : Nat} {v u : Int} (hv : l[k + 1]? = some v) (hu : l[k]? = some u) (h : v ≤ u) : ¬ AscUp l := fun ha => by
  have := ha.2 k u v hu hv
  omega
theorem asc_next {l : List Int} {k j : Nat} {x y : Int} (hj : j + 1 = k) (hy : l[j]? = some y) (h : y < x) : ∀ j' u, k = j' + 1 → l[j']? = some u → u < x := fun j' u hj' hu => by
  obtain rfl : j' = j := by omega
  rw [hy] at hu
  cases hu
  exact h
/-- What IsWish asks. -/
structure IsW (d : WD) : Prop where
  f : 0 ≤ d.field ∧ d.field ≤ 2
  k : 0 ≤ d.kind ∧ d.kind ≤ 4
  v : if d.kind = 2 then InR d.value else d.value = 0
  l : if d.kind = 3 then Asc d.ls else d.ls = []
  p : if d.kind = 4 then OkP d.ps else d.ps = []
/-- The rank of a value from 0 to 9, for a wish of another kind than order. -/
def rankW (d : WD) (v : Int) : Int := if d.kind = 0 then v else if d.kind = 1 then 9 - v else if d.kind = 2 then (if v < d.value then d.value - v else v - d.value) else if v ∈ d.ls then 0 else 1
/-- The comparison of two values, for a valid wish. -/
def cmpW (d : WD) (a b : Int) : Int :=
  if d.kind = 4 then (if a = b then 0 else if rb d.ps a b = true then 1 else if rb d.ps b a = true then -1 else 2)
  else if rankW d a < rankW d b then 1 else if rankW d b < rankW d a then -1 else 0

theorem in_same (x lo hi : Int) (b : Bool) (hb : b = true ↔ lo ≤ x ∧ x ≤ hi) (w : World) :
    Calls Tryz.prog 27 #[.int .i64 x, .int .i64 lo, .int .i64 hi] w fun e w' => e = .returned (.bool b) ∧ w' = w :=
  (in_of x lo hi b hb w).mono fun _ _ h => ⟨h.1, h.2.symm⟩
theorem in_quiet {P : Program} {f : FuncId} {args : Array Value} {w : World} {m n : Nat} {v : Value} (h : Calls P f args (w.drewN (m + n)) fun e w' => e = .returned v ∧ w' = w.drewN (m + n)) : Calls P f args (w.drewN (m + n)) fun e w'' => e = .returned v ∧ ∃ n', w'' = w.drewN (m + n') :=
  h.mono fun _ _ ⟨he, hm⟩ => ⟨he, n, hm⟩
end Go.Proofs.YtnbgmiiknndleaaGreat.num
