/-
  The first element with the least fraction. Plain mathematics.
-/
import Derived.Test.YtceiocdemhkcdaaRegGreedy
namespace Go.Proofs.Ytceiocdemhkcdaa.num
set_option maxRecDepth 20000
set_option linter.unusedVariables false
set_option linter.unusedSimpArgs false

section
variable {α : Type}
def bestS (f : α → Fr) (o : Option α) (x : α) : Option α := match o with
  | none => some x
  | some y => if (f x).less (f y) then some x else some y
def bestF (f : α → Fr) (l : List α) : Option α := l.foldl (bestS f) none
theorem bestF_snoc (f : α → Fr) (l : List α) (x : α) : bestF f (l ++ [x]) = bestS f (bestF f l) x := by unfold bestF; rw [List.foldl_append]; rfl
theorem bestF_one (f : α → Fr) (x : α) : bestF f [x] = some x := rfl
theorem bestF_mem {f : α → Fr} (l : List α) : ∀ x, bestF f l = some x → x ∈ l := by
  refine snoc_ind (p := fun l => ∀ x, bestF f l = some x → x ∈ l) (by intro x h; cases h) ?_ l
  intro l y ih x h
  rw [bestF_snoc] at h
  unfold bestS at h
  rcases hp : bestF f l with _ | z
  · rw [hp] at h
    simp only [Option.some.injEq] at h
    subst h; simp
  · rw [hp] at h
    simp only at h
    split at h
    · simp only [Option.some.injEq] at h; subst h; simp
    · simp only [Option.some.injEq] at h; subst h; exact List.mem_append_left _ (ih z hp)
theorem bestF_yes {f : α → Fr} {l : List α} {x y : α} (h : bestF f l = some y) (hl : (f x).less (f y) = true) : bestF f (l ++ [x]) = some x := by rw [bestF_snoc, h, bestS, if_pos hl]
theorem bestF_no {f : α → Fr} {l : List α} {x y : α} (h : bestF f l = some y) (hl : (f x).less (f y) = false) : bestF f (l ++ [x]) = some y := by rw [bestF_snoc, h, bestS, if_neg (by rw [hl]; decide)]
theorem bestF_map {β : Type} (f : α → Fr) (g : β → α) (l : List β) : (bestF (fun x => f (g x)) l).map g = bestF f (l.map g) := by
  refine snoc_ind (p := fun l => (bestF (fun x => f (g x)) l).map g = bestF f (l.map g)) rfl ?_ l
  intro l x ih
  rw [List.map_append, List.map_singleton, bestF_snoc, bestF_snoc, ← ih]
  rcases bestF (fun x => f (g x)) l with _ | y
  · rfl
  · unfold bestS
    simp only [Option.map_some]
    split <;> rfl
end
theorem keep_best {ds cs : List Da} (hs : ∀ d ∈ cs, d ∈ ds) (w : List Int) (l : List (List Int)) : ∃ v, bestF (keptF ds cs) (w :: l) = some v ∧ KeepR (regF ds cs (w :: l)) v (keptF ds cs v) := by
  refine snoc_ind (p := fun l => ∃ v, bestF (keptF ds cs) (w :: l) = some v ∧ KeepR (regF ds cs (w :: l)) v (keptF ds cs v)) ⟨w, rfl, KeepR.first hs w⟩ ?_ l
  rintro l x ⟨v, h1, h2⟩
  have hm := h2.more hs x
  rw [← List.cons_append]
  rcases hb : (keptF ds cs x).less (keptF ds cs v) with _ | _
  · exact ⟨v, bestF_no h1 hb, hm.2 hb⟩
  · exact ⟨x, bestF_yes h1 hb, hm.1 hb⟩
/-- What the program's greatestRegret makes of the weights that it found. -/
theorem keep_reg {ds cs : List Da} (hs : ∀ d ∈ cs, d ∈ ds) {v : List Int} (h : bestF (keptF ds cs) wl = some v) :
    ((keptF ds cs v).den - (keptF ds cs v).num = 0 ∧ reg ds cs = ⟨0, 1, []⟩) ∨ ((keptF ds cs v).den - (keptF ds cs v).num ≠ 0 ∧ reg ds cs = ⟨(keptF ds cs v).den - (keptF ds cs v).num, (keptF ds cs v).den, v⟩) := by
  obtain ⟨w, l, hwl⟩ : ∃ w l, wl = w :: l := ⟨_, _, (List.cons_head_tail (l := wl) (by intro e; have := congrArg List.length e; rw [wl_len] at this; simp at this)).symm⟩
  obtain ⟨u, h1, h2⟩ := keep_best hs w l
  rw [← hwl] at h1 h2
  obtain rfl : v = u := Option.some.inj (h.symm.trans h1)
  have e : regF ds cs wl = reg ds cs := rfl
  rw [e] at h2
  rcases hr : reg ds cs with ⟨a, b, c⟩
  rw [hr] at h2
  rcases h2 with ⟨q1, q2, q3, q4, _⟩ | ⟨q1, q2, q3, q4, _⟩
  · simp only at q1 q2 q3
    subst q1 q2 q3
    exact .inl ⟨by omega, rfl⟩
  · simp only at q1 q2 q3 q4
    subst q4
    exact .inr ⟨by omega, by rw [← q2, ← q3]⟩
end Go.Proofs.Ytceiocdemhkcdaa.num
