/-
  The greedy choice: again and again the item with which the regret is least. Plain mathematics.
-/
import Derived.Test.YtceiocdemhkcdaaRegSets
namespace Go.Proofs.Ytceiocdemhkcdaa.num
set_option maxRecDepth 20000
set_option linter.unusedVariables false
set_option linter.unusedSimpArgs false

theorem rise_lt {l : List Int} {n : Nat} (h : Rise l n) : ∀ j i, i < j → j < n → l.getD i 0 < l.getD j 0
  | 0, i, hi, _ => by omega
  | j + 1, i, hi, hj => by
    have h1 := h (j + 1) (by omega) hj
    rw [Nat.add_sub_cancel] at h1
    rcases Nat.lt_or_ge i j with h2 | h2
    · have h3 := rise_lt h j i h2 (by omega)
      omega
    · obtain rfl : i = j := by omega
      exact h1
theorem ids_nodup {ds : List Da} (h : AreP ds) : (idsA ds).Pairwise (· ≠ ·) := by
  rw [List.pairwise_iff_getElem]
  intro i j hi hj hij
  have hl : (idsA ds).length = ds.length := by simp [idsA]
  have h1 := rise_lt h.2.1 j i hij (by omega)
  have e1 : (ds.map (·.1)).getD i 0 = (idsA ds)[i] := by rw [List.getD_eq_getElem?_getD, List.getElem?_eq_getElem (by simpa [idsA] using hi)]; rfl
  have e2 : (ds.map (·.1)).getD j 0 = (idsA ds)[j] := by rw [List.getD_eq_getElem?_getD, List.getElem?_eq_getElem (by simpa [idsA] using hj)]; rfl
  rw [e1, e2] at h1
  omega
theorem uniq_of : ∀ {ds : List Da}, (idsA ds).Pairwise (· ≠ ·) → ∀ {d e : Da}, d ∈ ds → e ∈ ds → d.1 = e.1 → d = e
  | x :: r, h, d, e, hd, he, hq => by
    have h' : (x.1 :: idsA r).Pairwise (· ≠ ·) := h
    obtain ⟨h1, h2⟩ := List.pairwise_cons.1 h'
    rcases List.mem_cons.1 hd with e1 | hd1
    · rcases List.mem_cons.1 he with e2 | he1
      · rw [e1, e2]
      · exact absurd (by rw [← e1]; exact hq) (h1 _ (List.mem_map_of_mem he1))
    · rcases List.mem_cons.1 he with e2 | he1
      · exact absurd (by rw [← e2]; exact hq.symm) (h1 _ (List.mem_map_of_mem hd1))
      · exact uniq_of h2 hd1 he1 hq
theorem filter_one : ∀ {l : List Da}, (idsA l).Pairwise (· ≠ ·) → ∀ {x : Da}, x ∈ l → (l.filter fun d => !decide (d.1 = x.1)).length + 1 = l.length
  | y :: r, h, x, hx => by
    have h' : (y.1 :: idsA r).Pairwise (· ≠ ·) := h
    obtain ⟨h1, h2⟩ := List.pairwise_cons.1 h'
    rcases List.mem_cons.1 hx with rfl | hx
    · have e : (r.filter fun d => !decide (d.1 = x.1)) = r := by
        rw [List.filter_eq_self]
        intro d hd
        have := h1 d.1 (List.mem_map_of_mem hd)
        simp only [Bool.not_eq_true', decide_eq_false_iff_not]
        exact fun q => this q.symm
      simp [e]
    · have hne : ¬ y.1 = x.1 := h1 x.1 (List.mem_map_of_mem hx)
      have ih := filter_one h2 hx
      simp [hne, ih]

def Rg.less (p q : Rg) : Bool := decide (p.num * q.den < q.num * p.den)
def pickS (f : Da → Rg) (o : Option Da) (x : Da) : Option Da := match o with
  | none => some x
  | some y => if (f x).less (f y) then some x else some y
/-- The first element with the least fraction. -/
def pickF (f : Da → Rg) (l : List Da) : Option Da := l.foldl (pickS f) none
theorem pickF_snoc (f : Da → Rg) (l : List Da) (x : Da) : pickF f (l ++ [x]) = pickS f (pickF f l) x := by unfold pickF; rw [List.foldl_append]; rfl
theorem pickF_mem {f : Da → Rg} (l : List Da) : ∀ x, pickF f l = some x → x ∈ l := by
  refine snoc_ind (p := fun l => ∀ x, pickF f l = some x → x ∈ l) (by intro x h; cases h) ?_ l
  intro l y ih x h
  rw [pickF_snoc] at h
  unfold pickS at h
  rcases hp : pickF f l with _ | z
  · rw [hp] at h
    simp only [Option.some.injEq] at h
    subst h; simp
  · rw [hp] at h
    simp only at h
    split at h
    · simp only [Option.some.injEq] at h; subst h; simp
    · simp only [Option.some.injEq] at h; subst h; exact List.mem_append_left _ (ih z hp)
theorem pickF_some {f : Da → Rg} (l : List Da) : l ≠ [] → ∃ x, pickF f l = some x := by
  refine snoc_ind (p := fun l => l ≠ [] → ∃ x, pickF f l = some x) (fun h => absurd rfl h) ?_ l
  intro l y ih _
  rw [pickF_snoc]
  unfold pickS
  split
  · exact ⟨_, rfl⟩
  · split <;> exact ⟨_, rfl⟩
/-- The items that are not among those chosen. -/
def restD (cs ds : List Da) : List Da := ds.filter fun d => !decide (d.1 ∈ idsA cs)
theorem restD_mem {cs ds : List Da} {d : Da} : d ∈ restD cs ds ↔ d ∈ ds ∧ d.1 ∉ idsA cs := by simp [restD]
theorem restD_snoc (cs ds : List Da) (d : Da) : restD cs (ds ++ [d]) = if d.1 ∈ idsA cs then restD cs ds else restD cs ds ++ [d] := by
  unfold restD
  by_cases h : d.1 ∈ idsA cs <;> simp [List.filter_append, h]
theorem restD_more (cs ds : List Da) (x : Da) : restD (cs ++ [x]) ds = (restD cs ds).filter fun d => !decide (d.1 = x.1) := by
  unfold restD
  rw [List.filter_filter]
  apply List.filter_congr
  intro d _
  simp only [idsA, List.map_append, List.mem_append, List.map_cons, List.map_nil, List.mem_singleton]
  by_cases h1 : d.1 ∈ cs.map (·.1) <;> by_cases h2 : d.1 = x.1 <;> simp [h1, h2]
noncomputable def greedF (ds cs : List Da) (x : Da) : Rg := reg ds (cs ++ [x])
noncomputable def greedy (ds : List Da) : Nat → List Da
  | 0 => []
  | k + 1 => match pickF (greedF ds (greedy ds k)) (restD (greedy ds k) ds) with
    | some x => greedy ds k ++ [x]
    | none => greedy ds k
theorem greedy_next {ds : List Da} {k : Nat} {x : Da} (h : pickF (greedF ds (greedy ds k)) (restD (greedy ds k) ds) = some x) : greedy ds (k + 1) = greedy ds k ++ [x] := by rw [greedy, h]
theorem greedy_sub (ds : List Da) : ∀ k, ∀ d ∈ greedy ds k, d ∈ ds
  | 0, d, h => by simp [greedy] at h
  | k + 1, d, h => by
    rw [greedy] at h
    split at h
    · rename_i x hx
      rcases List.mem_append.1 h with h | h
      · exact greedy_sub ds k d h
      · obtain rfl := List.mem_singleton.1 h
        exact (restD_mem.1 (pickF_mem _ _ hx)).1
    · exact greedy_sub ds k d h
theorem restD_nodup {cs ds : List Da} (h : (idsA ds).Pairwise (· ≠ ·)) : (idsA (restD cs ds)).Pairwise (· ≠ ·) := by
  unfold idsA restD
  exact List.Pairwise.sublist (List.Sublist.map _ List.filter_sublist) h
theorem greedy_len {ds : List Da} (h : (idsA ds).Pairwise (· ≠ ·)) : ∀ k, k ≤ ds.length → (greedy ds k).length = k ∧ (restD (greedy ds k) ds).length + k = ds.length
  | 0, _ => by
    refine ⟨rfl, ?_⟩
    show (restD [] ds).length + 0 = ds.length
    have e : restD [] ds = ds := by unfold restD idsA; rw [List.filter_eq_self]; simp
    rw [e]; rfl
  | k + 1, hk => by
    obtain ⟨h1, h2⟩ := greedy_len h k (by omega)
    obtain ⟨x, hx⟩ := pickF_some (f := greedF ds (greedy ds k)) (restD (greedy ds k) ds) (by intro e; rw [e] at h2; simp at h2; omega)
    rw [greedy_next hx, restD_more]
    have h3 := filter_one (restD_nodup (cs := greedy ds k) h) (pickF_mem _ _ hx)
    refine ⟨by simp [h1], by omega⟩
theorem greedy_pick {ds : List Da} (h : (idsA ds).Pairwise (· ≠ ·)) {k : Nat} (hk : k < ds.length) : ∃ x, pickF (greedF ds (greedy ds k)) (restD (greedy ds k) ds) = some x := by
  obtain ⟨h1, h2⟩ := greedy_len h k (by omega)
  exact pickF_some _ (by intro e; rw [e] at h2; simp at h2; omega)
/-- The model names the chosen items by their numbers. -/
theorem greed_ids {ds cs : List Da} (h : (idsA ds).Pairwise (· ≠ ·)) (hc : ∀ d ∈ cs, d ∈ ds) {x : Da} (hx : x ∈ ds) : reg ds (pk (idsA cs ++ [x.1]) ds) = greedF ds cs x := by
  unfold greedF
  apply reg_same
  intro d
  rw [pk_mem, List.mem_append, List.mem_append, List.mem_singleton, List.mem_singleton]
  constructor
  · rintro ⟨hd, h1 | h1⟩
    · obtain ⟨e, he, hq⟩ := List.mem_map.1 h1
      exact .inl (uniq_of h (hc e he) hd hq ▸ he)
    · exact .inr (uniq_of h hd hx h1)
  · rintro (h1 | rfl)
    · exact ⟨hc d h1, .inl (List.mem_map_of_mem h1)⟩
    · exact ⟨hx, .inr rfl⟩
def GreedP (ds : List Da) (size : Int) (r : List Int) : Prop := (AreP ds ∧ r = idsA (greedy ds (min size.toNat ds.length))) ∨ (¬ AreP ds ∧ r = [])
theorem GreedP.some (ds : List Da) (size : Int) : ∃ r, GreedP ds size r := by
  by_cases h : AreP ds
  · exact ⟨_, .inl ⟨h, rfl⟩⟩
  · exact ⟨_, .inr ⟨h, rfl⟩⟩
theorem GreedP.yes {ds : List Da} {size : Int} {r : List Int} (h : GreedP ds size r) (ha : AreP ds) : r = idsA (greedy ds (min size.toNat ds.length)) := by
  rcases h with ⟨_, h⟩ | ⟨hn, _⟩
  · exact h
  · exact absurd ha hn
theorem GreedP.no {ds : List Da} {size : Int} {r : List Int} (h : GreedP ds size r) (ha : ¬ AreP ds) : r = [] := by
  rcases h with ⟨h1, _⟩ | ⟨_, h⟩
  · exact absurd h1 ha
  · exact h
theorem GreedP.small {ds : List Da} {size : Int} {r : List Int} (h : GreedP ds size r) : r.length ≤ 16 := by
  rcases h with ⟨ha, rfl⟩ | ⟨_, rfl⟩
  · have h1 := greedy_len (ids_nodup ha) (min size.toNat ds.length) (Nat.min_le_right _ _)
    have h2 := ha.2.2
    simp only [idsA, List.length_map]
    omega
  · simp
end Go.Proofs.Ytceiocdemhkcdaa.num
