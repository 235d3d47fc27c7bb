/-
  Expressions as lists of nodes and as trees: what a valid expression is, how it compares two items.
-/
import Derived.Test.YtceiocdemhkcdaaGreatWishSpec
namespace Go.Proofs.YtceiocdemhkcdaaGreat.num
set_option maxRecDepth 20000
set_option linter.unusedVariables false

/-- What a node says. -/
structure ND where
  op : Int
  w : WD
/-- The zero wish. -/
structure NoW (d : WD) : Prop where
  k : d.kind = 0
  f : d.field = 0
  v : d.value = 0
  l : d.ls = []
  p : d.ps = []
/-- An operator with two operands. -/
def Bin (op : Int) : Prop := op = 1 ∨ op = 2 ∨ op = 4
inductive Tr where
  | base (d : WD)
  | dual (a : Tr)
  | bin (op : Int) (a b : Tr)
/-- The nodes are the tree's, each operator behind its operands. -/
inductive Post : List ND → Tr → Prop
  | base {nd : ND} (h : nd.op = 0) (hw : IsW nd.w) : Post [nd] (.base nd.w)
  | dual {nd : ND} {l : List ND} {a : Tr} (h : nd.op = 3) (hw : NoW nd.w) (ha : Post l a) : Post (l ++ [nd]) (.dual a)
  | bin {nd : ND} {l m : List ND} {a b : Tr} (h : Bin nd.op) (hw : NoW nd.w) (ha : Post l a) (hb : Post m b) : Post (l ++ m ++ [nd]) (.bin nd.op a b)
/-- Read from left to right, the nodes leave these trees on the stack. -/
inductive Stk : List ND → List Tr → Prop
  | nil : Stk [] []
  | base {nd : ND} {l : List ND} {st : List Tr} (hl : Stk l st) (h : nd.op = 0) (hw : IsW nd.w) : Stk (l ++ [nd]) (.base nd.w :: st)
  | dual {nd : ND} {l : List ND} {a : Tr} {st : List Tr} (hl : Stk l (a :: st)) (h : nd.op = 3) (hw : NoW nd.w) : Stk (l ++ [nd]) (.dual a :: st)
  | bin {nd : ND} {l : List ND} {a b : Tr} {st : List Tr} (hl : Stk l (b :: a :: st)) (h : Bin nd.op) (hw : NoW nd.w) : Stk (l ++ [nd]) (.bin nd.op a b :: st)
/-- A valid expression. -/
def IsE (nds : List ND) : Prop := nds.length ≤ 9 ∧ ∃ t, Post nds t

theorem Stk.inv {l : List ND} {nd : ND} {st : List Tr} (h : Stk (l ++ [nd]) st) :
    (nd.op = 0 ∧ IsW nd.w ∧ ∃ s, Stk l s ∧ st = .base nd.w :: s) ∨ (nd.op = 3 ∧ NoW nd.w ∧ ∃ a s, Stk l (a :: s) ∧ st = .dual a :: s) ∨ (Bin nd.op ∧ NoW nd.w ∧ ∃ a b s, Stk l (b :: a :: s) ∧ st = .bin nd.op a b :: s) := by
  generalize hx : l ++ [nd] = x at h
  cases h with
  | nil => simp at hx
  | base hl h hw =>
    obtain ⟨rfl, e⟩ := List.append_inj' hx rfl
    cases e
    exact .inl ⟨h, hw, _, hl, rfl⟩
  | dual hl h hw =>
    obtain ⟨rfl, e⟩ := List.append_inj' hx rfl
    cases e
    exact .inr (.inl ⟨h, hw, _, _, hl, rfl⟩)
  | bin hl h hw =>
    obtain ⟨rfl, e⟩ := List.append_inj' hx rfl
    cases e
    exact .inr (.inr ⟨h, hw, _, _, _, hl, rfl⟩)
theorem bin_ne {op : Int} (h : Bin op) : op ≠ 0 ∧ op ≠ 3 := by unfold Bin at h; omega
theorem Stk.one {l : List ND} {s s' : List Tr} (h : Stk l s) (h' : Stk l s') : s = s' := by
  induction h generalizing s' with
  | nil =>
    generalize hx : ([] : List ND) = x at h'
    cases h' with
    | nil => rfl
    | base => simp at hx
    | dual => simp at hx
    | bin => simp at hx
  | base hl h hw ih =>
    rcases h'.inv with ⟨_, _, s, k, rfl⟩ | ⟨e, _⟩ | ⟨e, _⟩
    · rw [ih k]
    · omega
    · exact absurd h (bin_ne e).1
  | dual hl h hw ih =>
    rcases h'.inv with ⟨e, _⟩ | ⟨_, _, a, s, k, rfl⟩ | ⟨e, _⟩
    · omega
    · have := ih k; simp only [List.cons.injEq] at this; rw [this.1, this.2]
    · exact absurd h (bin_ne e).2
  | bin hl h hw ih =>
    rcases h'.inv with ⟨e, _⟩ | ⟨e, _⟩ | ⟨_, _, a, b, s, k, rfl⟩
    · exact absurd e (bin_ne h).1
    · exact absurd e (bin_ne h).2
    · have := ih k; simp only [List.cons.injEq] at this; rw [this.1, this.2.1, this.2.2]
theorem snoc_ind {α : Type} {P : List α → Prop} (h0 : P []) (h1 : ∀ l x, P l → P (l ++ [x])) (l : List α) : P l := by
  have h : ∀ r : List α, P r.reverse := fun r => by
    induction r with
    | nil => exact h0
    | cons x r ih => rw [List.reverse_cons]; exact h1 _ _ ih
  simpa using h l.reverse
theorem Stk.pre {l m : List ND} {s : List Tr} (h : Stk (l ++ m) s) : ∃ s', Stk l s' := by
  revert s
  refine snoc_ind (P := fun m => ∀ {s : List Tr}, Stk (l ++ m) s → ∃ s', Stk l s') (fun {s} h => ⟨s, by simpa using h⟩) (fun m nd ih {s} h => ?_) m
  rw [← List.append_assoc] at h
  rcases h.inv with ⟨_, _, s, k, _⟩ | ⟨_, _, a, s, k, _⟩ | ⟨_, _, a, b, s, k, _⟩
  · exact ih k
  · exact ih k
  · exact ih k
theorem Stk.some {l : List ND} {s : List Tr} (h : Stk l s) (hl : l ≠ []) : s ≠ [] := by
  cases h with
  | nil => exact absurd rfl hl
  | base => simp
  | dual => simp
  | bin => simp
theorem Post.stk {m : List ND} {t : Tr} (h : Post m t) : ∀ {l : List ND} {s : List Tr}, Stk l s → Stk (l ++ m) (t :: s) := by
  induction h with
  | base h hw => intro l s hl; exact .base hl h hw
  | dual h hw ha ih => intro l s hl; rw [← List.append_assoc]; exact .dual (ih hl) h hw
  | bin h hw ha hb iha ihb => intro l s hl; rw [← List.append_assoc, ← List.append_assoc]; exact .bin (ihb (iha hl)) h hw
theorem Post.ne {m : List ND} {t : Tr} (h : Post m t) : m ≠ [] := by
  cases h with
  | base => simp
  | dual => simp
  | bin => simp
/-- The trees on a stack, each with its nodes. -/
inductive Fo : List ND → List Tr → Prop
  | nil : Fo [] []
  | snoc {l m : List ND} {t : Tr} {st : List Tr} (hl : Fo l st) (hm : Post m t) : Fo (l ++ m) (t :: st)
theorem Stk.fo {l : List ND} {s : List Tr} (h : Stk l s) : Fo l s := by
  induction h with
  | nil => exact .nil
  | base hl h hw ih => exact .snoc ih (.base h hw)
  | dual hl h hw ih =>
    cases ih with
    | snoc hl' hm => rw [List.append_assoc]; exact .snoc hl' (.dual h hw hm)
  | bin hl h hw ih =>
    cases ih with
    | snoc hl' hm =>
      cases hl' with
      | snoc hl2 hm2 => rw [List.append_assoc, List.append_assoc]; exact .snoc hl2 (by rw [← List.append_assoc]; exact .bin h hw hm2 hm)
theorem stk_post {l : List ND} {t : Tr} (h : Stk l [t]) : Post l t := by
  cases h.fo with
  | snoc hl hm =>
    cases hl with
    | nil => simpa using hm
theorem post_stk {l : List ND} {t : Tr} : Post l t ↔ Stk l [t] := ⟨fun h => by simpa using h.stk .nil, stk_post⟩
theorem Post.one {l : List ND} {t t' : Tr} (h : Post l t) (h' : Post l t') : t = t' := by
  have := (post_stk.1 h).one (post_stk.1 h')
  simpa using this
/-- Two parts that end at the same node are one. -/
theorem Post.suffix {x m : List ND} {t t' : Tr} (h : Post (x ++ m) t) (h' : Post m t') : x = [] := by
  have h1 := post_stk.1 h
  obtain ⟨s, hs⟩ := h1.pre
  have h2 := (h'.stk hs).one h1
  simp only [List.cons.injEq] at h2
  by_cases e : x = []
  · exact e
  · exact absurd h2.2 (hs.some e)
theorem Post.drop_one {l : List ND} {k k' : Nat} {t t' : Tr} (h : Post (l.drop k) t) (h' : Post (l.drop k') t') : k = k' := by
  have hk : k < l.length := by
    rcases Nat.lt_or_ge k l.length with g | g
    · exact g
    · exact absurd (List.drop_eq_nil_of_le g) h.ne
  have hk' : k' < l.length := by
    rcases Nat.lt_or_ge k' l.length with g | g
    · exact g
    · exact absurd (List.drop_eq_nil_of_le g) h'.ne
  have key : ∀ {i j : Nat} {u u' : Tr}, i ≤ j → j < l.length → Post (l.drop i) u → Post (l.drop j) u' → i = j := fun {i j u u'} hij hj hi hj' => by
    have e : l.drop i = (l.drop i).take (j - i) ++ l.drop j := by
      have h1 := (List.take_append_drop (j - i) (l.drop i)).symm
      rwa [List.drop_drop, show i + (j - i) = j by omega] at h1
    rw [e] at hi
    have h2 := congrArg List.length (hi.suffix hj')
    simp at h2
    omega
  rcases Nat.le_total k k' with g | g
  · exact key g hk' h h'
  · exact (key g hk h' h).symm
/-- The part that ends at a node behind others: by the node's kind. -/
theorem Post.inv {l : List ND} {nd : ND} {t : Tr} (h : Post (l ++ [nd]) t) :
    (nd.op = 0 ∧ IsW nd.w ∧ l = [] ∧ t = .base nd.w) ∨ (nd.op = 3 ∧ NoW nd.w ∧ ∃ a, Post l a ∧ t = .dual a) ∨ (Bin nd.op ∧ NoW nd.w ∧ ∃ x m a b, l = x ++ m ∧ Post x a ∧ Post m b ∧ t = .bin nd.op a b) := by
  generalize hx : l ++ [nd] = x at h
  cases h with
  | base h hw =>
    obtain ⟨e1, e⟩ := List.append_inj' (t₁ := [nd]) (s₂ := []) (t₂ := [_]) hx rfl
    cases e
    exact .inl ⟨h, hw, e1, rfl⟩
  | dual h hw ha =>
    obtain ⟨rfl, e⟩ := List.append_inj' hx rfl
    cases e
    exact .inr (.inl ⟨h, hw, _, ha, rfl⟩)
  | bin h hw ha hb =>
    obtain ⟨rfl, e⟩ := List.append_inj' hx rfl
    cases e
    exact .inr (.inr ⟨h, hw, _, _, _, _, rfl, ha, hb, rfl⟩)
/-- What lastPart makes of the nodes: the tree that ends at the last one, and how many nodes are left. -/
def LastP (nds : List ND) : Option (Tr × Nat) → Prop
  | some (t, k) => Post (nds.drop k) t
  | none => ∀ k t, ¬ Post (nds.drop k) t
theorem lastP_nil : LastP [] none := fun k t h => by simp at h; exact h.ne rfl
theorem post_last {l : List ND} {nd : ND} {k : Nat} {t : Tr} (h : Post ((l ++ [nd]).drop k) t) : (l ++ [nd]).drop k = l.drop k ++ [nd] := by
  have hk : k ≤ l.length := by
    rcases Nat.lt_or_ge l.length k with g | g
    · exact absurd (List.drop_eq_nil_of_le (by simp; omega)) h.ne
    · exact g
  exact List.drop_append_of_le_length hk
theorem lastP_base {l : List ND} {nd : ND} (h : nd.op = 0) : (IsW nd.w → LastP (l ++ [nd]) (some (.base nd.w, l.length))) ∧ (¬ IsW nd.w → LastP (l ++ [nd]) none) := by
  refine ⟨fun hw => ?_, fun hw k t hp => ?_⟩
  · show Post _ _
    rw [List.drop_left]
    exact .base h hw
  · rw [post_last hp] at hp
    rcases hp.inv with ⟨_, h2, _⟩ | ⟨h2, _⟩ | ⟨h2, _⟩
    · exact hw h2
    · omega
    · exact (bin_ne h2).1 h
theorem lastP_dual_no {l : List ND} {nd : ND} (h : nd.op = 3) (hl : LastP l none) : LastP (l ++ [nd]) none := fun k t hp => by
  rw [post_last hp] at hp
  rcases hp.inv with ⟨h2, _⟩ | ⟨_, _, a, ha, _⟩ | ⟨h2, _⟩
  · omega
  · exact hl _ _ ha
  · exact (bin_ne h2).2 h
theorem lastP_now_no {l : List ND} {nd : ND} (h : nd.op ≠ 0) (hw : ¬ NoW nd.w) : LastP (l ++ [nd]) none := fun k t hp => by
  rw [post_last hp] at hp
  rcases hp.inv with ⟨h2, _⟩ | ⟨_, h2, _⟩ | ⟨_, h2, _⟩
  · exact h h2
  · exact hw h2
  · exact hw h2
theorem lastP_odd {l : List ND} {nd : ND} (h0 : nd.op ≠ 0) (h3 : nd.op ≠ 3) (hb : ¬ Bin nd.op) : LastP (l ++ [nd]) none := fun k t hp => by
  rw [post_last hp] at hp
  rcases hp.inv with ⟨h2, _⟩ | ⟨h2, _⟩ | ⟨h2, _⟩
  · exact h0 h2
  · exact h3 h2
  · exact hb h2
theorem LastP.lt {l : List ND} {t : Tr} {k : Nat} (h : LastP l (some (t, k))) : k < l.length := by
  rcases Nat.lt_or_ge k l.length with g | g
  · exact g
  · exact absurd (List.drop_eq_nil_of_le g) (Post.ne h)
theorem lastP_dual {l : List ND} {nd : ND} {a : Tr} {k : Nat} (h : nd.op = 3) (hw : NoW nd.w) (hl : LastP l (some (a, k))) : LastP (l ++ [nd]) (some (.dual a, k)) := by
  show Post _ _
  rw [List.drop_append_of_le_length (Nat.le_of_lt hl.lt)]
  exact .dual h hw hl
theorem lastP_bin_no2 {l : List ND} {nd : ND} (h : Bin nd.op) (hl : LastP l none) : LastP (l ++ [nd]) none := fun k t hp => by
  rw [post_last hp] at hp
  rcases hp.inv with ⟨h2, _⟩ | ⟨h2, _⟩ | ⟨_, _, x, m, a, b, e, ha, hb, _⟩
  · exact (bin_ne h).1 h2
  · exact (bin_ne h).2 h2
  · have : m = l.drop (k + x.length) := by rw [← List.drop_drop, e, List.drop_left]
    exact hl _ _ (this ▸ hb)
theorem lastP_bin_no1 {l : List ND} {nd : ND} {b : Tr} {k2 : Nat} (h : Bin nd.op) (hl : LastP l (some (b, k2))) (hm : LastP (l.take k2) none) : LastP (l ++ [nd]) none := fun k t hp => by
  rw [post_last hp] at hp
  rcases hp.inv with ⟨h2, _⟩ | ⟨h2, _⟩ | ⟨_, _, x, m, a, b', e, ha, hb, _⟩
  · exact (bin_ne h).1 h2
  · exact (bin_ne h).2 h2
  · have hmm : m = l.drop (k + x.length) := by rw [← List.drop_drop, e, List.drop_left]
    have hk := Post.drop_one (hmm ▸ hb) hl
    have hx : x = (l.take k2).drop k := by
      rw [← hk, List.drop_take, e, show k + x.length - k = x.length by omega, List.take_left]
    exact hm _ _ (hx ▸ ha)
theorem lastP_bin {l : List ND} {nd : ND} {a b : Tr} {k1 k2 : Nat} (h : Bin nd.op) (hw : NoW nd.w) (hl : LastP l (some (b, k2))) (hm : LastP (l.take k2) (some (a, k1))) : LastP (l ++ [nd]) (some (.bin nd.op a b, k1)) := by
  have h1 := hm.lt
  have h2 := hl.lt
  rw [List.length_take] at h1
  show Post _ _
  rw [List.drop_append_of_le_length (by omega)]
  have e : l.drop k1 = (l.take k2).drop k1 ++ l.drop k2 := by
    conv => lhs; rw [← List.take_append_drop k2 l]
    rw [List.drop_append_of_le_length (by rw [List.length_take]; omega)]
  rw [e]
  exact .bin h hw hm hl
/-- The whole is valid if the part that ends at the last node is the whole. -/
theorem isE_last {l : List ND} {t : Tr} {k : Nat} (h : LastP l (some (t, k))) : IsE l ↔ l.length ≤ 9 ∧ k = 0 :=
  ⟨fun ⟨h1, u, hu⟩ => ⟨h1, by
    have hu' : Post (l.drop 0) u := by simpa using hu
    exact Post.drop_one h hu'⟩, fun ⟨h1, h2⟩ => ⟨h1, t, by subst h2; simpa using (show Post (l.drop 0) t from h)⟩⟩
theorem isE_none {l : List ND} (h : LastP l none) : ¬ IsE l := fun ⟨_, u, hu⟩ => h 0 u (by simpa using hu)
theorem isE_stk {l : List ND} {s : List Tr} (h : Stk l s) : IsE l ↔ l.length ≤ 9 ∧ s.length = 1 :=
  ⟨fun ⟨h1, u, hu⟩ => ⟨h1, by rw [h.one (post_stk.1 hu)]; rfl⟩, fun ⟨h1, h2⟩ => ⟨h1, by
    match s, h2 with
    | [t], _ => exact ⟨t, stk_post h⟩⟩⟩
theorem isE_pre {l m : List ND} (h : ¬ ∃ s, Stk l s) : ¬ IsE (l ++ m) := fun ⟨_, u, hu⟩ => h (post_stk.1 hu).pre

/-- A code turned round. -/
def revC (c : Int) : Int := if c = 1 then -1 else if c = -1 then 1 else c
/-- Two codes joined. -/
def opC (op a b : Int) : Int :=
  if op = 1 then (if a = 2 ∨ b = 2 ∨ a * b < 0 then 2 else if a ≠ 0 then a else b)
  else if op = 2 then (if a ≠ 0 then a else b)
  else if a = b then a else 2
/-- The comparison by a tree, f what each wish says. -/
def cmpT (f : WD → Int) : Tr → Int
  | .base d => f d
  | .dual a => revC (cmpT f a)
  | .bin op a b => opC op (cmpT f a) (cmpT f b)
def Code (c : Int) : Prop := c = -1 ∨ c = 0 ∨ c = 1 ∨ c = 2
theorem revC_code {c : Int} (h : Code c) : Code (revC c) := by
  unfold revC Code at *
  split
  · omega
  · split <;> omega
theorem opC_code {op a b : Int} (ha : Code a) (hb : Code b) : Code (opC op a b) := by
  unfold opC
  have h2 : Code 2 := .inr (.inr (.inr rfl))
  split
  · split
    · exact h2
    · split <;> assumption
  · split
    · split <;> assumption
    · split
      · assumption
      · exact h2
theorem cmpT_code {f : WD → Int} (hf : ∀ d, Code (f d)) : ∀ t, Code (cmpT f t)
  | .base d => hf d
  | .dual a => revC_code (cmpT_code hf a)
  | .bin op a b => opC_code (cmpT_code hf a) (cmpT_code hf b)
end Go.Proofs.YtceiocdemhkcdaaGreat.num
