/-
  Slices of the call's own whose elements own memory too, whatever the elements are; how such a slice is marked and looked at.
-/
import Derived.Test.YtceiocdemhkcdaaOnlySet
import Derived.Test.YtceiocdemhkcdaaAppG
import Derived.Test.YtceiocdemhkcdaaGetSnoc
namespace Go.Proofs.Ytceiocdemhkcdaa.num
set_option maxRecDepth 20000
open Go.RowKit
set_option linter.unusedVariables false

/-- A kind of element: its cells, what is asked of one, and the blocks that it owns. -/
structure Kd (α : Type) where
  f : α → List Value
  s : Nat
  T : TypeId
  ok : World → Nat → α → Prop
  has : α → Nat → Prop
  len : ∀ x, (f x).length = s
  blocks : ∀ {w w' : World} {B : Nat} {x : α}, ok w B x → (∀ b, has x b → w'.heap[b]? = w.heap[b]?) → ok w' B x
  inn : ∀ {w : World} {B : Nat} {x : α} {b : Nat}, ok w B x → has x b → B ≤ b ∧ b < w.heap.size
  low : ∀ {w : World} {B B' : Nat} {x : α}, ok w B x → B' ≤ B → ok w B' x
/-- The slice v and all that its elements hold are the call's own, apart from one another. -/
structure OwnX {α : Type} (K : Kd α) (w : World) (B : Nat) (v : Value) (l : List α) : Prop where
  r : OwnG K.T K.f K.s w B v l
  x : ∀ (k : Nat) (x : α), l[k]? = some x → K.ok w B x
  a : ∀ (k : Nat) (x : α) (b : Nat), l[k]? = some x → K.has x b → v.ownBlock ≠ some b
  d : ∀ (i j : Nat) (x y : α) (b : Nat), i < j → l[i]? = some x → l[j]? = some y → K.has x b → ¬ K.has y b
/-- The blocks of the slice v and of its elements. -/
def hasX {α : Type} (K : Kd α) (v : Value) (l : List α) (b : Nat) : Prop := v.ownBlock = some b ∨ ∃ x ∈ l, K.has x b
section
variable {α : Type} {K : Kd α}
theorem OwnX.nil (w : World) (B : Nat) : OwnX K w B (.slice none 0 0) [] := ⟨.nil _ _, by simp, by simp, by simp⟩
theorem OwnX.has_in {w : World} {B : Nat} {v : Value} {l : List α} (h : OwnX K w B v l) {b : Nat} (hb : hasX K v l b) : B ≤ b ∧ b < w.heap.size := by
  rcases hb with hb | ⟨x, hx, hb⟩
  · exact ⟨h.r.lows b hb, h.r.tops b hb⟩
  · obtain ⟨k, hk, rfl⟩ := List.getElem_of_mem hx
    exact K.inn (h.x k _ (List.getElem?_eq_getElem hk)) hb
theorem OwnX.blocks {w w' : World} {B : Nat} {v : Value} {l : List α} (h : OwnX K w B v l) (hb : ∀ b, hasX K v l b → w'.heap[b]? = w.heap[b]?) : OwnX K w' B v l :=
  ⟨h.r.blocks fun k hk => hb k (.inl hk), fun k x hk => K.blocks (h.x k x hk) fun b hb' => hb b (.inr ⟨x, List.mem_of_getElem? hk, hb'⟩), h.a, h.d⟩
theorem OwnX.below {w w' : World} {B : Nat} {v : Value} {l : List α} (h : OwnX K w B v l) (hb : Below w.heap.size w w') : OwnX K w' B v l := h.blocks fun b k => hb.block b (h.has_in k).2
theorem OwnX.low {w : World} {B B' : Nat} {v : Value} {l : List α} (h : OwnX K w B v l) (hB : B' ≤ B) : OwnX K w B' v l := ⟨h.r.low hB, fun k x hk => K.low (h.x k x hk) hB, h.a, h.d⟩
/-- One element more. N: where the grown row lies, if it is a new one. -/
theorem OwnX.snoc {w w' : World} {B N : Nat} {v v' : Value} {l : List α} {x : α} (h : OwnX K w B v l) (hg : w.grownBy w' v.ownBlock) (hat : v'.ownBlock = v.ownBlock ∨ v'.ownBlock = some N) (hN : w.heap.size ≤ N) (hr : OwnG K.T K.f K.s w' B v' (l ++ [x])) (hx : K.ok w B x) (hap : ∀ b, K.has x b → ¬ hasX K v l b) : OwnX K w' B v' (l ++ [x]) := by
  have hin : ∀ (i : Nat) (y : α) (b : Nat), l[i]? = some y → K.has y b → hasX K v l b := fun i y b hy hb => .inr ⟨y, List.mem_of_getElem? hy, hb⟩
  have hnb : ∀ b, K.has x b → some b ≠ v.ownBlock := fun b hb e => hap b hb (.inl e.symm)
  refine ⟨hr, ?_, ?_, ?_⟩
  · intro i y hy
    rcases get_snoc rfl hy with ⟨_, hy⟩ | ⟨_, rfl⟩
    · exact K.blocks (h.x i y hy) fun b hb => hg.block b (K.inn (h.x i y hy) hb).2 fun e => h.a i y b hy hb e.symm
    · exact K.blocks hx fun b hb => hg.block b (K.inn hx hb).2 (hnb b hb)
  · intro i y b hy hb e
    rcases get_snoc rfl hy with ⟨_, hy⟩ | ⟨_, rfl⟩
    · rcases hat with q | q
      · exact h.a i y b hy hb (q ▸ e)
      · have h2 := (h.has_in (hin i y b hy hb)).2
        rw [q] at e
        have := Option.some.inj e
        omega
    · rcases hat with q | q
      · exact hnb b hb (q ▸ e).symm
      · have h2 := (K.inn hx hb).2
        rw [q] at e
        have := Option.some.inj e
        omega
  · intro i j y z b hij hy hz hb hb'
    rcases get_snoc rfl hz with ⟨hj, hz⟩ | ⟨hj, rfl⟩
    · rcases get_snoc rfl hy with ⟨_, hy⟩ | ⟨hi, _⟩
      · exact h.d i j y z b hij hy hz hb hb'
      · omega
    · rcases get_snoc rfl hy with ⟨_, hy⟩ | ⟨hi, _⟩
      · exact hap b hb' (hin i y b hy hb)
      · omega
/-- One element is another, with the same blocks. -/
theorem OwnX.put {w w6 : World} {B : Nat} {v : Value} {l : List α} {k : Nat} {x y : α} (h : OwnX K w B v l) (hk : l[k]? = some x) (hr : OwnG K.T K.f K.s w6 B v (l.set k y)) (hy : K.ok w6 B y) (hhas : ∀ b, K.has y b → K.has x b) (hoth : ∀ b, v.ownBlock ≠ some b → ¬ K.has x b → w6.heap[b]? = w.heap[b]?) :
    OwnX K w6 B v (l.set k y) ∧ ∀ b, hasX K v (l.set k y) b → hasX K v l b := by
  have hlt : k < l.length := by
    rcases Nat.lt_or_ge k l.length with q | q
    · exact q
    · rw [List.getElem?_eq_none q] at hk; cases hk
  have hget : ∀ (i : Nat) (z : α), (l.set k y)[i]? = some z → (i = k ∧ z = y) ∨ (i ≠ k ∧ l[i]? = some z) := fun i z hz => by
    by_cases e : i = k
    · subst e
      rw [List.getElem?_set_self hlt] at hz
      exact .inl ⟨rfl, (Option.some.inj hz).symm⟩
    · rw [List.getElem?_set_ne (fun e' => e e'.symm)] at hz
      exact .inr ⟨e, hz⟩
  refine ⟨⟨hr, ?_, ?_, ?_⟩, ?_⟩
  · intro i z hz
    rcases hget i z hz with ⟨rfl, rfl⟩ | ⟨hne, hz⟩
    · exact hy
    · refine K.blocks (h.x i z hz) fun b hb => hoth b (h.a i z b hz hb) fun hb' => ?_
      rcases Nat.lt_or_gt_of_ne hne with q | q
      · exact h.d i k z x b q hz hk hb hb'
      · exact h.d k i x z b q hk hz hb' hb
  · intro i z b hz hb
    rcases hget i z hz with ⟨rfl, rfl⟩ | ⟨hne, hz⟩
    · exact h.a i x b hk (hhas b hb)
    · exact h.a i z b hz hb
  · intro i j z u b hij hz hu hb hb'
    rcases hget i z hz with ⟨ei, rfl⟩ | ⟨_, hz2⟩ <;> rcases hget j u hu with ⟨ej, rfl⟩ | ⟨_, hu2⟩
    · omega
    · exact h.d i j x u b hij (by rw [ei]; exact hk) hu2 (hhas b hb) hb'
    · exact h.d i j z x b hij hz2 (by rw [ej]; exact hk) hb (hhas b hb')
    · exact h.d i j z u b hij hz2 hu2 hb hb'
  · intro b hb
    rcases hb with hb | ⟨z, hz, hb⟩
    · exact .inl hb
    · obtain ⟨i, hi, rfl⟩ := List.getElem_of_mem hz
      rcases hget i _ (List.getElem?_eq_getElem hi) with ⟨_, e⟩ | ⟨_, hz'⟩
      · rw [e] at hb
        exact .inr ⟨x, List.mem_of_getElem? hk, hhas b hb⟩
      · exact .inr ⟨_, List.mem_of_getElem? hz', hb⟩
theorem OwnX.cells_at {w : World} {B g n c k : Nat} {l : List α} {x : α} (h : OwnX K w B (.slice (some ⟨g, 0, none⟩) n c) l) (hk : l[k]? = some x) : (∀ (j : Nat) (v : Value), (K.f x)[j]? = some v → w.cell? ⟨g, k * K.s + j, none⟩ = some v) ∧ ∀ j, w.frozen? ⟨g, j, none⟩ = false := by
  refine ⟨fun j v hv => ?_, fun j => ?_⟩
  · obtain ⟨b, off, e, _, hc⟩ := (h.r.read K.len).at' k x hk
    injection e with e
    injection e with e1 e2
    subst e1 e2
    have := hc j v hv
    rwa [Nat.zero_add] at this
  · rcases h.r.row with ⟨e, _⟩ | ⟨g', cap, f, e, _, _, _, hrow, _⟩
    · cases e
    · injection e with e _ _
      injection e with e
      injection e with e
      subst e
      exact World.rowIs.frozen hrow j
/-- A slice that a call handed back: its memory from lo up to hi. -/
structure ResX (K : Kd α) (w : World) (lo hi : Nat) (v : Value) (l : List α) : Prop where
  own : OwnX K w lo v l
  top : ∀ b, hasX K v l b → b < hi
  le : hi ≤ w.heap.size
theorem ResX.new {w : World} {lo : Nat} {v : Value} {l : List α} (h : OwnX K w lo v l) : ResX K w lo w.heap.size v l := ⟨h, fun b hb => (h.has_in hb).2, Nat.le_refl _⟩
theorem ResX.step {w w' : World} {lo hi : Nat} {v : Value} {l : List α} (h : ResX K w lo hi v l) (hb : Below w.heap.size w w') : ResX K w' lo hi v l := ⟨h.own.below hb, h.top, Nat.le_trans h.le hb.size⟩
theorem ResX.only {S : Nat → Prop} {w w' : World} {lo hi : Nat} {v : Value} {l : List α} (h : ResX K w lo hi v l) (ho : OnlyS S w w') (hs : ∀ b, S b → b < lo ∨ hi ≤ b) : ResX K w' lo hi v l :=
  ⟨h.own.blocks fun b hb => ho.block b fun e => by
    have h1 := h.top b hb
    have h2 := (h.own.has_in hb).1
    rcases hs b e with q | q <;> omega, h.top, by rw [ho.size]; exact h.le⟩
/-- The marks, one element behind the other: mk k x is x marked from k on, cnt x how many marks it takes. -/
def markG (mk : Nat → α → α) (cnt : α → Nat) : Nat → List α → List α
  | _, [] => []
  | k, x :: r => mk k x :: markG mk cnt (k + cnt x) r
def cntG (cnt : α → Nat) : List α → Nat
  | [] => 0
  | x :: r => cnt x + cntG cnt r
variable {mk : Nat → α → α} {cnt : α → Nat}
theorem cntG_snoc (l : List α) (x : α) : cntG cnt (l ++ [x]) = cntG cnt l + cnt x := by
  induction l with
  | nil => simp [cntG]
  | cons y r ih => simp only [List.cons_append, cntG, ih]; omega
theorem markG_len (l : List α) : ∀ k, (markG mk cnt k l).length = l.length := by
  induction l with
  | nil => intro k; rfl
  | cons y r ih => intro k; simp [markG, ih]
theorem markG_snoc (l : List α) (x : α) : ∀ k, markG mk cnt k (l ++ [x]) = markG mk cnt k l ++ [mk (k + cntG cnt l) x] := by
  induction l with
  | nil => intro k; simp [markG, cntG]
  | cons y r ih => intro k; simp only [List.cons_append, markG, ih, cntG, Nat.add_assoc]
theorem markG_at (l : List α) : ∀ (k i : Nat) (x : α), l[i]? = some x → (markG mk cnt k l)[i]? = some (mk (k + cntG cnt (l.take i)) x) := by
  induction l with
  | nil => intro k i x h; simp at h
  | cons y r ih =>
    intro k i x h
    cases i with
    | zero => simp at h; subst h; simp [markG, cntG]
    | succ i =>
      simp only [List.getElem?_cons_succ] at h
      simp only [markG, List.getElem?_cons_succ, List.take_succ_cons, cntG]
      rw [ih _ i x h, Nat.add_assoc]
theorem cntG_le {M : Nat} {l : List α} (h : ∀ x ∈ l, cnt x ≤ M) : cntG cnt l ≤ l.length * M := by
  induction l with
  | nil => simp [cntG]
  | cons y r ih =>
    have h1 := h y (List.mem_cons_self ..)
    have h2 := ih fun x hx => h x (List.mem_cons_of_mem _ hx)
    simp only [cntG, List.length_cons, Nat.add_mul]
    omega
theorem markG_step {l : List α} {k k0 : Nat} {x : α} (h : l[k]? = some x) : (markG mk cnt k0 (l.take k) ++ l.drop k)[k]? = some x ∧ (markG mk cnt k0 (l.take k) ++ l.drop k).set k (mk (k0 + cntG cnt (l.take k)) x) = markG mk cnt k0 (l.take (k + 1)) ++ l.drop (k + 1) := by
  have hlt : k < l.length := by
    rcases Nat.lt_or_ge k l.length with g | g
    · exact g
    · rw [List.getElem?_eq_none g] at h; cases h
  have hl : (markG mk cnt k0 (l.take k)).length = k := by rw [markG_len, List.length_take]; omega
  have hd : l.drop k = x :: l.drop (k + 1) := by
    rw [List.drop_eq_getElem_cons hlt]
    rw [List.getElem?_eq_getElem hlt] at h
    rw [Option.some.inj h]
  refine ⟨by rw [List.getElem?_append_right (by omega), hl, hd]; simp, ?_⟩
  rw [List.set_append_right _ _ (by omega), hl, hd, Nat.sub_self, List.set_cons_zero, take_at h, markG_snoc, List.append_assoc]
  rfl
theorem markG_has (hm : ∀ k x b, K.has (mk k x) b → K.has x b) {v : Value} (l : List α) : ∀ (k : Nat) (b : Nat), hasX K v (markG mk cnt k l) b → hasX K v l b := fun k b hb => by
  rcases hb with hb | ⟨y, hy, hb⟩
  · exact .inl hb
  · obtain ⟨i, hi, rfl⟩ := List.getElem_of_mem hy
    have hi' : i < l.length := by rw [markG_len] at hi; exact hi
    have h1 := markG_at (mk := mk) (cnt := cnt) l k i _ (List.getElem?_eq_getElem hi')
    rw [List.getElem?_eq_getElem hi] at h1
    rw [Option.some.inj h1] at hb
    exact .inr ⟨_, List.getElem_mem hi', hm _ _ _ hb⟩
end
end Go.Proofs.Ytceiocdemhkcdaa.num
