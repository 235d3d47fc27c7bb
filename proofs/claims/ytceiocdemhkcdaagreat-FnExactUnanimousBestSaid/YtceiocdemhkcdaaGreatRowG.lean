/-
  Rows of elements of several cells, told once for every kind of element: slices that read as a list, and slices that the call itself made.
-/
import Derived.WalkKit
import Derived.ProofKit
import Derived.Lib.Hide
import Derived.Below
import Derived.Deep.OwnRows
import Derived.Deep.Upon
import Derived.Maps.AppendAt
namespace Go.Proofs.YtceiocdemhkcdaaGreat.num
set_option maxRecDepth 20000
open Go.RowKit
set_option linter.unusedVariables false
set_option linter.unusedSimpArgs false

section
variable {α : Type} {f : α → List Value} {s : Nat}

theorem fm_len (hf : ∀ x, (f x).length = s) : ∀ l : List α, (l.flatMap f).length = l.length * s
  | [] => by simp
  | x :: r => by rw [List.flatMap_cons, List.length_append, hf, fm_len hf r, List.length_cons, Nat.add_mul, Nat.one_mul, Nat.add_comm]
theorem fm_at (hf : ∀ x, (f x).length = s) : ∀ (l : List α) (k j : Nat) (x : α), l[k]? = some x → j < s → (l.flatMap f)[k * s + j]? = (f x)[j]?
  | [], k, j, x, h, hj => by simp at h
  | y :: r, 0, j, x, h, hj => by
    simp at h
    subst h
    rw [Nat.zero_mul, Nat.zero_add, List.flatMap_cons, List.getElem?_append_left (by rw [hf]; exact hj)]
  | y :: r, k + 1, j, x, h, hj => by
    rw [List.flatMap_cons, List.getElem?_append_right (by rw [hf, Nat.add_mul]; omega), hf, show (k + 1) * s + j - s = k * s + j by rw [Nat.add_mul]; omega]
    exact fm_at hf r k j x (by simpa using h) hj
theorem fm_one (h1 : ∀ x, ∀ u ∈ f x, u.oneCell' = true) (l : List α) : ∀ u ∈ l.flatMap f, u.oneCell' = true := fun u hu => by
  obtain ⟨x, _, hx⟩ := List.mem_flatMap.1 hu
  exact h1 x u hx
theorem fm_take (hf : ∀ x, (f x).length = s) : ∀ (l : List α) (k : Nat), (l.take k).flatMap f = (l.flatMap f).take (k * s)
  | [], k => by simp
  | x :: r, 0 => by simp
  | x :: r, k + 1 => by
    have e : (k + 1) * s = (f x).length + k * s := by rw [hf, Nat.add_mul]; omega
    rw [List.take_succ_cons, List.flatMap_cons, List.flatMap_cons, fm_take hf r k, e, List.take_append]
    congr 1
    · rw [List.take_of_length_le (by omega)]
    · congr 1; omega

/-- A slice that reads as l, below block B. -/
structure ReadG (f : α → List Value) (s : Nat) (w : World) (B : Nat) (A : Option Addr) (n : Nat) (l : List α) : Prop where
  len : l.length = n
  at' : ∀ k x, l[k]? = some x → ∃ b off : Nat, A = some ⟨b, off, none⟩ ∧ b < B ∧ ∀ j v, (f x)[j]? = some v → w.cell? ⟨b, off + k * s + j, none⟩ = some v
theorem ReadG.blocks {w w' : World} {B : Nat} {A : Option Addr} {n : Nat} {l : List α} (h : ReadG f s w B A n l) (hb : ∀ k, k < B → w'.heap[k]? = w.heap[k]?) : ReadG f s w' B A n l :=
  ⟨h.len, fun k x hk => by
    obtain ⟨b, off, ha, hB, hc⟩ := h.at' k x hk
    exact ⟨b, off, ha, hB, fun j v hj => (World.cell?_of_block (hb b hB)).trans (hc j v hj)⟩⟩
theorem ReadG.below {w w' : World} {B : Nat} {A : Option Addr} {n : Nat} {l : List α} (h : ReadG f s w B A n l) (hb : Below B w w') : ReadG f s w' B A n l := h.blocks hb.block
theorem ReadG.more {w : World} {B B' : Nat} {A : Option Addr} {n : Nat} {l : List α} (h : ReadG f s w B A n l) (hB : B ≤ B') : ReadG f s w B' A n l :=
  ⟨h.len, fun k x hk => by
    obtain ⟨b, off, ha, hb, hc⟩ := h.at' k x hk
    exact ⟨b, off, ha, by omega, hc⟩⟩
theorem ReadG.take {w : World} {B : Nat} {A : Option Addr} {n : Nat} {l : List α} (h : ReadG f s w B A n l) {k : Nat} (hk : k ≤ n) : ReadG f s w B A k (l.take k) :=
  ⟨by rw [List.length_take, h.len]; omega, fun j x hj => h.at' j x (by
    rw [List.getElem?_take] at hj
    split at hj
    · exact hj
    · cases hj)⟩
theorem ReadG.nil (w : World) (B : Nat) (A : Option Addr) : ReadG f s w B A 0 [] := ⟨rfl, fun k x hk => by simp at hk⟩
theorem ReadG.get {w : World} {B : Nat} {A : Option Addr} {n : Nat} {l : List α} (h : ReadG f s w B A n l) {k : Nat} (hk : k < n) : ∃ x, l[k]? = some x := ⟨_, List.getElem?_eq_getElem (by rw [h.len]; exact hk)⟩
/-- All cells of a slice that is not empty. -/
theorem ReadG.cells (hf : ∀ x, (f x).length = s) {w : World} {B : Nat} {A : Option Addr} {n : Nat} {l : List α} (h : ReadG f s w B A n l) (hn : 0 < n) : ∃ b off : Nat, A = some ⟨b, off, none⟩ ∧ b < B ∧ ∀ j v, (l.flatMap f)[j]? = some v → w.cell? ⟨b, off + j, none⟩ = some v := by
  obtain ⟨x0, h0⟩ := h.get hn
  obtain ⟨b, off, rfl, hB, _⟩ := h.at' 0 x0 h0
  refine ⟨b, off, rfl, hB, fun j v hj => ?_⟩
  have hjl : j < (l.flatMap f).length := by
    rcases Nat.lt_or_ge j (l.flatMap f).length with g | g
    · exact g
    · rw [List.getElem?_eq_none g] at hj; cases hj
  rw [fm_len hf, h.len] at hjl
  have hs : 0 < s := by
    rcases Nat.eq_zero_or_pos s with e | e
    · subst e; simp at hjl
    · exact e
  have hk : j / s < n := by rw [Nat.div_lt_iff_lt_mul hs]; exact hjl
  obtain ⟨x, hx⟩ := h.get hk
  obtain ⟨b', off', he, _, hc⟩ := h.at' _ x hx
  injection he with he
  injection he with e1 e2
  subst e1 e2
  have hd := Nat.div_add_mod j s
  have hm := Nat.mod_lt j hs
  have e : j / s * s + j % s = j := by rw [Nat.mul_comm]; exact hd
  have h2 := hc (j % s) v (by rw [← fm_at hf l (j / s) (j % s) x hx hm, e]; exact hj)
  rwa [Nat.add_assoc, e] at h2

/-- The slice value v is the call's own (blocks from B on) and holds l. -/
def OwnG (T : TypeId) (f : α → List Value) (s : Nat) (w : World) (B : Nat) (v : Value) (l : List α) : Prop := w.ownsRow B T s v l.length (l.flatMap f)
variable {T : TypeId}
theorem OwnG.nil (w : World) (B : Nat) : OwnG T f s w B (.slice none 0 0) [] := ⟨by simp, .inl ⟨rfl, rfl⟩⟩
theorem OwnG.empty (w : World) (B : Nat) (hB : B ≤ w.heap.size) : OwnG T f s (w.alloc (.cells #[] T)) B (.slice (some ⟨w.heap.size, 0, none⟩) 0 0) [] := World.ownsRow_made w #[] 0 hB (Nat.zero_le _) (by simp)
theorem OwnG.blocks {w w' : World} {B : Nat} {v : Value} {l : List α} (h : OwnG T f s w B v l) (hb : ∀ k, v.ownBlock = some k → w'.heap[k]? = w.heap[k]?) : OwnG T f s w' B v l := by
  obtain ⟨h1, h2⟩ := h
  refine ⟨h1, ?_⟩
  rcases h2 with h2 | ⟨g, cap, cur, rfl, h4, h5, h6⟩
  · exact .inl h2
  · exact .inr ⟨g, cap, cur, rfl, h4, (hb g rfl).trans h5, h6⟩
theorem OwnG.lows {w : World} {B : Nat} {v : Value} {l : List α} (h : OwnG T f s w B v l) : ∀ k, v.ownBlock = some k → B ≤ k := fun k hk => (World.ownsRow.lt h k hk).1
theorem OwnG.tops {w : World} {B : Nat} {v : Value} {l : List α} (h : OwnG T f s w B v l) : ∀ k, v.ownBlock = some k → k < w.heap.size := fun k hk => (World.ownsRow.lt h k hk).2
theorem OwnG.below {w w' : World} {B : Nat} {v : Value} {l : List α} (h : OwnG T f s w B v l) (hb : Below w.heap.size w w') : OwnG T f s w' B v l := h.blocks fun k hk => hb.block k (h.tops k hk)
theorem OwnG.low {w : World} {B B' : Nat} {v : Value} {l : List α} (h : OwnG T f s w B v l) (hB : B' ≤ B) : OwnG T f s w B' v l :=
  ⟨h.1, h.2.imp id fun ⟨g, cap, cur, h1, h2, h3⟩ => ⟨g, cap, cur, h1, Nat.le_trans hB h2, h3⟩⟩
theorem OwnG.high {w : World} {B B' : Nat} {v : Value} {l : List α} (h : OwnG T f s w B v l) (hB : ∀ k, v.ownBlock = some k → B' ≤ k) : OwnG T f s w B' v l := by
  obtain ⟨h1, h2⟩ := h
  refine ⟨h1, ?_⟩
  rcases h2 with h2 | ⟨g, cap, cur, rfl, h4, h5⟩
  · exact .inl h2
  · exact .inr ⟨g, cap, cur, rfl, hB g rfl, h5⟩
theorem OwnG.shape {w : World} {B : Nat} {v : Value} {l : List α} (h : OwnG T f s w B v l) : ∃ A c, v = .slice A l.length c ∧ l.length ≤ c ∧ c ≤ maxLen := by
  rcases h.2 with ⟨rfl, hl⟩ | ⟨g, cap, cur, rfl, _, _, h1, h2, _⟩
  · exact ⟨none, 0, by rw [hl], by omega, by unfold maxLen; omega⟩
  · exact ⟨_, cap, rfl, h1, h2⟩
/-- What is owned reads as its list. -/
theorem OwnG.read (hf : ∀ x, (f x).length = s) {w : World} {B : Nat} {A : Option Addr} {n c : Nat} {l : List α} (h : OwnG T f s w B (.slice A n c) l) : ReadG f s w w.heap.size A n l := by
  have h0 := h
  rcases h.2 with ⟨e, hl⟩ | ⟨g, cap, cur, e, _, hg, _, _, h3, h4⟩
  · obtain rfl : l = [] := List.eq_nil_of_length_eq_zero hl
    injection e with e1 e2 e3
    subst e2
    exact .nil _ _ _
  · injection e with e1 e2 e3
    subst e1 e2 e3
    refine ⟨rfl, fun k x hk => ⟨g, 0, rfl, lt_of_block hg, fun j v hj => ?_⟩⟩
    have hjs : j < s := by
      rw [← hf x]
      rcases Nat.lt_or_ge j (f x).length with q | q
      · exact q
      · rw [List.getElem?_eq_none q] at hj; cases hj
    have h5 := World.ownsRow.cells h0 (g := g) rfl (k * s + j) v (by rw [fm_at hf l k j x hk hjs]; exact hj)
    have e : (⟨g, 0, none⟩ : Addr).add (k * s + j) = ⟨g, 0 + k * s + j, none⟩ := by unfold Addr.add; split <;> simp_all [Nat.add_assoc]
    rwa [e] at h5
/-- The row behind what is owned. -/
theorem OwnG.row {w : World} {B : Nat} {v : Value} {l : List α} (h : OwnG T f s w B v l) : (v = .slice none 0 0 ∧ l = []) ∨
    ∃ g cap F, v = .slice (some ⟨g, 0, none⟩) l.length cap ∧ B ≤ g ∧ l.length ≤ cap ∧ cap ≤ maxLen ∧ w.rowIs g T (cap * s) F ∧ ∀ j, j < l.length * s → (l.flatMap f)[j]? = some (F j) := by
  rcases h.2 with ⟨rfl, hl⟩ | ⟨g, cap, cur, rfl, hB, hg, h1, h2, h3, h4⟩
  · exact .inl ⟨rfl, List.eq_nil_of_length_eq_zero hl⟩
  · have hle : l.length * s ≤ cap * s := Nat.mul_le_mul_right _ h1
    refine .inr ⟨g, cap, fun j => (cur[j]?).getD undef, rfl, hB, h1, h2, ⟨cur, hg, h3, fun i hi => ?_⟩, fun j hj => ?_⟩
    · show cur[i]? = some ((cur[i]?).getD undef)
      rw [Array.getElem?_eq_getElem (by omega)]; rfl
    · show _ = some ((cur[j]?).getD undef)
      rw [← h4, List.getElem?_take_of_lt hj, Array.getElem?_toList, Array.getElem?_eq_getElem (by rw [h3]; omega)]; rfl
theorem OwnG.of_row (hf : ∀ x, (f x).length = s) {w : World} {B : Nat} {l : List α} {g n cap : Nat} {F : Nat → Value} (hB : B ≤ g) (hl : l.length = n) (hn : n ≤ cap) (hc : cap ≤ maxLen) (hr : w.rowIs g T (cap * s) F) (hF : ∀ j, j < n * s → (l.flatMap f)[j]? = some (F j)) :
    OwnG T f s w B (.slice (some ⟨g, 0, none⟩) n cap) l := by
  subst hl
  obtain ⟨cur, hg, hs, hcur⟩ := hr
  have hle : l.length * s ≤ cap * s := Nat.mul_le_mul_right _ hn
  refine ⟨fm_len hf l, .inr ⟨g, cap, cur, rfl, hB, hg, hn, hc, hs, ?_⟩⟩
  apply List.ext_getElem?
  intro j
  rcases Nat.lt_or_ge j (l.length * s) with h | h
  · rw [List.getElem?_take_of_lt h, Array.getElem?_toList, hcur j (by omega), hF j h]
  · rw [List.getElem?_eq_none (by rw [List.length_take]; omega), List.getElem?_eq_none (by rw [fm_len hf]; exact h)]
/-- A shorter slice of the same row. -/
theorem OwnG.take (hf : ∀ x, (f x).length = s) {w : World} {B : Nat} {A : Option Addr} {n c k : Nat} {l : List α} (h : OwnG T f s w B (.slice A n c) l) (hk : k ≤ n) : OwnG T f s w B (.slice A k c) (l.take k) := by
  rcases h.2 with ⟨e, hl⟩ | ⟨g, cap, cur, e, hB, hg, h1, h2, h3, h4⟩
  · injection e with e1 e2 e3
    subst e1 e2 e3
    obtain rfl : k = 0 := by omega
    simp only [List.take_zero]
    exact .nil _ _
  · injection e with e1 e2 e3
    subst e1 e2 e3
    have hlen : (l.take k).length = k := by rw [List.length_take]; omega
    refine ⟨by rw [fm_len hf], .inr ⟨g, c, cur, by rw [hlen], hB, hg, by omega, h2, h3, ?_⟩⟩
    rw [fm_take hf, ← h4, List.take_take, hlen]
    congr 1
    have := Nat.mul_le_mul_right s hk
    omega
/-- Cell j of a row that holds l, and z behind it. -/
def cellG (f : α → List Value) (z : Nat → Value) (l : List α) (j : Nat) : Value := ((l.flatMap f)[j]?).getD (z j)
theorem cellG_at (hf : ∀ x, (f x).length = s) (z : Nat → Value) {l : List α} {k i : Nat} {x : α} {v : Value} (hk : l[k]? = some x) (hv : (f x)[i]? = some v) : cellG f z l (k * s + i) = v := by
  have hi : i < s := by
    rw [← hf x]
    rcases Nat.lt_or_ge i (f x).length with q | q
    · exact q
    · rw [List.getElem?_eq_none q] at hv; cases hv
  unfold cellG
  rw [fm_at hf l k i x hk hi, hv]
  rfl
theorem cellG_none (hf : ∀ x, (f x).length = s) (z : Nat → Value) {l : List α} {j : Nat} (h : l.length * s ≤ j) : cellG f z l j = z j := by
  unfold cellG
  rw [List.getElem?_eq_none (by rw [fm_len hf]; exact h)]
  rfl
theorem cellG_more (hf : ∀ x, (f x).length = s) (z : Nat → Value) {l : List α} {k : Nat} (hk : l.length = k) (x : α) {j : Nat} (h : j < k * s ∨ (k + 1) * s ≤ j) : cellG f z (l ++ [x]) j = cellG f z l j := by
  unfold cellG
  rcases h with h | h
  · rw [List.flatMap_append, List.getElem?_append_left (by rw [fm_len hf, hk]; exact h)]
  · rw [List.getElem?_eq_none (by rw [fm_len hf, List.length_append, hk]; exact h), List.getElem?_eq_none (by rw [fm_len hf, hk]; have := Nat.mul_le_mul_right s (show k ≤ k + 1 by omega); omega)]
theorem cellG_last (hf : ∀ x, (f x).length = s) (z : Nat → Value) {l : List α} {k i : Nat} (hk : l.length = k) (x : α) {v : Value} (hv : (f x)[i]? = some v) : cellG f z (l ++ [x]) (k * s + i) = v :=
  cellG_at hf z (by rw [List.getElem?_append_right (by omega), hk]; simp) hv
theorem cellG_own (hf : ∀ x, (f x).length = s) (z : Nat → Value) {l : List α} {n : Nat} (hl : l.length = n) {j : Nat} (h : j < n * s) : (l.flatMap f)[j]? = some (cellG f z l j) := by
  unfold cellG
  rw [List.getElem?_eq_getElem (by rw [fm_len hf, hl]; exact h)]
  rfl
end
end Go.Proofs.YtceiocdemhkcdaaGreat.num
