/-
  A slice of ints of the call's own, its block and its row; worlds that differ in one slice's block alone.
-/
import Derived.Test.YtceiocdemhkcdaaGreatItemIds
import Derived.Test.YtceiocdemhkcdaaGreatIntsAt
import Derived.Test.YtceiocdemhkcdaaGreatSteps
namespace Go.Proofs.YtceiocdemhkcdaaGreat.num
set_option maxRecDepth 20000
open Go.RowKit
set_option linter.unusedVariables false
set_option linter.unusedSimpArgs false

theorem ownI_below {w w' : World} {B : Nat} {v : Value} {l : List Int} (h : OwnI w B v l) (hb : Below w.heap.size w w') : OwnI w' B v l := by
  obtain ⟨h1, h2⟩ := h
  refine ⟨h1, ?_⟩
  rcases h2 with h2 | ⟨g, cap, cur, h3, h4, h5, h6⟩
  · exact .inl h2
  · exact .inr ⟨g, cap, cur, h3, h4, (hb.block g (lt_of_block h5)).trans h5, h6⟩
/-- w' is w but for the block that the slice v lies in. -/
structure OnlyV (v : Value) (w w' : World) : Prop where
  os : w'.os = w.os
  tape : w'.tape = w.tape
  output : w'.output = w.output
  size : w'.heap.size = w.heap.size
  block : ∀ k, v.ownBlock ≠ some k → w'.heap[k]? = w.heap[k]?
theorem OnlyV.refl (v : Value) (w : World) : OnlyV v w w := ⟨rfl, rfl, rfl, rfl, fun _ _ => rfl⟩
theorem OnlyV.set {g n cap : Nat} {w w' : World} (h : OnlyV (.slice (some ⟨g, 0, none⟩) n cap) w w') (j : Nat) (u : Value) : OnlyV (.slice (some ⟨g, 0, none⟩) n cap) w (w'.setCell ⟨g, j, none⟩ u) :=
  ⟨h.os, h.tape, h.output, by simpa [World.setCell] using h.size, fun k hk => (Below.heap_setCell w' ⟨g, j, none⟩ u k (fun e => hk (by rw [e]; rfl))).trans (h.block k hk)⟩
theorem OnlyV.below {v : Value} {B : Nat} {w w' : World} (h : OnlyV v w w') (hB : ∀ k, v.ownBlock = some k → B ≤ k) : Below B w w' :=
  ⟨h.os, h.tape, h.output, by rw [h.size]; exact Nat.le_refl _, fun k hk => h.block k (fun e => by have := hB k e; omega)⟩
theorem OnlyV.high {v : Value} {B : Nat} {w w' : World} (h : OnlyV v w w') (hB : ∀ k, v.ownBlock = some k → k < B) (k : Nat) (hk : B ≤ k) : w'.heap[k]? = w.heap[k]? :=
  h.block k (fun e => by have := hB k e; omega)
section
variable {w w' : World} {B : Nat} {v : Value}
theorem ownI_lows {l : List Int} (h : OwnI w B v l) : ∀ k, v.ownBlock = some k → B ≤ k := fun k hk => (World.ownsRow.lt h k hk).1
theorem ownI_tops {l : List Int} (h : OwnI w B v l) : ∀ k, v.ownBlock = some k → k < w.heap.size := fun k hk => (World.ownsRow.lt h k hk).2
theorem ownI_blocks {l : List Int} (h : OwnI w B v l) (hb : ∀ k, v.ownBlock = some k → w'.heap[k]? = w.heap[k]?) : OwnI w' B v l := by
  obtain ⟨h1, h2⟩ := h
  refine ⟨h1, ?_⟩
  rcases h2 with h2 | ⟨g, cap, cur, rfl, h4, h5, h6⟩
  · exact .inl h2
  · exact .inr ⟨g, cap, cur, rfl, h4, (hb g rfl).trans h5, h6⟩
theorem ownI_row {l : List Int} (h : OwnI w B v l) : (v = .slice none 0 0 ∧ l = []) ∨
    ∃ g cap f, v = .slice (some ⟨g, 0, none⟩) l.length cap ∧ B ≤ g ∧ l.length ≤ cap ∧ cap ≤ maxLen ∧ w.rowIs g 3 cap f ∧ ∀ j, j < l.length → (l.map (Value.int .i64))[j]? = some (f j) := by
  rcases h.2 with ⟨rfl, hl⟩ | ⟨g, cap, cur, rfl, hB, hg, h1, h2, h3, h4⟩
  · exact .inl ⟨rfl, List.eq_nil_of_length_eq_zero hl⟩
  · refine .inr ⟨g, cap, fun j => (cur[j]?).getD undef, rfl, hB, h1, h2, ⟨cur, hg, by omega, fun i hi => ?_⟩, fun j hj => ?_⟩
    · show cur[i]? = some ((cur[i]?).getD undef)
      rw [Array.getElem?_eq_getElem (by omega)]; rfl
    · show _ = some ((cur[j]?).getD undef)
      rw [← h4, List.getElem?_take_of_lt (by omega), Array.getElem?_toList, Array.getElem?_eq_getElem (by rw [h3]; omega)]; rfl
theorem ownI_of_row {l : List Int} {g n cap : Nat} {f : Nat → Value} (hB : B ≤ g) (hl : l.length = n) (hn : n ≤ cap) (hc : cap ≤ maxLen) (hr : w.rowIs g 3 cap f) (hf : ∀ j, j < n → (l.map (Value.int .i64))[j]? = some (f j)) :
    OwnI w B (.slice (some ⟨g, 0, none⟩) n cap) l := by
  subst hl
  obtain ⟨cur, hg, hs, hcur⟩ := hr
  refine ⟨by simp, .inr ⟨g, cap, cur, rfl, hB, hg, hn, hc, by omega, ?_⟩⟩
  apply List.ext_getElem?
  intro j
  rcases Nat.lt_or_ge j l.length with h | h
  · rw [List.getElem?_take_of_lt (by omega), Array.getElem?_toList, hcur j (by omega), hf j h]
  · rw [List.getElem?_eq_none (by rw [List.length_take]; omega), List.getElem?_eq_none (by simpa using h)]
end
theorem ownI_at {w : World} {B : Nat} {A : Option Addr} {n c : Nat} {l : List Int} (h : OwnI w B (.slice A n c) l) : Ints w w.heap.size A n l := by
  obtain ⟨A', n', c', e, hp⟩ := h.ints
  injection e with e1 e2 e3
  subst e1 e2 e3
  exact hp
end Go.Proofs.YtceiocdemhkcdaaGreat.num
