/-
  Arguments that are items, slices of items: opened to what the walks ask.
-/
import Derived.Test.YtceiocdemhkcdaaGreatItemCopy
import Derived.Deep.SlicePairs
import Derived.Lib.SmallJoins
import Derived.ChangeSlices
import Derived.Carry
namespace Go.Proofs.YtceiocdemhkcdaaGreat.num
set_option maxRecDepth 20000
open Go.RowKit Go.ChangeShapes Go.WideShapes Go.Deep Go.Joins

theorem laidOut : laidOutB Tryz.prog = true := by kernel_rfl
theorem add_flat {w : World} {a : Addr} {j : Nat} {v v0 : Value} (h0 : w.cell? (a.add 0) = some v0) (h : w.cell? (a.add j) = some v) : ∃ b off : Nat, a = ⟨b, off, none⟩ ∧ b < w.heap.size ∧ w.cell? ⟨b, off + j, none⟩ = some v := by
  obtain ⟨b, off, spot⟩ := a
  have hspot : spot = none := by
    have := World.cell?_spot h0
    simpa [Addr.add] using this
  subst hspot
  have e : (⟨b, off, none⟩ : Addr).add j = ⟨b, off + j, none⟩ := by unfold Addr.add; split <;> simp_all
  rw [e] at h
  exact ⟨b, off, rfl, World.block_lt_of_cell? w _ h, h⟩

section
variable {H : Type} {enc : TypeId × Value → H} {W : World}
theorem open_introw {fuel : Nat} {v : Value} {x : DataW H × List MemPlace} (h : DataW.trod enc Tryz.prog W 0 (fun _ => true) true fuel 29 [v] = some x) :
    ∃ A n c xs, v = .slice A n c ∧ n ≤ 9223372036854775807 ∧ Ints W W.heap.size A n xs := by
  rcases open_ints Tryz.underlying29 Tryz.underlying3 (by kernel_rfl) h with ⟨hv, _⟩ | ⟨a, len, cap, zs, hv, _, hl, hm, hz, _, hc, _⟩
  · exact ⟨none, 0, 0, [], by simpa using hv, by omega, rfl, fun k hk => by omega⟩
  · have hz' : zs.length = cap := by simpa using hz
    refine ⟨some a, len, cap, zs.take len, by simpa using hv, by unfold maxLen at hm; omega, by rw [List.length_take]; omega, fun k hk => ?_⟩
    obtain ⟨b, off, rfl, hb, hcell⟩ := add_flat (hc 0 (by omega)) (hc k (by omega))
    refine ⟨b, off, rfl, hb, hcell.trans ?_⟩
    rw [List.getD_eq_getElem?_getD, List.getD_eq_getElem?_getD, List.getElem?_take_of_lt hk]
set_option maxRecDepth 20000 in
theorem open_item {b0 : Nat} {v : Value} {d : DataW H} {p : List MemPlace} (hv : Value.okWide Tryz.prog W .any b0 91 v) (h : DataW.Trod enc Tryz.prog W 0 (fun _ => true) true 91 v d p) :
    ∃ t : It, v = t.val ∧ t.n ≤ 9223372036854775807 ∧ Ints W W.heap.size t.A t.n t.xs := by
  obtain ⟨v0, v1, y0, y1, n, rfl, _, _, h0, h1⟩ := open_agg2 Tryz.underlying91 (by kernel_rfl) (by kernel_rfl) hv h
  obtain ⟨id, hid, _, _⟩ := DataW.trod_int Tryz.underlying3 h0
  obtain ⟨A, m, c, xs, rfl, hm, hx⟩ := open_introw h1
  obtain rfl : v0 = .int .i64 id := by simpa using hid
  exact ⟨⟨id, A, m, c, xs⟩, rfl, hm, hx⟩
theorem list_of {α : Type} {n : Nat} {p : Nat → α → Prop} (h : ∀ i, i < n → ∃ t, p i t) : ∃ l : List α, l.length = n ∧ ∀ i (hi : i < l.length), p i l[i] := by
  induction n with
  | zero => exact ⟨[], rfl, fun i hi => by simp at hi⟩
  | succ n ih =>
    obtain ⟨l, hl, hp⟩ := ih (fun i hi => h i (by omega))
    obtain ⟨t, ht⟩ := h n (by omega)
    refine ⟨l ++ [t], by simp [hl], fun i hi => ?_⟩
    rcases Nat.lt_or_ge i l.length with h1 | h1
    · rw [List.getElem_append_left h1]; exact hp i h1
    · obtain rfl : i = l.length := by simp at hi; omega
      rw [List.getElem_append_right h1]
      simpa [hl] using ht
theorem open_items {b0 : Nat} {v : Value} {d : DataW H} {p : List MemPlace} (hv : Value.okWide Tryz.prog W .any b0 43 v) (h : DataW.Trod enc Tryz.prog W 0 (fun _ => true) true 43 v d p) :
    ∃ A n c its, v = .slice A n c ∧ n ≤ 9223372036854775807 ∧ (∀ t ∈ its, t.n ≤ 9223372036854775807) ∧ Items W W.heap.size A n its := by
  obtain ⟨A, n, c, rfl⟩ := okWide_slice Tryz.underlying43 hv
  obtain ⟨fuel, hf⟩ := h
  rcases open_slice_pairs Tryz.underlying43 Tryz.underlying91 (by kernel_rfl) rfl rfl (by kernel_rfl) (by kernel_rfl) hf with ⟨hc, _⟩ | ⟨a, len, cap, m, k, V0, V1, D0, D1, P0, P1, hc, _, hl, hm, hmm, _, hx⟩
  · have hs : Value.slice A n c = .slice none 0 0 := by simpa [Value.cells] using hc
    injection hs with h1 h2 h3
    subst h1 h2 h3
    exact ⟨none, 0, 0, [], rfl, by omega, by simp, rfl, fun k hk => by simp at hk⟩
  · have hs : Value.slice A n c = .slice (some a) len cap := by simpa [Value.cells] using hc
    injection hs with h1 h2 h3
    subst h1 h2 h3
    have hmc : m = c := by simpa using hmm
    obtain ⟨its, hlen, hp⟩ := list_of (n := n) (p := fun i (t : It) => t.n ≤ 9223372036854775807 ∧ ∃ b off : Nat, some a = some ⟨b, off, none⟩ ∧ b < W.heap.size ∧ W.cell? ⟨b, off + i * 2, none⟩ = some (.int .i64 t.id) ∧ W.cell? ⟨b, off + i * 2 + 1, none⟩ = some (.slice t.A t.n t.c) ∧ Ints W W.heap.size t.A t.n t.xs) (fun i hi => by
      obtain ⟨g0, g1, t0, t1⟩ := hx i (by omega)
      obtain ⟨gz, _, _, _⟩ := hx 0 (by omega)
      obtain ⟨id, hid, _, _⟩ := DataW.trod_int Tryz.underlying3 t0
      obtain ⟨A', m', c', xs, hv1, hm', hxs⟩ := open_introw t1
      have hid' : V0 i = .int .i64 id := by simpa using hid
      obtain ⟨b, off, rfl, hb, q0⟩ := add_flat gz g0
      obtain ⟨b', off', he, hb', q1⟩ := add_flat gz g1
      injection he with e1 e2
      subst e1 e2
      exact ⟨⟨id, A', m', c', xs⟩, hm', b, off, rfl, hb, q0.trans (by rw [hid']), q1.trans (by rw [hv1]), hxs⟩)
    refine ⟨some a, n, c, its, rfl, by unfold maxLen at hm; omega, fun t ht => ?_, hlen, fun i hi => (hp i hi).2⟩
    obtain ⟨i, hi, rfl⟩ := List.getElem_of_mem ht
    exact (hp i hi).1
end
end Go.Proofs.YtceiocdemhkcdaaGreat.num
