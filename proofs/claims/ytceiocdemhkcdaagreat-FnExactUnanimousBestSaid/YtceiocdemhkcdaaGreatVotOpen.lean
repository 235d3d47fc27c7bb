/-
  Voters as an argument: what comes in.
-/
import Derived.Test.YtceiocdemhkcdaaGreatExpOpen
import Derived.Test.YtceiocdemhkcdaaGreatVotMem
namespace Go.Proofs.YtceiocdemhkcdaaGreat.num
set_option maxRecDepth 20000
open Go.ChangeShapes Go.WideShapes Go.ChangeAt Go.RowKit Go.Deep
set_option linter.unusedVariables false
set_option linter.unusedSimpArgs false

section
variable {H : Type} {enc : TypeId × Value → H} {W : World}
set_option maxRecDepth 20000 in
theorem open_noderow {fuel : Nat} {v : Value} {x : DataW H × List MemPlace} (hf : DataW.trod enc Tryz.prog W 0 (fun _ => true) true fuel 93 [v] = some x) :
    ∃ A n c ns, v = .slice A n c ∧ n ≤ 9223372036854775807 ∧ (∀ x ∈ ns, x.t.Ln ≤ 9223372036854775807 ∧ x.t.Pn ≤ 9223372036854775807) ∧ Nodes W W.heap.size A n ns := by
  rcases open_slice Tryz.underlying93 hf with ⟨hc, _⟩ | ⟨a, n, c, m, k, D, Pl, hc, _, hl, hm, hmm, _, hx⟩
  · obtain rfl : v = .slice none 0 0 := by simpa using hc
    exact ⟨none, 0, 0, [], rfl, by omega, by simp, .nil _ _ _⟩
  · obtain rfl : v = .slice (some a) n c := by simpa using hc
    have hmc : m = c := by simpa using hmm
    have ce : Tryz.prog.cellsOf 147 = 6 := by kernel_rfl
    have cw : Tryz.prog.cellsOf 145 = 5 := by kernel_rfl
    have ci : Tryz.prog.cellsOf 3 = 1 := by kernel_rfl
    obtain ⟨ns, hlen, hp⟩ := list_of (n := n) (p := fun i (x : Nd) => (x.t.Ln ≤ 9223372036854775807 ∧ x.t.Pn ≤ 9223372036854775807) ∧ ((Lit.int .i64 x.op).wf = true ∧ WiIn W W.heap.size x.t) ∧ ∃ b off : Nat, some a = some ⟨b, off, none⟩ ∧ b < W.heap.size ∧ ∀ (j : Nat) (v : Value), (nodeCells x)[j]? = some v → W.cell? ⟨b, off + i * 6 + j, none⟩ = some v) (fun i hi => by
      obtain ⟨cs', h1, h2⟩ := hx i (by omega)
      rw [ce] at h1
      obtain ⟨_, hcl, hcell⟩ := World.cells?_some h1
      obtain ⟨xs, k', _, _, _, hxl, hg⟩ := DataW.trod_struct Tryz.underlying147 h2
      obtain ⟨c0, c1, c2, c3, c4, c5, rfl⟩ := list6 (l := cs') (by simpa using hcl)
      obtain ⟨y0, y1, rfl⟩ := list2 (l := xs) hxl
      have g0 : DataW.trod enc Tryz.prog W 0 (fun _ => true) true k' 3 (([c0, c1, c2, c3, c4, c5].drop 0).take (Tryz.prog.cellsOf 3)) = some y0 := hg 0 _ rfl
      have g1 : DataW.trod enc Tryz.prog W 0 (fun _ => true) true k' 145 (([c0, c1, c2, c3, c4, c5].drop 1).take (Tryz.prog.cellsOf 145)) = some y1 := hg 1 _ rfl

      simp only [ci, cw, List.drop, List.take] at g0 g1
      obtain ⟨op, hop, _, wop⟩ := DataW.trod_int Tryz.underlying3 g0
      obtain ⟨t, e1, e2, e3, e4, e5, b1, b2, wt⟩ := open_wishcells g1
      have hop' : c0 = .int .i64 op := by simpa using hop
      have hz := hcell 0 (by decide)
      rw [add_add] at hz
      obtain ⟨cs0, h10, _⟩ := hx 0 (by omega)
      rw [ce] at h10
      obtain ⟨_, hcl0, hcell0⟩ := World.cells?_some h10
      have hz0 := hcell0 0 (by decide)
      obtain ⟨w0, hw0⟩ : ∃ w0, cs0[0]? = some w0 := ⟨_, List.getElem?_eq_getElem (by rw [hcl0]; decide)⟩
      rw [add_add, hw0] at hz0
      have hcells : ∀ (j : Nat) (v : Value), (nodeCells ⟨op, t⟩)[j]? = some v → [c0, c1, c2, c3, c4, c5][j]? = some v := fun j v hv => by
        rw [hop', e1, e2, e3, e4, e5]; exact hv
      have key : ∀ (j : Nat) (v : Value), (nodeCells ⟨op, t⟩)[j]? = some v → ∃ b off : Nat, a = ⟨b, off, none⟩ ∧ b < W.heap.size ∧ W.cell? ⟨b, off + (i * 6 + j), none⟩ = some v := fun j v hv => by
        have hj : j < 6 := by
          rcases Nat.lt_or_ge j 6 with q | q
          · exact q
          · rw [List.getElem?_eq_none (by exact q)] at hv; cases hv
        have hcj := hcell j (by omega)
        rw [add_add, hcells j v hv] at hcj
        exact add_flat hz0 hcj
      obtain ⟨b, off, rfl, hb, _⟩ := key 0 _ rfl
      refine ⟨⟨op, t⟩, ⟨b1, b2⟩, ⟨wop, wt⟩, b, off, rfl, hb, fun j v hv => ?_⟩
      obtain ⟨b', off', he, _, hc'⟩ := key j v hv
      injection he with q1 q2
      subst q1 q2
      rw [Nat.add_assoc]
      exact hc')
    refine ⟨some a, n, c, ns, rfl, by unfold maxLen at hm; omega, fun x hx' => ?_, ⟨hlen, fun i x hi => ?_⟩, fun x hx' => ?_⟩
    · obtain ⟨i, hi, rfl⟩ := List.getElem_of_mem hx'
      exact (hp i hi).1
    · have hlt : i < ns.length := by
        rcases Nat.lt_or_ge i ns.length with h' | h'
        · exact h'
        · rw [List.getElem?_eq_none h'] at hi; cases hi
      rw [List.getElem?_eq_getElem hlt] at hi
      cases hi
      exact (hp i hlt).2.2
    · obtain ⟨i, hi, rfl⟩ := List.getElem_of_mem hx'
      exact (hp i hi).2.1
set_option maxRecDepth 20000 in
theorem open_votes {b0 : Nat} {v : Value} {d : DataW H} {p : List MemPlace} (hv : Value.okWide Tryz.prog W .any b0 44 v) (h : DataW.Trod enc Tryz.prog W 0 (fun _ => true) true 44 v d p) :
    ∃ A n c gs, v = .slice A n c ∧ n ≤ 9223372036854775807 ∧ BigV gs ∧ Votes W W.heap.size A n gs := by
  obtain ⟨A, n, c, rfl⟩ := okWide_slice Tryz.underlying44 hv
  obtain ⟨fuel, hf⟩ := h
  rcases open_slice Tryz.underlying44 hf with ⟨hc, _⟩ | ⟨a, len, cap, m, k, D, Pl, hc, _, hl, hm, hmm, _, hx⟩
  · have hs : Value.slice A n c = .slice none 0 0 := by simpa [Value.cells] using hc
    injection hs with h1 h2 h3
    subst h1 h2 h3
    exact ⟨none, 0, 0, [], rfl, by omega, by simp [BigV], .nil _ _ _⟩
  · have hs : Value.slice A n c = .slice (some a) len cap := by simpa [Value.cells] using hc
    injection hs with h1 h2 h3
    subst h1 h2 h3
    have hmc : m = c := by simpa using hmm
    have ce : Tryz.prog.cellsOf 93 = 1 := by kernel_rfl
    obtain ⟨gs, hlen, hp⟩ := list_of (n := n) (p := fun i (x : Vo) => (x.n ≤ 9223372036854775807 ∧ ∀ y ∈ x.ns, y.t.Ln ≤ 9223372036854775807 ∧ y.t.Pn ≤ 9223372036854775807) ∧ Nodes W W.heap.size x.A x.n x.ns ∧ ∃ b off : Nat, some a = some ⟨b, off, none⟩ ∧ b < W.heap.size ∧ ∀ (j : Nat) (v : Value), (voC x)[j]? = some v → W.cell? ⟨b, off + i * 1 + j, none⟩ = some v) (fun i hi => by
      obtain ⟨cs', h1, h2⟩ := hx i (by omega)
      rw [ce] at h1
      obtain ⟨_, hcl, hcell⟩ := World.cells?_some h1
      obtain ⟨c0, rfl⟩ : ∃ c0, cs' = [c0] := by
        match cs', hcl with
        | [c0], _ => exact ⟨c0, rfl⟩
      obtain ⟨A1, n1, c1, ns1, rfl, hb1, hb2, hno⟩ := open_noderow h2
      have hz := hcell 0 (by decide)
      rw [add_add] at hz
      obtain ⟨cs0, h10, _⟩ := hx 0 (by omega)
      rw [ce] at h10
      obtain ⟨_, hcl0, hcell0⟩ := World.cells?_some h10
      have hz0 := hcell0 0 (by decide)
      obtain ⟨w0, hw0⟩ : ∃ w0, cs0[0]? = some w0 := ⟨_, List.getElem?_eq_getElem (by rw [hcl0]; decide)⟩
      rw [add_add, hw0] at hz0
      obtain ⟨b, off, rfl, hb, hc'⟩ := add_flat hz0 hz
      refine ⟨⟨A1, n1, c1, ns1⟩, ⟨hb1, hb2⟩, hno, b, off, rfl, hb, fun j v hv => ?_⟩
      have hj : j = 0 := by
        rcases Nat.eq_zero_or_pos j with e | e
        · exact e
        · rw [List.getElem?_eq_none (by show 1 ≤ j; exact e)] at hv; cases hv
      subst hj
      have hv' : Value.slice A1 n1 c1 = v := by simpa [voC] using hv
      rw [← hv', Nat.add_assoc]
      exact hc')
    refine ⟨some a, n, c, gs, rfl, by unfold maxLen at hm; omega, fun x hx' => ?_, ⟨hlen, fun i x hi => ?_⟩, fun x hx' => ?_⟩
    · obtain ⟨i, hi, rfl⟩ := List.getElem_of_mem hx'
      exact (hp i hi).1
    · have hlt : i < gs.length := by
        rcases Nat.lt_or_ge i gs.length with h' | h'
        · exact h'
        · rw [List.getElem?_eq_none h'] at hi; cases hi
      rw [List.getElem?_eq_getElem hlt] at hi
      cases hi
      exact (hp i hlt).2.2
    · obtain ⟨i, hi, rfl⟩ := List.getElem_of_mem hx'
      exact (hp i hi).2.1
end
end Go.Proofs.YtceiocdemhkcdaaGreat.num
