/-
  An argument that is a slice of nodes: opened to what the walks ask.
-/
import Derived.Test.YtceiocdemhkcdaaGreatWishOpen
import Derived.Test.YtceiocdemhkcdaaGreatExpMem
import Derived.Deep.Slices
namespace Go.Proofs.YtceiocdemhkcdaaGreat.num
set_option maxRecDepth 20000
open Go.RowKit Go.ChangeShapes Go.WideShapes Go.Deep Go.Joins
set_option linter.unusedVariables false

section
variable {H : Type} {enc : TypeId × Value → H} {W : World}
theorem list6 {α : Type} {l : List α} (h : l.length = 6) : ∃ a b c d e f, l = [a, b, c, d, e, f] := by
  match l, h with
  | [a, b, c, d, e, f], _ => exact ⟨a, b, c, d, e, f, rfl⟩
theorem list5 {α : Type} {l : List α} (h : l.length = 5) : ∃ a b c d e, l = [a, b, c, d, e] := by
  match l, h with
  | [a, b, c, d, e], _ => exact ⟨a, b, c, d, e, rfl⟩
theorem list2 {α : Type} {l : List α} (h : l.length = 2) : ∃ a b, l = [a, b] := by
  match l, h with
  | [a, b], _ => exact ⟨a, b, rfl⟩
set_option maxRecDepth 20000 in
theorem open_wishcells {fuel : Nat} {c0 c1 c2 c3 c4 : Value} {x : DataW H × List MemPlace} (h : DataW.trod enc Tryz.prog W 0 (fun _ => true) true fuel 145 [c0, c1, c2, c3, c4] = some x) :
    ∃ t : Wi, c0 = .int .i64 t.kind ∧ c1 = .int .i64 t.field ∧ c2 = .int .i64 t.value ∧ c3 = .slice t.LA t.Ln t.Lc ∧ c4 = .slice t.PA t.Pn t.Pc ∧ t.Ln ≤ 9223372036854775807 ∧ t.Pn ≤ 9223372036854775807 ∧ WiIn W W.heap.size t := by
  obtain ⟨xs, n, _, _, hl, hlen, hx⟩ := DataW.trod_struct Tryz.underlying145 h
  obtain ⟨y0, y1, y2, y3, y4, rfl⟩ := list5 (l := xs) hlen
  have ci : Tryz.prog.cellsOf 3 = 1 := by kernel_rfl
  have cl : Tryz.prog.cellsOf 29 = 1 := by kernel_rfl
  have cp : Tryz.prog.cellsOf 143 = 1 := by kernel_rfl
  have h0 : DataW.trod enc Tryz.prog W 0 (fun _ => true) true n 3 (([c0, c1, c2, c3, c4].drop 0).take (Tryz.prog.cellsOf 3)) = some y0 := hx 0 _ rfl
  have h1 : DataW.trod enc Tryz.prog W 0 (fun _ => true) true n 3 (([c0, c1, c2, c3, c4].drop 1).take (Tryz.prog.cellsOf 3)) = some y1 := hx 1 _ rfl
  have h2 : DataW.trod enc Tryz.prog W 0 (fun _ => true) true n 3 (([c0, c1, c2, c3, c4].drop 2).take (Tryz.prog.cellsOf 3)) = some y2 := hx 2 _ rfl
  have h3 : DataW.trod enc Tryz.prog W 0 (fun _ => true) true n 29 (([c0, c1, c2, c3, c4].drop 3).take (Tryz.prog.cellsOf 29)) = some y3 := hx 3 _ rfl
  have h4 : DataW.trod enc Tryz.prog W 0 (fun _ => true) true n 143 (([c0, c1, c2, c3, c4].drop 4).take (Tryz.prog.cellsOf 143)) = some y4 := hx 4 _ rfl
  simp only [ci, cl, cp, List.drop, List.take] at h0 h1 h2 h3 h4
  obtain ⟨k, hk, _, wk⟩ := DataW.trod_int Tryz.underlying3 h0
  obtain ⟨f, hf, _, wf⟩ := DataW.trod_int Tryz.underlying3 h1
  obtain ⟨v, hv, _, wv⟩ := DataW.trod_int Tryz.underlying3 h2
  obtain ⟨A, m, c, ls, rfl, hm, hxs⟩ := open_introw h3
  obtain ⟨A', m', c', ps, rfl, hm', hps⟩ := open_pairrow h4
  exact ⟨⟨k, f, v, A, m, c, ls, A', m', c', ps⟩, by simpa using hk, by simpa using hf, by simpa using hv, rfl, rfl, hm, hm', wk, wf, wv, hxs, hps⟩
set_option maxRecDepth 20000 in
theorem open_nodes {b0 : Nat} {v : Value} {d : DataW H} {p : List MemPlace} (hv : Value.okWide Tryz.prog W .any b0 93 v) (h : DataW.Trod enc Tryz.prog W 0 (fun _ => true) true 93 v d p) :
    ∃ A n c ns, v = .slice A n c ∧ n ≤ 9223372036854775807 ∧ (∀ x ∈ ns, x.t.Ln ≤ 9223372036854775807 ∧ x.t.Pn ≤ 9223372036854775807) ∧ Nodes W W.heap.size A n ns := by
  obtain ⟨A, n, c, rfl⟩ := okWide_slice Tryz.underlying93 hv
  obtain ⟨fuel, hf⟩ := h
  rcases open_slice Tryz.underlying93 hf with ⟨hc, _⟩ | ⟨a, len, cap, m, k, D, Pl, hc, _, hl, hm, hmm, _, hx⟩
  · have hs : Value.slice A n c = .slice none 0 0 := by simpa [Value.cells] using hc
    injection hs with h1 h2 h3
    subst h1 h2 h3
    exact ⟨none, 0, 0, [], rfl, by omega, by simp, .nil _ _ _⟩
  · have hs : Value.slice A n c = .slice (some a) len cap := by simpa [Value.cells] using hc
    injection hs with h1 h2 h3
    subst h1 h2 h3
    have hmc : m = c := by simpa using hmm
    have ce : Tryz.prog.cellsOf 147 = 6 := by kernel_rfl
    have cw : Tryz.prog.cellsOf 145 = 5 := by kernel_rfl
    have ci : Tryz.prog.cellsOf 3 = 1 := by kernel_rfl
    obtain ⟨ns, hlen, hp⟩ := list_of (n := n) (p := fun i (x : Nd) => (x.t.Ln ≤ 9223372036854775807 ∧ x.t.Pn ≤ 9223372036854775807) ∧ ((Lit.int .i64 x.op).wf = true ∧ WiIn W W.heap.size x.t) ∧ ∃ b off : Nat, some a = some ⟨b, off, none⟩ ∧ b < W.heap.size ∧ ∀ (j : Nat) (v : Value), (nodeCells x)[j]? = some v → W.cell? ⟨b, off + i * 6 + j, none⟩ = some v) (fun i hi => by
      obtain ⟨cs', h1, h2⟩ := hx i (by omega)
      rw [ce] at h1
      obtain ⟨_, hcl, hcell⟩ := World.cells?_some h1
      obtain ⟨xs, k', _, _, _, hxl, hg⟩ := DataW.trod_struct Tryz.underlying147 h2
      obtain ⟨c0, c1, c2, c3, c4, c5, rfl⟩ := list6 (l := cs') (by simpa using hcl)
      obtain ⟨y0, y1, rfl⟩ := list2 (l := xs) hxl
      have g0 : DataW.trod enc Tryz.prog W 0 (fun _ => true) true k' 3 (([c0, c1, c2, c3, c4, c5].drop 0).take (Tryz.prog.cellsOf 3)) = some y0 := hg 0 _ rfl
      have g1 : DataW.trod enc Tryz.prog W 0 (fun _ => true) true k' 145 (([c0, c1, c2, c3, c4, c5].drop 1).take (Tryz.prog.cellsOf 145)) = some y1 := hg 1 _ rfl

      simp only [ci, cw, List.drop, List.take] at g0 g1
      obtain ⟨op, hop, _, wop⟩ := DataW.trod_int Tryz.underlying3 g0
      obtain ⟨t, e1, e2, e3, e4, e5, b1, b2, wt⟩ := open_wishcells g1
      have hop' : c0 = .int .i64 op := by simpa using hop
      have hz := hcell 0 (by decide)
      rw [add_add] at hz
      obtain ⟨cs0, h10, _⟩ := hx 0 (by omega)
      rw [ce] at h10
      obtain ⟨_, hcl0, hcell0⟩ := World.cells?_some h10
      have hz0 := hcell0 0 (by decide)
      obtain ⟨w0, hw0⟩ : ∃ w0, cs0[0]? = some w0 := ⟨_, List.getElem?_eq_getElem (by rw [hcl0]; decide)⟩
      rw [add_add, hw0] at hz0
      have hcells : ∀ (j : Nat) (v : Value), (nodeCells ⟨op, t⟩)[j]? = some v → [c0, c1, c2, c3, c4, c5][j]? = some v := fun j v hv => by
        rw [hop', e1, e2, e3, e4, e5]; exact hv
      have key : ∀ (j : Nat) (v : Value), (nodeCells ⟨op, t⟩)[j]? = some v → ∃ b off : Nat, a = ⟨b, off, none⟩ ∧ b < W.heap.size ∧ W.cell? ⟨b, off + (i * 6 + j), none⟩ = some v := fun j v hv => by
        have hj : j < 6 := by
          rcases Nat.lt_or_ge j 6 with q | q
          · exact q
          · rw [List.getElem?_eq_none (by exact q)] at hv; cases hv
        have hcj := hcell j (by omega)
        rw [add_add, hcells j v hv] at hcj
        exact add_flat hz0 hcj
      obtain ⟨b, off, rfl, hb, _⟩ := key 0 _ rfl
      refine ⟨⟨op, t⟩, ⟨b1, b2⟩, ⟨wop, wt⟩, b, off, rfl, hb, fun j v hv => ?_⟩
      obtain ⟨b', off', he, _, hc'⟩ := key j v hv
      injection he with q1 q2
      subst q1 q2
      rw [Nat.add_assoc]
      exact hc')
    refine ⟨some a, n, c, ns, rfl, by unfold maxLen at hm; omega, fun x hx' => ?_, ⟨hlen, fun i x hi => ?_⟩, fun x hx' => ?_⟩
    · obtain ⟨i, hi, rfl⟩ := List.getElem_of_mem hx'
      exact (hp i hi).1
    · have hlt : i < ns.length := by
        rcases Nat.lt_or_ge i ns.length with h' | h'
        · exact h'
        · rw [List.getElem?_eq_none h'] at hi; cases hi
      rw [List.getElem?_eq_getElem hlt] at hi
      cases hi
      exact (hp i hlt).2.2
    · obtain ⟨i, hi, rfl⟩ := List.getElem_of_mem hx'
      exact (hp i hi).2.1
end
end Go.Proofs.YtceiocdemhkcdaaGreat.num
