/-
  An argument that is a wish: opened to what the walks ask.
-/
import Derived.Test.YtceiocdemhkcdaaGreatPairOpen
import Derived.Test.YtceiocdemhkcdaaGreatWishMem
namespace Go.Proofs.YtceiocdemhkcdaaGreat.num
set_option maxRecDepth 20000
open Go.RowKit Go.ChangeShapes Go.WideShapes Go.Deep Go.Joins

theorem array5 {α : Type} {cs : Array α} (h : cs.size = 5) : ∃ c0 c1 c2 c3 c4, cs = #[c0, c1, c2, c3, c4] := by
  obtain ⟨l⟩ := cs
  match l, h with
  | [c0, c1, c2, c3, c4], _ => exact ⟨c0, c1, c2, c3, c4, rfl⟩
section
variable {H : Type} {enc : TypeId × Value → H} {W : World}
theorem open_struct5 {P : Program} {w : World} {base : Nat} {spare : Nat → Bool} {held : Bool} {r : Go.Reach} {b0 : Nat} {t : TypeId} {f0 f1 f2 f3 f4 : Field} {v : Value} {d : DataW H} {p : List MemPlace} (hs : P.underlying t = some (.struct #[f0, f1, f2, f3, f4])) (hone : oneCellFields P #[f0, f1, f2, f3, f4] = true) (hC : P.cellsOf t = 5)
    (hv : Value.okWide P w r b0 t v) (h : DataW.Trod enc P w base spare held t v d p) :
    ∃ (v0 v1 v2 v3 v4 : Value) (y0 y1 y2 y3 y4 : DataW H × List MemPlace) (n : Nat), v = .agg #[v0, v1, v2, v3, v4] ∧
      DataW.trod enc P w base spare held n f0.type [v0] = some y0 ∧ DataW.trod enc P w base spare held n f1.type [v1] = some y1 ∧ DataW.trod enc P w base spare held n f2.type [v2] = some y2 ∧ DataW.trod enc P w base spare held n f3.type [v3] = some y3 ∧ DataW.trod enc P w base spare held n f4.type [v4] = some y4 := by
  obtain ⟨cs, rfl, hsz⟩ := okWide_struct hs hv
  obtain ⟨c0, c1, c2, c3, c4, rfl⟩ := array5 (hsz.trans hC)
  obtain ⟨fuel, hf⟩ := h
  obtain ⟨xs, n, _, _, _, hlen, hx⟩ := DataW.trod_struct hs hf
  obtain ⟨o0, k0⟩ := hone_of hone 0 f0 rfl
  obtain ⟨o1, k1⟩ := hone_of hone 1 f1 rfl
  obtain ⟨o2, k2⟩ := hone_of hone 2 f2 rfl
  obtain ⟨o3, k3⟩ := hone_of hone 3 f3 rfl
  obtain ⟨o4, k4⟩ := hone_of hone 4 f4 rfl
  match xs, hlen with
  | [y0, y1, y2, y3, y4], _ =>
    exact ⟨c0, c1, c2, c3, c4, y0, y1, y2, y3, y4, n, rfl, by simpa [Value.cells, o0, k0] using hx 0 f0 rfl, by simpa [Value.cells, o1, k1] using hx 1 f1 rfl, by simpa [Value.cells, o2, k2] using hx 2 f2 rfl, by simpa [Value.cells, o3, k3] using hx 3 f3 rfl, by simpa [Value.cells, o4, k4] using hx 4 f4 rfl⟩
set_option maxRecDepth 20000 in
theorem open_pairrow {fuel : Nat} {v : Value} {x : DataW H × List MemPlace} (hf : DataW.trod enc Tryz.prog W 0 (fun _ => true) true fuel 143 [v] = some x) :
    ∃ A n c ps, v = .slice A n c ∧ n ≤ 9223372036854775807 ∧ Pairs W W.heap.size A n ps := by
  rcases open_slice_pairs Tryz.underlying143 Tryz.underlying236 (by kernel_rfl) rfl rfl (by kernel_rfl) (by kernel_rfl) hf with ⟨hc, _⟩ | ⟨a, len, cap, m, k, V0, V1, D0, D1, P0, P1, hc, _, hl, hm, hmm, _, hx⟩
  · obtain rfl : v = .slice none 0 0 := by simpa using hc
    exact ⟨none, 0, 0, [], rfl, by omega, rfl, fun k p hk => by simp at hk⟩
  · obtain rfl : v = .slice (some a) len cap := by simpa using hc
    have hmc : m = cap := by simpa using hmm
    obtain ⟨ps, hlen, hp⟩ := list_of (n := len) (p := fun i (t : Int × Int) => ∃ b off : Nat, some a = some ⟨b, off, none⟩ ∧ b < W.heap.size ∧ W.cell? ⟨b, off + i * 2, none⟩ = some (.int .i64 t.1) ∧ W.cell? ⟨b, off + i * 2 + 1, none⟩ = some (.int .i64 t.2)) (fun i hi => by
      obtain ⟨g0, g1, t0, t1⟩ := hx i (by omega)
      obtain ⟨gz, _, _, _⟩ := hx 0 (by omega)
      obtain ⟨x, hx0, _, _⟩ := DataW.trod_int Tryz.underlying3 t0
      obtain ⟨y, hy0, _, _⟩ := DataW.trod_int Tryz.underlying3 t1
      have hx' : V0 i = .int .i64 x := by simpa using hx0
      have hy' : V1 i = .int .i64 y := by simpa using hy0
      obtain ⟨b, off, rfl, hb, q0⟩ := add_flat gz g0
      obtain ⟨b', off', he, hb', q1⟩ := add_flat gz g1
      injection he with e1 e2
      subst e1 e2
      exact ⟨(x, y), b, off, rfl, hb, q0.trans (by rw [hx']), q1.trans (by rw [hy'])⟩)
    refine ⟨some a, len, cap, ps, rfl, by unfold maxLen at hm; omega, hlen, fun i t hi => ?_⟩
    have hlt : i < ps.length := by
      rcases Nat.lt_or_ge i ps.length with h' | h'
      · exact h'
      · rw [List.getElem?_eq_none h'] at hi; cases hi
    rw [List.getElem?_eq_getElem hlt] at hi
    cases hi
    exact hp i hlt
set_option maxRecDepth 20000 in
theorem open_wish {b0 : Nat} {v : Value} {d : DataW H} {p : List MemPlace} (hv : Value.okWide Tryz.prog W .any b0 145 v) (h : DataW.Trod enc Tryz.prog W 0 (fun _ => true) true 145 v d p) :
    ∃ t : Wi, v = t.val ∧ t.Ln ≤ 9223372036854775807 ∧ t.Pn ≤ 9223372036854775807 ∧ WiIn W W.heap.size t := by
  obtain ⟨v0, v1, v2, v3, v4, y0, y1, y2, y3, y4, n, rfl, h0, h1, h2, h3, h4⟩ := open_struct5 Tryz.underlying145 (by kernel_rfl) (by kernel_rfl) hv h
  obtain ⟨k, hk, _, wk⟩ := DataW.trod_int Tryz.underlying3 h0
  obtain ⟨f, hf, _, wf⟩ := DataW.trod_int Tryz.underlying3 h1
  obtain ⟨x, hx, _, wx⟩ := DataW.trod_int Tryz.underlying3 h2
  obtain ⟨A, m, c, xs, rfl, hm, hxs⟩ := open_introw h3
  obtain ⟨A', m', c', ps, rfl, hm', hps⟩ := open_pairrow h4
  obtain rfl : v0 = .int .i64 k := by simpa using hk
  obtain rfl : v1 = .int .i64 f := by simpa using hf
  obtain rfl : v2 = .int .i64 x := by simpa using hx
  exact ⟨⟨k, f, x, A, m, c, xs, A', m', c', ps⟩, rfl, hm, hm', wk, wf, wx, hxs, hps⟩
end
end Go.Proofs.YtceiocdemhkcdaaGreat.num
