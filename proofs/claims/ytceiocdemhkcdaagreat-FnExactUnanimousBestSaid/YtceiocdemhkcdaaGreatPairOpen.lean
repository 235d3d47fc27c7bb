/-
  Arguments that are slices of pairs: opened to what the walks ask.
-/
import Derived.Test.YtceiocdemhkcdaaGreatItemOpen
import Derived.Test.YtceiocdemhkcdaaGreatPairMem
namespace Go.Proofs.YtceiocdemhkcdaaGreat.num
set_option maxRecDepth 20000
open Go.RowKit Go.ChangeShapes Go.WideShapes Go.Deep Go.Joins

section
variable {H : Type} {enc : TypeId × Value → H} {W : World}
set_option maxRecDepth 20000 in
theorem open_pairs {b0 : Nat} {v : Value} {d : DataW H} {p : List MemPlace} (hv : Value.okWide Tryz.prog W .any b0 143 v) (h : DataW.Trod enc Tryz.prog W 0 (fun _ => true) true 143 v d p) :
    ∃ A n c ps, v = .slice A n c ∧ n ≤ 9223372036854775807 ∧ Pairs W W.heap.size A n ps := by
  obtain ⟨A, n, c, rfl⟩ := okWide_slice Tryz.underlying143 hv
  obtain ⟨fuel, hf⟩ := h
  rcases open_slice_pairs Tryz.underlying143 Tryz.underlying236 (by kernel_rfl) rfl rfl (by kernel_rfl) (by kernel_rfl) hf with ⟨hc, _⟩ | ⟨a, len, cap, m, k, V0, V1, D0, D1, P0, P1, hc, _, hl, hm, hmm, _, hx⟩
  · have hs : Value.slice A n c = .slice none 0 0 := by simpa [Value.cells] using hc
    injection hs with h1 h2 h3
    subst h1 h2 h3
    exact ⟨none, 0, 0, [], rfl, by omega, rfl, fun k p hk => by simp at hk⟩
  · have hs : Value.slice A n c = .slice (some a) len cap := by simpa [Value.cells] using hc
    injection hs with h1 h2 h3
    subst h1 h2 h3
    have hmc : m = c := by simpa using hmm
    obtain ⟨ps, hlen, hp⟩ := list_of (n := n) (p := fun i (t : Int × Int) => ∃ b off : Nat, some a = some ⟨b, off, none⟩ ∧ b < W.heap.size ∧ W.cell? ⟨b, off + i * 2, none⟩ = some (.int .i64 t.1) ∧ W.cell? ⟨b, off + i * 2 + 1, none⟩ = some (.int .i64 t.2)) (fun i hi => by
      obtain ⟨g0, g1, t0, t1⟩ := hx i (by omega)
      obtain ⟨gz, _, _, _⟩ := hx 0 (by omega)
      obtain ⟨x, hx0, _, _⟩ := DataW.trod_int Tryz.underlying3 t0
      obtain ⟨y, hy0, _, _⟩ := DataW.trod_int Tryz.underlying3 t1
      have hx' : V0 i = .int .i64 x := by simpa using hx0
      have hy' : V1 i = .int .i64 y := by simpa using hy0
      obtain ⟨b, off, rfl, hb, q0⟩ := add_flat gz g0
      obtain ⟨b', off', he, hb', q1⟩ := add_flat gz g1
      injection he with e1 e2
      subst e1 e2
      exact ⟨(x, y), b, off, rfl, hb, q0.trans (by rw [hx']), q1.trans (by rw [hy'])⟩)
    refine ⟨some a, n, c, ps, rfl, by unfold maxLen at hm; omega, hlen, fun i t hi => ?_⟩
    have hlt : i < ps.length := by
      rcases Nat.lt_or_ge i ps.length with h' | h'
      · exact h'
      · rw [List.getElem?_eq_none h'] at hi; cases hi
    rw [List.getElem?_eq_getElem hlt] at hi
    cases hi
    exact hp i hlt
end
end Go.Proofs.YtceiocdemhkcdaaGreat.num
