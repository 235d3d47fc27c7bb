/- Contracts of functions that the laws of this chapter call, packed. -/
import Derived.Test.YtaijajajpnekbaaGreatExpMath
import Derived.Test.YtaijajajpnekbaaGreatExpA
import Derived.Lib.AppendZeros
import Derived.Test.YtaijajajpnekbaaGreatExpSpec
import Derived.Test.YtaijajajpnekbaaGreatProg
import Derived.WalkKit
import Derived.ProofKit
import Derived.Outline
import Derived.Test.YtaijajajpnekbaaGreatRegion
namespace Go.Proofs.YtaijajajpnekbaaGreat.num
set_option maxRecDepth 20000
set_option linter.unusedVariables false

/-- Two expressions and an operator behind them. -/
theorem joinE {a b : List ND} {nd : ND} (ha : IsE a) (hb : IsE b) (hw : NoW nd.w) : IsE (a ++ b ++ [nd]) ↔ Bin nd.op ∧ a.length + b.length < 9 := by
  obtain ⟨la, ta, pa⟩ := ha
  obtain ⟨lb, tb, pb⟩ := hb
  have hs : Stk (a ++ b) [tb, ta] := pb.stk (post_stk.1 pa)
  constructor
  · rintro ⟨h1, t, ht⟩
    have h2 := post_stk.1 ht
    refine ⟨?_, by simp at h1; omega⟩
    rcases h2.inv with ⟨_, _, s, k, e⟩ | ⟨_, _, x, s, k, e⟩ | ⟨h, _⟩
    · have := hs.one k
      subst this
      simp at e
    · have := hs.one k
      simp only [List.cons.injEq] at this
      obtain ⟨_, rfl⟩ := this
      simp at e
    · exact h
  · rintro ⟨h1, h2⟩
    exact ⟨by simp; omega, _, .bin h1 hw pa pb⟩
theorem joinE' {a b : List ND} {nd : ND} (ha : IsE a) (hb : IsE b) (hw : NoW nd.w) {q : Bool} (hq : q = true ↔ Bin nd.op ∧ a.length + b.length < 9) : q = true ↔ IsE (a ++ b ++ [nd]) := hq.trans (joinE ha hb hw).symm

/-- The wishes of a list of nodes, in their order. -/
def wishL (nds : List ND) : List WD := nds.filterMap fun nd => if nd.op = 0 then some nd.w else none
theorem wishL_snoc_base {nds : List ND} {nd : ND} (h : nd.op = 0) : wishL (nds ++ [nd]) = wishL nds ++ [nd.w] := by
  unfold wishL; rw [List.filterMap_append]; simp [h]
theorem wishL_snoc_op {nds : List ND} {nd : ND} (h : nd.op ≠ 0) : wishL (nds ++ [nd]) = wishL nds := by
  unfold wishL; rw [List.filterMap_append]; simp [h]
theorem wishL_len (nds : List ND) : (wishL nds).length ≤ nds.length := List.length_filterMap_le _ _
/-- What WishesOf answers. -/
def wishesE (q : Bool) (nds : List ND) : List WD := if q then wishL nds else []
end Go.Proofs.YtaijajajpnekbaaGreat.num
namespace Go.Proofs.YtaijajajpnekbaaGreat.num
set_option maxRecDepth 20000
open Go.RowKit
set_option linter.unusedVariables false
set_option linter.unusedSimpArgs false

/-- append of one element, its run told. -/
theorem run_oneG {α : Type} {f : α → List Value} {s : Nat} (hf : ∀ x, (f x).length = s) (h1 : ∀ x, ∀ u ∈ f x, u.oneCell' = true) {T tS ty : TypeId} {z : Value} {bytes : Nat} (ht : Tryz.prog.underlying tS = some (.slice T)) (hinf : (Tryz.prog.info? T).map (fun i => (i.zero, i.size, i.bytes)) = some (some z, s, bytes)) (hzs : z.cells.size = s) (hs0 : 0 < s) (hbt : 0 < bytes)
    {w : World} {B N c : Nat} {v : Value} {l : List α} (y : α) {cs : Array Value} (hcs : cs = (f y).toArray) (h : OwnG T f s w B v l) (hN : w.heap.size = N) (hlen : (l.length + 1) * bytes ≤ 140737488355328) (hB : B ≤ w.heap.size) :
    ∃ v' w', (Builtin.append_ #[tS, tS] ty #[v, .slice (some ⟨N, 0, none⟩) 1 c]).run Tryz.prog (w.alloc (.cells cs T)) = .ok v' w' ∧ OwnG T f s w' B v' (l ++ [y]) ∧ w.grownBy w' v.ownBlock ∧ (v'.ownBlock = v.ownBlock ∨ v'.ownBlock = some (N + 1)) := by
  subst hcs hN
  obtain ⟨v', w', hr, ho, hg, hat⟩ := run_app_some (P := Tryz.prog) (ty := ty) ht hinf hzs hs0 hbt (World.ownsRow.alloc h (.cells (f y).toArray T)) ⟨w.heap.size, 0, none⟩ (m := 1) (c := c) (news := f y) (by rw [hf, Nat.one_mul]) (fun j u hj => by
    rw [addr_add, Nat.zero_add, World.cell?_alloc_at _ _ _ _ rfl]
    simpa using hj) (h1 y) hlen (by simp; omega)
  refine ⟨v', w', hr, ?_, ⟨hg.os, hg.tape, hg.output, Nat.le_trans (by simp) hg.size, fun k hk hv => (hg.block k (by simp; omega) hv).trans (Below.heap_alloc _ _ _ hk)⟩, by simpa using hat⟩
  unfold OwnG
  rw [List.length_append, List.length_singleton, List.flatMap_append, List.flatMap_singleton]
  exact ho

/-- Nodes whose lists are the call's own, apart from one another. -/
structure NodesO (w : World) (lo : Nat) (ns : List Nd) : Prop where
  x : ∀ (k : Nat) (x : Nd), ns[k]? = some x → (Lit.int .i64 x.op).wf = true ∧ WiO w lo x.t
  d : ∀ (i j : Nat) (x y : Nd) (b : Nat), i < j → ns[i]? = some x → ns[j]? = some y → x.t.has b → ¬ y.t.has b
theorem OwnN.no {w : World} {lo : Nat} {v : Value} {ns : List Nd} (h : OwnN w lo v ns) : NodesO w lo ns := ⟨h.x, h.d⟩
theorem NodesO.has_in {w : World} {lo : Nat} {ns : List Nd} (h : NodesO w lo ns) {x : Nd} (hx : x ∈ ns) {b : Nat} (hb : x.t.has b) : lo ≤ b ∧ b < w.heap.size := by
  obtain ⟨k, hk, rfl⟩ := List.getElem_of_mem hx
  exact (h.x k _ (List.getElem?_eq_getElem hk)).2.has_in hb
theorem NodesO.blocks {w w' : World} {lo : Nat} {ns : List Nd} (h : NodesO w lo ns) (hb : ∀ x ∈ ns, ∀ b, x.t.has b → w'.heap[b]? = w.heap[b]?) : NodesO w' lo ns :=
  ⟨fun k x hk => ⟨(h.x k x hk).1, (h.x k x hk).2.blocks fun b h' => hb x (List.mem_of_getElem? hk) b h'⟩, h.d⟩
theorem NodesO.low {w : World} {lo lo' : Nat} {ns : List Nd} (h : NodesO w lo ns) (hl : lo' ≤ lo) : NodesO w lo' ns := ⟨fun k x hk => ⟨(h.x k x hk).1, (h.x k x hk).2.low hl⟩, h.d⟩
theorem get_app {α : Type} {l m : List α} {i : Nat} {x : α} (h : (l ++ m)[i]? = some x) : (i < l.length ∧ l[i]? = some x) ∨ (l.length ≤ i ∧ m[i - l.length]? = some x) := by
  rcases Nat.lt_or_ge i l.length with g | g
  · exact .inl ⟨g, by rwa [List.getElem?_append_left g] at h⟩
  · exact .inr ⟨g, by rwa [List.getElem?_append_right g] at h⟩
theorem NodesO.cat {w : World} {lo hi : Nat} {ns1 ns2 : List Nd} (h1 : NodesO w lo ns1) (h2 : NodesO w hi ns2) (hle : lo ≤ hi) (htop : ∀ x ∈ ns1, ∀ b, x.t.has b → b < hi) : NodesO w lo (ns1 ++ ns2) := by
  refine ⟨fun k x hk => ?_, fun i j x y b hij hx hy hb hb' => ?_⟩
  · rcases get_app hk with ⟨_, h⟩ | ⟨_, h⟩
    · exact h1.x k x h
    · exact ⟨(h2.x _ x h).1, (h2.x _ x h).2.low hle⟩
  · rcases get_app hx with ⟨_, hx⟩ | ⟨_, hx⟩ <;> rcases get_app hy with ⟨_, hy⟩ | ⟨_, hy⟩
    · exact h1.d i j x y b hij hx hy hb hb'
    · have q1 := htop x (List.mem_of_getElem? hx) b hb
      have q2 := ((h2.x _ y hy).2.has_in hb').1
      omega
    · omega
    · exact h2.d _ _ x y b (by omega) hx hy hb hb'
/-- An operator's node. -/
def bareN (op : Int) : Nd := ⟨op, 0, 0, 0, none, 0, 0, [], none, 0, 0, []⟩
theorem bare_has (op : Int) (b : Nat) : ¬ (bareN op).t.has b := fun h => by
  rcases h with h | h <;> cases h
theorem NodesO.bare (w : World) (lo : Nat) {op : Int} (ho : (Lit.int .i64 op).wf = true) : NodesO w lo [bareN op] := by
  refine ⟨fun k x hk => ?_, fun i j x y b hij hx hy => ?_⟩
  · rcases k with _ | k
    · simp at hk
      subst hk
      exact ⟨ho, ⟨by show (Lit.int .i64 0).wf = true; decide, by show (Lit.int .i64 0).wf = true; decide, by show (Lit.int .i64 0).wf = true; decide, ownI_nil _ _, OwnP.nil _ _, fun b h => by cases h⟩⟩
    · simp at hk
  · rcases j with _ | j
    · omega
    · simp at hy
theorem OwnN.of {w : World} {lo : Nat} {v : Value} {ns : List Nd} (hr : OwnG 57 nodeCells 6 w lo v ns) (hn : NodesO w lo ns) (ha : ∀ x ∈ ns, ∀ b, x.t.has b → v.ownBlock ≠ some b) : OwnN w lo v ns :=
  ⟨hr, hn.x, fun k x b hk hb => ha x (List.mem_of_getElem? hk) b hb, hn.d⟩
def zeroWD : WD := ⟨0, 0, 0, [], []⟩
theorem noW_zero : NoW zeroWD := ⟨rfl, rfl, rfl, rfl, rfl⟩
/-- What JoinExpressions answers. -/
def joinD (r : Bool) (a b : List ND) (op : Int) : List ND := if r then a ++ b ++ [⟨op, zeroWD⟩] else []
theorem datN_app (l m : List Nd) : datN (l ++ m) = datN l ++ datN m := by unfold datN; rw [List.map_append]
theorem datN_bare (op : Int) : datN [bareN op] = [⟨op, zeroWD⟩] := rfl
theorem short_app {l m : List Nd} (h1 : ShortN l) (h2 : ShortN m) : ShortN (l ++ m) := fun x hx => by
  rcases List.mem_append.1 hx with h | h
  · exact h1 x h
  · exact h2 x h
theorem short_bare (op : Int) : ShortN [bareN op] := fun x hx => by
  rw [List.mem_singleton.1 hx]; exact ⟨Nat.zero_le _, Nat.zero_le _⟩
theorem datN_len {ns ns' : List Nd} (h : datN ns' = datN ns) : ns'.length = ns.length := by
  have := congrArg List.length h
  unfold datN at this
  rwa [List.length_map, List.length_map] at this
set_option maxRecDepth 20000 in
set_option maxHeartbeats 3200000 in
theorem sCopyN_c (w : World) (B : Nat) (A : Option Addr) (n c : Nat) (ns : List Nd) (hi : Nodes w B A n ns) (hB : B ≤ w.heap.size) (hn : n ≤ 1048576) (hN : ShortN ns) :
    Calls Tryz.prog 29 #[.slice A n c] w fun e w' => ∃ v ns', e = .returned v ∧ datN ns' = datN ns ∧ ShortN ns' ∧ OwnN w' w.heap.size v ns' ∧ Below w.heap.size w w' := by
  have HX := Lib.hid hi
  have HN := Lib.hid hN
  have HE : Hid (OwnN (w.alloc (.cells #[] 57)) w.heap.size (.slice (some ⟨w.heap.size, 0, none⟩) 0 0) []) := Lib.hid ⟨OwnG.empty w w.heap.size (Nat.le_refl _), by simp, by simp, by simp⟩
  have HBe : Hid (Below w.heap.size w (w.alloc (.cells #[] 57))) := Lib.hid ((Below.refl _ w).alloc (Nat.le_refl _) _)
  clear hi hN
  go_enter Tryz.func29, Tryz.ntmps29
  go_wp2
  go_loopw [3, 4] (fun v i wr => ∃ (k : Nat) (cs : List Nd) (V : Value), k ≤ n ∧ i = .int .i64 k ∧ V = v ∧ OwnN wr w.heap.size V cs ∧ datN cs = datN (ns.take k) ∧ ShortN cs ∧ Below w.heap.size w wr) (fun _ i _ => n - (intOf i).toNat)
  case atStart => exact ⟨0, [], _, Nat.zero_le _, rfl, rfl, HE.out, rfl, by simp [ShortN], HBe.out⟩
  case round =>
    obtain ⟨k, cs, v, hk, rfl, rfl, hown, hdat, hsh, hbel⟩ := hrel
    have HO := Lib.hid hown
    have HD := Lib.hid hdat
    have HS := Lib.hid hsh
    have HB := Lib.hid hbel
    clear hown hdat hsh
    by_cases hlt : k < n
    · obtain ⟨b1, off, ⟨op, t⟩, rfl, hb1, hat, hwf, g0, g1, g2, g3, g4, g5⟩ := HX.out.at k hlt
      dsimp only at g0 g1 g2 g3 g4 g5
      have hbw : b1 < w.heap.size := Nat.lt_of_lt_of_le hb1 hB
      have g0 := (hbel.cell (p := ⟨b1, off + k * 6, none⟩) hbw).trans g0
      have g1 := (hbel.cell (p := ⟨b1, off + k * 6 + 1, none⟩) hbw).trans g1
      have g2 := (hbel.cell (p := ⟨b1, off + k * 6 + 2, none⟩) hbw).trans g2
      have g3 := (hbel.cell (p := ⟨b1, off + k * 6 + 3, none⟩) hbw).trans g3
      have g4 := (hbel.cell (p := ⟨b1, off + k * 6 + 4, none⟩) hbw).trans g4
      have g5 := (hbel.cell (p := ⟨b1, off + k * 6 + 5, none⟩) hbw).trans g5
      have HT := Lib.hid hat
      have HWf := Lib.hid hwf.1
      have hsh0 : t.Short := HN.out _ (List.mem_of_getElem? hat)
      have HCp : Hid (∀ W, Below wr.heap.size wr W → Calls Tryz.prog 48 #[.agg #[.int .i64 t.kind, .int .i64 t.field, .int .i64 t.value, .slice t.LA t.Ln t.Lc, .slice t.PA t.Pn t.Pc]] W fun e w' => ∃ t' : Wi, e = .returned t'.val ∧ t'.dat = t.dat ∧ t'.Short ∧ WiO w' W.heap.size t' ∧ Below W.heap.size W w') := Lib.hid fun W h => sWish_c W B t (hwf.2.below ((hbel.mono hB).trans (h.mono (Nat.le_trans hB hbel.size)))) (Nat.le_trans (Nat.le_trans hB hbel.size) h.size) hsh0
      have HLn : Hid ((cs.length + 1) * 80 ≤ 140737488355328) := Lib.hid (by
        have h1 := congrArg List.length HD.out
        unfold datN at h1
        rw [List.length_map, List.length_map, List.length_take] at h1
        omega)
      have hlt' : (k : Int) < (n : Int) := by omega
      clear hat hwf hbel hsh0
      go_wp2
      have hS0 : (fun w' => Below w.heap.size wr w' ∧ w'.cell? ⟨b1, off + k * 6, none⟩ = some (.int .i64 op) ∧ w'.cell? ⟨b1, off + k * 6 + 1, none⟩ = some (.int .i64 t.kind) ∧ w'.cell? ⟨b1, off + k * 6 + 2, none⟩ = some (.int .i64 t.field) ∧ w'.cell? ⟨b1, off + k * 6 + 3, none⟩ = some (.int .i64 t.value) ∧ w'.cell? ⟨b1, off + k * 6 + 4, none⟩ = some (.slice t.LA t.Ln t.Lc) ∧ w'.cell? ⟨b1, off + k * 6 + 5, none⟩ = some (.slice t.PA t.Pn t.Pc)) wr.drew := ⟨(Below.refl _ _).drew, g0, g1, g2, g3, g4, g5⟩
      refine wp_region_held (S := fun w' => Below w.heap.size wr w' ∧ w'.cell? ⟨b1, off + k * 6, none⟩ = some (.int .i64 op) ∧ w'.cell? ⟨b1, off + k * 6 + 1, none⟩ = some (.int .i64 t.kind) ∧ w'.cell? ⟨b1, off + k * 6 + 2, none⟩ = some (.int .i64 t.field) ∧ w'.cell? ⟨b1, off + k * 6 + 3, none⟩ = some (.int .i64 t.value) ∧ w'.cell? ⟨b1, off + k * 6 + 4, none⟩ = some (.slice t.LA t.Ln t.Lc) ∧ w'.cell? ⟨b1, off + k * 6 + 5, none⟩ = some (.slice t.PA t.Pn t.Pc)) (by kernel_rfl) ?_
      change wpAnyH _ _ _ _ _ _ _ _ (World.drew _)
      refine takeY 12 (i := 0) (v := ?v0a) rfl rfl (by kernel_rfl) (by kernel_rfl) (by kernel_rfl) (fun _ _ _ h => h) (by kernel_rfl) ?y0a hS0 ?_
      case y0a =>
        intro w' hw'; (try dsimp only at hw'); obtain ⟨e0, e1, e2, e3, e4, e5, e6⟩ := hw'; go_simp; try with_reducible rfl
      simp only [Act.put, List.setIfInBounds_toArray, List.set_cons_zero, List.set_cons_succ]
      refine takeY 13 (i := 1) (v := ?v1a) rfl rfl (by kernel_rfl) (by kernel_rfl) (by kernel_rfl) (fun _ _ _ h => h) (by kernel_rfl) ?y1a hS0 ?_
      case y1a =>
        intro w' hw'; (try dsimp only at hw'); obtain ⟨e0, e1, e2, e3, e4, e5, e6⟩ := hw'; go_simp; try with_reducible rfl
      simp only [Act.put, List.setIfInBounds_toArray, List.set_cons_zero, List.set_cons_succ]
      refine takeY 14 (i := 2) (v := ?v2a) rfl rfl (by kernel_rfl) (by kernel_rfl) (by kernel_rfl) (fun _ _ _ h => h) (by kernel_rfl) ?y2a hS0 ?_
      case y2a =>
        intro w' hw'; (try dsimp only at hw'); obtain ⟨e0, e1, e2, e3, e4, e5, e6⟩ := hw'; go_simp; try with_reducible rfl
      simp only [Act.put, List.setIfInBounds_toArray, List.set_cons_zero, List.set_cons_succ]
      refine takeY 15 (i := 3) (v := ?v3a) rfl rfl (by kernel_rfl) (by kernel_rfl) (by kernel_rfl) (fun _ _ _ h => h) (by kernel_rfl) ?y3a hS0 ?_
      case y3a =>
        intro w' hw'; (try dsimp only at hw'); obtain ⟨e0, e1, e2, e3, e4, e5, e6⟩ := hw'; go_simp; try with_reducible rfl
      simp only [Act.put, List.setIfInBounds_toArray, List.set_cons_zero, List.set_cons_succ]
      refine takeY 16 (i := 4) (v := ?v4a) rfl rfl (by kernel_rfl) (by kernel_rfl) (by kernel_rfl) (fun _ _ _ h => h) (by kernel_rfl) ?y4a hS0 ?_
      case y4a =>
        intro w' hw'; (try dsimp only at hw'); obtain ⟨e0, e1, e2, e3, e4, e5, e6⟩ := hw'; go_simp; try with_reducible rfl
      simp only [Act.put, List.setIfInBounds_toArray, List.set_cons_zero, List.set_cons_succ]
      refine takeY 17 (i := 5) (v := ?v5a) rfl rfl (by kernel_rfl) (by kernel_rfl) (by kernel_rfl) (fun _ _ _ h => h) (by kernel_rfl) ?y5a hS0 ?_
      case y5a =>
        intro w' hw'; (try dsimp only at hw'); obtain ⟨e0, e1, e2, e3, e4, e5, e6⟩ := hw'; go_simp; try with_reducible rfl
      simp only [Act.put, List.setIfInBounds_toArray, List.set_cons_zero, List.set_cons_succ]
      refine takeY 18 (i := 6) (v := ?v6a) rfl rfl (by kernel_rfl) (by kernel_rfl) (by kernel_rfl) (fun _ _ _ h => h) (by kernel_rfl) ?y6a hS0 ?_
      case y6a =>
        intro w' hw'; (try dsimp only at hw'); obtain ⟨e0, e1, e2, e3, e4, e5, e6⟩ := hw'; go_simp; try with_reducible rfl
      simp only [Act.put, List.setIfInBounds_toArray, List.set_cons_zero, List.set_cons_succ]
      refine takeY 19 (i := 7) (v := ?v7a) rfl rfl (by kernel_rfl) (by kernel_rfl) (by kernel_rfl) (fun _ _ _ h => h) (by kernel_rfl) ?y7a hS0 ?_
      case y7a =>
        intro w' hw'; (try dsimp only at hw'); obtain ⟨e0, e1, e2, e3, e4, e5, e6⟩ := hw'; go_simp; try with_reducible rfl
      simp only [Act.put, List.setIfInBounds_toArray, List.set_cons_zero, List.set_cons_succ]
      refine takeY 20 (i := 8) (v := ?v8a) rfl rfl (by kernel_rfl) (by kernel_rfl) (by kernel_rfl) (fun _ _ _ h => h) (by kernel_rfl) ?y8a hS0 ?_
      case y8a =>
        intro w' hw'; (try dsimp only at hw'); obtain ⟨e0, e1, e2, e3, e4, e5, e6⟩ := hw'; go_simp; try with_reducible rfl
      simp only [Act.put, List.setIfInBounds_toArray, List.set_cons_zero, List.set_cons_succ]
      refine takeY 21 (i := 9) (v := ?v9a) rfl rfl (by kernel_rfl) (by kernel_rfl) (by kernel_rfl) (fun _ _ _ h => h) (by kernel_rfl) ?y9a hS0 ?_
      case y9a =>
        intro w' hw'; (try dsimp only at hw'); obtain ⟨e0, e1, e2, e3, e4, e5, e6⟩ := hw'; go_simp; try with_reducible rfl
      simp only [Act.put, List.setIfInBounds_toArray, List.set_cons_zero, List.set_cons_succ]
      refine takeY 22 (i := 10) (v := ?v10a) rfl rfl (by kernel_rfl) (by kernel_rfl) (by kernel_rfl) (fun _ _ _ h => h) (by kernel_rfl) ?y10a hS0 ?_
      case y10a =>
        intro w' hw'; (try dsimp only at hw'); obtain ⟨e0, e1, e2, e3, e4, e5, e6⟩ := hw'; go_simp; try with_reducible rfl
      simp only [Act.put, List.setIfInBounds_toArray, List.set_cons_zero, List.set_cons_succ]
      refine wpAnyH_ready (rs := [11]) (by kernel_rfl) (by simp) ?_
      refine AllReadyH.cons rfl (fun K hK => ?_) AllReadyH.nil
      go_simp; go_at_call 48; refine (HCp.out _ (Below.refl wr.heap.size wr).drew).mono ?_; rintro e w2 ⟨t', rfl, hd', hs', ho', hb2⟩; unfold Wi.val; have hb2' : Below wr.heap.size wr w2 := (Below.refl wr.heap.size wr).drew.trans (hb2.mono (Nat.le_refl _)); have hb2m : Below w.heap.size wr w2 := hb2'.mono HB.out.size; have HO2 := Lib.hid (HO.out.below hb2'); have HWo : Hid (WiO w2 wr.heap.size t') := Lib.hid ho'; have HD2 := Lib.hid hd'; have HS2 := Lib.hid hs'; have HB2 := Lib.hid hb2'; have hsz2 : w.heap.size ≤ w2.heap.size := Nat.le_trans HB.out.size hb2'.size; clear hd' hs' ho' hb2 hb2'
      refine hK.out _ _ ⟨hb2m, (hb2m.cell (p := ⟨b1, off + k * 6, none⟩) hbw).trans g0, (hb2m.cell (p := ⟨b1, off + k * 6 + 1, none⟩) hbw).trans g1, (hb2m.cell (p := ⟨b1, off + k * 6 + 2, none⟩) hbw).trans g2, (hb2m.cell (p := ⟨b1, off + k * 6 + 3, none⟩) hbw).trans g3, (hb2m.cell (p := ⟨b1, off + k * 6 + 4, none⟩) hbw).trans g4, (hb2m.cell (p := ⟨b1, off + k * 6 + 5, none⟩) hbw).trans g5⟩ (fun hS1 => ?_)
      clear hK K
      try simp only [Act.put, List.setIfInBounds_toArray, List.set_cons_zero, List.set_cons_succ]
      refine takeY 24 (i := 12) (v := ?v12a) rfl rfl (by kernel_rfl) (by kernel_rfl) (by kernel_rfl) (fun _ _ _ h => h) (by kernel_rfl) ?y12a hS1 ?_
      case y12a =>
        intro w' hw'; (try dsimp only at hw'); obtain ⟨e0, e1, e2, e3, e4, e5, e6⟩ := hw'; go_simp; try with_reducible rfl
      simp only [Act.put, List.setIfInBounds_toArray, List.set_cons_zero, List.set_cons_succ]
      refine wpAnyH_ready (rs := [13]) (by kernel_rfl) (by simp) ?_
      refine AllReadyH.cons rfl (fun K hK => ?_) AllReadyH.nil
      go_simp; have hb2a : Below w.heap.size wr (w2.alloc (.cells #[.int .i64 op, .int .i64 t'.kind, .int .i64 t'.field, .int .i64 t'.value, .slice t'.LA t'.Ln t'.Lc, .slice t'.PA t'.Pn t'.Pc] 57)) := hb2m.alloc hsz2 _
      refine hK.out _ _ ⟨hb2a, (hb2a.cell (p := ⟨b1, off + k * 6, none⟩) hbw).trans g0, (hb2a.cell (p := ⟨b1, off + k * 6 + 1, none⟩) hbw).trans g1, (hb2a.cell (p := ⟨b1, off + k * 6 + 2, none⟩) hbw).trans g2, (hb2a.cell (p := ⟨b1, off + k * 6 + 3, none⟩) hbw).trans g3, (hb2a.cell (p := ⟨b1, off + k * 6 + 4, none⟩) hbw).trans g4, (hb2a.cell (p := ⟨b1, off + k * 6 + 5, none⟩) hbw).trans g5⟩ (fun hS2 => ?_)
      clear hK K
      try simp only [Act.put, List.setIfInBounds_toArray, List.set_cons_zero, List.set_cons_succ]
      refine wpAnyH_ready (rs := [14]) (by kernel_rfl) (by simp) ?_
      refine AllReadyH.cons rfl (fun K hK => ?_) AllReadyH.nil
      obtain ⟨v', w3, hr, hown3, hg3, hat3⟩ := run_oneG nodeCells_len nodeCells_one (ty := 24) (c := 1) Tryz.underlying24 info_node rfl (by decide) (by decide) (⟨op, t'⟩ : Nd) rfl HO2.out.r rfl HLn.out hsz2; refine step_run _ (by rfl) (.tmp 12) (.tmp 25) 24 (by rfl) _ _ (by rfl) (by rfl) hr ?_; have hb3m : Below w.heap.size wr w3 := hb2m.grown hg3 hsz2 (fun k hk => HO2.out.r.lows k hk)
      refine hK.out _ _ ⟨hb3m, (hb3m.cell (p := ⟨b1, off + k * 6, none⟩) hbw).trans g0, (hb3m.cell (p := ⟨b1, off + k * 6 + 1, none⟩) hbw).trans g1, (hb3m.cell (p := ⟨b1, off + k * 6 + 2, none⟩) hbw).trans g2, (hb3m.cell (p := ⟨b1, off + k * 6 + 3, none⟩) hbw).trans g3, (hb3m.cell (p := ⟨b1, off + k * 6 + 4, none⟩) hbw).trans g4, (hb3m.cell (p := ⟨b1, off + k * 6 + 5, none⟩) hbw).trans g5⟩ (fun hS3 => ?_)
      clear hK K
      try simp only [Act.put, List.setIfInBounds_toArray, List.set_cons_zero, List.set_cons_succ]
      refine takeY 3 (i := 15) (v := ?v15a) rfl rfl (by kernel_rfl) (by kernel_rfl) (by kernel_rfl) (fun _ _ _ h => h) (by kernel_rfl) ?y15a hS3 ?_
      case y15a =>
        intro w' hw'; (try dsimp only at hw'); obtain ⟨e0, e1, e2, e3, e4, e5, e6⟩ := hw'; go_simp; try with_reducible rfl
      simp only [Act.put, List.setIfInBounds_toArray, List.set_cons_zero, List.set_cons_succ]
      refine wpAnyH_done (by kernel_rfl) ?_ _
      have HO3 := Lib.hid (HO2.out.snoc hg3 hat3 hown3 HWf.out (HWo.out.low HB.out.size) (fun b h1 h2 => by
        have q1 := (HWo.out.has_in h1).1
        have q2 := (HO.out.has_in h2).2
        omega))
      have HB3 := Lib.hid (HB.out.trans hb3m)
      clear hr hown3 hg3 hat3 hb3m hb2m hb2a hS0 hS1 hS2 hS3 g0 g1 g2 g3 g4 g5
      go_wp2
      go_roundw
      case rel =>
        refine ⟨k + 1, cs ++ [⟨op, t'⟩], _, by omega, by go_num, rfl, HO3.out, ?_, short_app HS.out (fun u hu => by rw [List.mem_singleton.1 hu]; exact HS2.out), HB3.out⟩
        rw [datN_at HT.out, datN_app, HD.out]
        unfold datN Nd.dat
        rw [List.map_singleton, HD2.out]
      case measure => simp [intOf]; omega
    · obtain rfl : k = n := by omega
      have ht : ns.take k = ns := List.take_of_length_le (by rw [HX.out.len]; exact Nat.le_refl _)
      clear hbel
      go_wp2
      go_ret
      exact ⟨_, cs, rfl, by rw [HD.out, ht], HS.out, HO.out, HB.out⟩
set_option maxRecDepth 20000 in
/-- slices.Grow of nil. -/
theorem growN (w : World) (n : Nat) (hn : n ≤ 1048576) :
    Calls Tryz.prog 66 #[.slice none 0 0, .int .i64 n] w fun e w' => ∃ v, e = .returned v ∧ OwnG 57 nodeCells 6 w' w.heap.size v [] ∧ Below w.heap.size w w' := by
  obtain ⟨i0, hi, hzz⟩ := Option.map_eq_some_iff.1 info_node
  simp only [Prod.mk.injEq] at hzz
  obtain ⟨hz0, hz1, hz2⟩ := hzz
  rcases Nat.eq_zero_or_pos n with e | e
  · subst e
    clear hi hz0 hz1 hz2
    go_enter Tryz.func66, Tryz.ntmps66
    go_wp2
    go_ret
    exact ⟨_, rfl, .nil _ _, Below.refl _ _⟩
  · have hr := Go.Lib.run_append_nil_zeros (P := Tryz.prog) w 24 3 24 57 i0 (.agg #[.int .i64 0, .int .i64 0, .int .i64 0, .int .i64 0, .slice none 0 0, .slice none 0 0]) .i64 .i64 Tryz.underlying24 Tryz.underlying3 hi hz0 n e (by rw [hz1]; decide) (by omega) (by rw [hz2]; omega)
    have hcap := grownCap_ge w n 0 57
    have hcapm : grownCap w n 0 57 ≤ maxLen := grownCap_le_maxLen w n 0 57 (by unfold maxLen; omega)
    generalize grownCap w n 0 57 = cap at hr hcap hcapm
    have hpos : (0 : Int) < (n : Int) := by omega
    have hcap' : cap ≤ 9223372036854775807 := by unfold maxLen at hcapm; omega
    have HC := Lib.hid (And.intro hcap hcapm)
    clear hi hz0 hz1 hz2 hcapm
    go_enter Tryz.func66, Tryz.ntmps66
    go_wp2_with (at_builtin; refine Go.Lib.wpList_append_run _ (by rfl) (.tmp 20) (.tmp 21) 24 3 (by rfl) _ _ (by rfl) (by rfl) _ _ hr ?_)
    clear hr
    go_wp2
    go_ret
    refine ⟨_, rfl, ?_, (Below.refl _ w).drew.alloc (Nat.le_refl _) _⟩
    refine ⟨rfl, .inr ⟨w.heap.size, cap, _, rfl, Nat.le_refl _, heap_alloc_new w.drew _, Nat.zero_le _, HC.out.2, ?_, ?_⟩⟩
    · have h := HC.out.1
      rw [Array.size_append, size_zeroCells, size_zeroCells]
      show n * 6 + (cap - n) * 6 = cap * 6
      rw [← Nat.add_mul]
      congr 1
      omega
    · simp
set_option maxRecDepth 20000 in
set_option maxHeartbeats 1600000 in
/-- slices.Concat of three slices of nodes. -/
theorem concatN (w : World) (B : Nat) (g c : Nat) (A1 A2 A3 : Option Addr) (n1 n2 n3 c1 c2 c3 : Nat) (l1 l2 l3 : List Nd) (h1 : ReadG nodeCells 6 w B A1 n1 l1) (h2 : ReadG nodeCells 6 w B A2 n2 l2) (h3 : ReadG nodeCells 6 w B A3 n3 l3) (hB : B ≤ w.heap.size) (hg : g < w.heap.size) (hn : n1 + n2 + n3 ≤ 1048576)
    (q0 : w.cell? ⟨g, 0, none⟩ = some (.slice A1 n1 c1)) (q1 : w.cell? ⟨g, 1, none⟩ = some (.slice A2 n2 c2)) (q2 : w.cell? ⟨g, 2, none⟩ = some (.slice A3 n3 c3)) :
    Calls Tryz.prog 44 #[.slice (some ⟨g, 0, none⟩) 3 c] w fun e w' => ∃ v, e = .returned v ∧ OwnG 57 nodeCells 6 w' w.heap.size v (l1 ++ l2 ++ l3) ∧ Below w.heap.size w w' := by
  have HR1 := Lib.hid h1
  have HR2 := Lib.hid h2
  have HR3 := Lib.hid h3
  have HQ := Lib.hid (And.intro q0 (And.intro q1 q2))
  have HGr := Lib.hid (fun w1 : World => growN w1 (n1 + n2 + n3) hn)
  have HLe : Hid (l1.length = n1 ∧ l2.length = n2 ∧ l3.length = n3) := Lib.hid ⟨h1.len, h2.len, h3.len⟩
  clear h1 h2 h3
  go_enter Tryz.func44, Tryz.ntmps44
  go_wp2
  go_loopw [3, 11] (fun s i wr => ∃ k : Nat, k ≤ 3 ∧ i = .int .i64 k ∧ s = .int .i64 ((if k = 0 then 0 else if k = 1 then n1 else if k = 2 then n1 + n2 else n1 + n2 + n3 : Nat) : Int) ∧ w = wr) (fun _ i _ => 3 - (intOf i).toNat)
  case atStart => exact ⟨0, by decide, rfl, rfl, rfl⟩
  case round =>
    obtain ⟨k, hk, rfl, rfl, rfl⟩ := hrel
    have hk' : k = 0 ∨ k = 1 ∨ k = 2 ∨ k = 3 := by omega
    rcases hk' with rfl | rfl | rfl | rfl
    · go_wp2
      go_roundw
      case rel => exact ⟨1, by decide, by go_num, by simp, by first | rfl | trivial⟩
      case measure => simp [intOf]
    · have hd : decide ((n1 : Int) + (n2 : Int) < 0) = false := by simp; omega
      have hw : IntKind.i64.wrap ((n1 : Int) + (n2 : Int)) = (n1 : Int) + (n2 : Int) := IntWalk.i64_in _ ⟨by omega, by omega⟩
      go_wp2
      go_roundw
      case rel => exact ⟨2, by decide, by go_num, by simp, by first | rfl | trivial⟩
      case measure => simp [intOf]
    · have hd : decide ((n1 : Int) + (n2 : Int) + (n3 : Int) < 0) = false := by simp; omega
      have hw : IntKind.i64.wrap ((n1 : Int) + (n2 : Int) + (n3 : Int)) = (n1 : Int) + (n2 : Int) + (n3 : Int) := IntWalk.i64_in _ ⟨by omega, by omega⟩
      go_wp2
      go_roundw
      case rel => exact ⟨3, by decide, by go_num, by simp, by first | rfl | trivial⟩
      case measure => simp [intOf]
    · have hsum : ((if (3 : Nat) = 0 then 0 else if (3 : Nat) = 1 then n1 else if (3 : Nat) = 2 then n1 + n2 else n1 + n2 + n3 : Nat) : Int) = ((n1 + n2 + n3 : Nat) : Int) := by simp
      rw [hsum]
      obtain ⟨m, hm⟩ : ∃ m, n1 + n2 + n3 = m := ⟨_, rfl⟩
      have HM := Lib.hid hm
      rw [hm]
      have HG2 : Hid (∀ w1, Calls Tryz.prog 66 #[.slice none 0 0, .int .i64 (m : Int)] w1 fun e w' => ∃ v, e = .returned v ∧ OwnG 57 nodeCells 6 w' w1.heap.size v [] ∧ Below w1.heap.size w1 w') := Lib.hid fun w1 => by rw [← hm]; exact HGr.out w1
      clear hm hsum
      go_wp2_with fail
      refine (HG2.out _).mono ?_
      rintro e w1 ⟨v, rfl, ho, hb1⟩
      have HO := Lib.hid ho
      have HB1 := Lib.hid hb1
      clear ho hb1 q0 q1 q2
      go_wp2
      go_loopw [6, 27] (fun x i wr => ∃ (k : Nat) (V : Value) (l : List Nd), k ≤ 3 ∧ i = .int .i64 k ∧ V = x ∧ OwnG 57 nodeCells 6 wr w.heap.size V l ∧ l = (if k = 0 then [] else if k = 1 then l1 else if k = 2 then l1 ++ l2 else l1 ++ l2 ++ l3) ∧ Below w.heap.size w wr) (fun _ i _ => 3 - (intOf i).toNat)
      case atStart => exact ⟨0, v, [], by decide, rfl, rfl, HO.out, rfl, HB1.out⟩
      case round =>
        obtain ⟨k, v, l, hk, rfl, rfl, hown, hl, hbel⟩ := hrel
        have HO1 := Lib.hid hown
        have HBe := Lib.hid hbel
        have hsz : w.heap.size ≤ wr.heap.size := hbel.size
        obtain ⟨q0, q1, q2⟩ := HQ.out
        have q0 := (hbel.cell (p := ⟨g, 0, none⟩) hg).trans q0
        have q1 := (hbel.cell (p := ⟨g, 1, none⟩) hg).trans q1
        have q2 := (hbel.cell (p := ⟨g, 2, none⟩) hg).trans q2
        have HL := Lib.hid hl
        clear hown hbel hl
        have hk' : k = 0 ∨ k = 1 ∨ k = 2 ∨ k = 3 := by omega
        rcases hk' with rfl | rfl | rfl | rfl
        · obtain rfl := HL.out
          obtain ⟨v', w3, hr, ho3, hg3, hat3⟩ := run_spreadG nodeCells_len nodeCells_one (ty := 24) (c := c1) Tryz.underlying24 info_node rfl (by decide) (by decide) HO1.out (HR1.out.below (HBe.out.mono hB)) (by simp only [if_true, if_neg (show ¬ (1 : Nat) = 0 by decide), if_neg (show ¬ (2 : Nat) = 0 by decide), if_neg (show ¬ (2 : Nat) = 1 by decide), List.length_nil, List.length_append, HLe.out.1, HLe.out.2.1]; omega) hsz
          have HO3 := Lib.hid ho3
          have HB3 := Lib.hid (HBe.out.grown hg3 hsz (fun k hk => HO1.out.lows k hk))
          clear ho3 hg3 hat3
          go_wp2_with (at_builtin; refine Go.Lib.wpList_append_run_sl _ (by rfl) (.tmp 31) (.tmp 32) 24 (by rfl) _ _ (by rfl) (by rfl) hr ?_)
          clear hr q0 q1 q2
          go_wp2
          go_roundw
          case rel => exact ⟨1, v', _, by decide, by go_num, rfl, HO3.out, by simp, HB3.out⟩
          case measure => simp [intOf]
        · obtain rfl := HL.out
          obtain ⟨v', w3, hr, ho3, hg3, hat3⟩ := run_spreadG nodeCells_len nodeCells_one (ty := 24) (c := c2) Tryz.underlying24 info_node rfl (by decide) (by decide) HO1.out (HR2.out.below (HBe.out.mono hB)) (by simp only [if_true, if_neg (show ¬ (1 : Nat) = 0 by decide), if_neg (show ¬ (2 : Nat) = 0 by decide), if_neg (show ¬ (2 : Nat) = 1 by decide), List.length_nil, List.length_append, HLe.out.1, HLe.out.2.1]; omega) hsz
          have HO3 := Lib.hid ho3
          have HB3 := Lib.hid (HBe.out.grown hg3 hsz (fun k hk => HO1.out.lows k hk))
          clear ho3 hg3 hat3
          go_wp2_with (at_builtin; refine Go.Lib.wpList_append_run_sl _ (by rfl) (.tmp 31) (.tmp 32) 24 (by rfl) _ _ (by rfl) (by rfl) hr ?_)
          clear hr q0 q1 q2
          go_wp2
          go_roundw
          case rel => exact ⟨2, v', _, by decide, by go_num, rfl, HO3.out, by simp, HB3.out⟩
          case measure => simp [intOf]
        · obtain rfl := HL.out
          obtain ⟨v', w3, hr, ho3, hg3, hat3⟩ := run_spreadG nodeCells_len nodeCells_one (ty := 24) (c := c3) Tryz.underlying24 info_node rfl (by decide) (by decide) HO1.out (HR3.out.below (HBe.out.mono hB)) (by simp only [if_true, if_neg (show ¬ (1 : Nat) = 0 by decide), if_neg (show ¬ (2 : Nat) = 0 by decide), if_neg (show ¬ (2 : Nat) = 1 by decide), List.length_nil, List.length_append, HLe.out.1, HLe.out.2.1]; omega) hsz
          have HO3 := Lib.hid ho3
          have HB3 := Lib.hid (HBe.out.grown hg3 hsz (fun k hk => HO1.out.lows k hk))
          clear ho3 hg3 hat3
          go_wp2_with (at_builtin; refine Go.Lib.wpList_append_run_sl _ (by rfl) (.tmp 31) (.tmp 32) 24 (by rfl) _ _ (by rfl) (by rfl) hr ?_)
          clear hr q0 q1 q2
          go_wp2
          go_roundw
          case rel => exact ⟨3, v', _, by decide, by go_num, rfl, HO3.out, by simp, HB3.out⟩
          case measure => simp [intOf]
        · go_wp2
          go_ret
          refine ⟨_, rfl, ?_, HBe.out⟩
          have := HL.out
          simp at this
          rw [← List.append_assoc] at this
          rw [← this]
          exact HO1.out
end Go.Proofs.YtaijajajpnekbaaGreat.num
namespace Go.Proofs.YtaijajajpnekbaaGreat.num
set_option maxRecDepth 20000
open Go.RowKit
set_option linter.unusedVariables false
set_option linter.unusedSimpArgs false

theorem IsE.len9 {ns : List Nd} (h : IsE (datN ns)) : ns.length ≤ 9 := by have := h.1; unfold datN at this; rwa [List.length_map] at this
theorem ownN_empty (w w0 : World) (hle : w0.heap.size ≤ w.heap.size) : OwnN (w.alloc (.cells #[] 57)) w0.heap.size (.slice (some ⟨w.heap.size, 0, none⟩) 0 0) [] := ⟨OwnG.empty w _ hle, by simp, by simp, by simp⟩
/-- Three worlds: two slices of nodes copied, then both in one row, then an operator behind them. -/
theorem join_own {w2 w3 w4 w5 w6 : World} {lo : Nat} {v1 v2 v3 v4 : Value} {k1 k2 : List Nd} {op : Int} (hop : (Lit.int .i64 op).wf = true) (h1 : OwnN w3 lo v1 k1) (hb : Below w3.heap.size w3 w4) (h2 : OwnN w4 w3.heap.size v2 k2) (hlo : lo ≤ w3.heap.size)
    (hg5 : w4.grownBy w5 v1.ownBlock) (ha5 : v3.ownBlock = v1.ownBlock ∨ v3.ownBlock = some w4.heap.size) (hg6 : w5.grownBy w6 v3.ownBlock) (ha6 : v4.ownBlock = v3.ownBlock ∨ v4.ownBlock = some (w5.heap.size + 1)) (hr : OwnG 57 nodeCells 6 w6 lo v4 (k1 ++ k2 ++ [bareN op])) : OwnN w6 lo v4 (k1 ++ k2 ++ [bareN op]) := by
  have n1 : NodesO w4 lo k1 := (h1.below hb).no
  have n2 : NodesO w4 w3.heap.size k2 := h2.no
  have t1 : ∀ x ∈ k1, ∀ b, x.t.has b → b < w3.heap.size := fun x hx b h => (h1.no.has_in hx h).2
  have n12 := n1.cat n2 hlo t1
  have ne1 : ∀ x ∈ k1 ++ k2, ∀ b, x.t.has b → some b ≠ v1.ownBlock := fun x hx b h e => by
    rcases List.mem_append.1 hx with hx | hx
    · obtain ⟨i, hi, rfl⟩ := List.getElem_of_mem hx
      exact h1.a i _ b (List.getElem?_eq_getElem hi) h e.symm
    · have q1 := (n2.has_in hx h).1
      have q2 := h1.r.tops b e.symm
      omega
  have lt1 : ∀ x ∈ k1 ++ k2, ∀ b, x.t.has b → b < w4.heap.size := fun x hx b h => (n12.has_in hx h).2
  have ne3 : ∀ x ∈ k1 ++ k2, ∀ b, x.t.has b → some b ≠ v3.ownBlock := fun x hx b h e => by
    rcases ha5 with q | q
    · exact ne1 x hx b h (e.trans q)
    · rw [q] at e
      have := Option.some.inj e
      have := lt1 x hx b h
      omega
  have n5 : NodesO w5 lo (k1 ++ k2) := n12.blocks fun x hx b h => hg5.block b (lt1 x hx b h) (ne1 x hx b h)
  have lt5 : ∀ x ∈ k1 ++ k2, ∀ b, x.t.has b → b < w5.heap.size := fun x hx b h => (n5.has_in hx h).2
  have n6 : NodesO w6 lo (k1 ++ k2) := n5.blocks fun x hx b h => hg6.block b (lt5 x hx b h) (ne3 x hx b h)
  have n7 : NodesO w6 lo (k1 ++ k2 ++ [bareN op]) := n6.cat (NodesO.bare w6 (max lo w6.heap.size) hop) (Nat.le_max_left _ _) fun x hx b h => Nat.lt_of_lt_of_le (n6.has_in hx h).2 (Nat.le_max_right _ _)
  refine OwnN.of hr n7 fun x hx b h e => ?_
  rcases List.mem_append.1 hx with hx | hx
  · rcases ha6 with q | q
    · exact ne3 x hx b h (by rw [← q, e])
    · rw [q] at e
      have h9 := Option.some.inj e
      have := lt5 x hx b h
      omega
  · rw [List.mem_singleton.1 hx] at h
    exact bare_has op b h

end Go.Proofs.YtaijajajpnekbaaGreat.num
namespace Go.Proofs.YtaijajajpnekbaaGreat.num
set_option maxRecDepth 20000
set_option linter.unusedVariables false

/-- A tree's nodes, each operator behind its operands. -/
def flatT : Tr → List ND
  | .base d => [⟨0, d⟩]
  | .dual a => flatT a ++ [⟨3, zeroWD⟩]
  | .bin op a b => flatT a ++ flatT b ++ [⟨op, zeroWD⟩]
/-- A tree of a valid expression. -/
def OkT : Tr → Prop
  | .base d => IsW d
  | .dual a => OkT a
  | .bin op a b => Bin op ∧ OkT a ∧ OkT b
theorem noW_eq {d : WD} (h : NoW d) : d = zeroWD := by
  obtain ⟨h1, h2, h3, h4, h5⟩ := h
  cases d
  simp only at h1 h2 h3 h4 h5
  subst h1 h2 h3 h4 h5
  rfl
theorem nd_eta (nd : ND) {op : Int} {d : WD} (h1 : nd.op = op) (h2 : nd.w = d) : nd = ⟨op, d⟩ := by cases nd; simp only at h1 h2; subst h1 h2; rfl
theorem Post.flat {l : List ND} {t : Tr} (h : Post l t) : l = flatT t ∧ OkT t := by
  induction h with
  | base h hw => exact ⟨by rw [flatT, ← nd_eta _ h rfl], hw⟩
  | dual h hw ha ih => exact ⟨by rw [flatT, ← ih.1, ← nd_eta _ h (noW_eq hw)], ih.2⟩
  | bin h hw ha hb iha ihb => exact ⟨by rw [flatT, ← iha.1, ← ihb.1, ← nd_eta _ rfl (noW_eq hw)], h, iha.2, ihb.2⟩
theorem flat_post : ∀ {t : Tr}, OkT t → Post (flatT t) t
  | .base d, h => Post.base (nd := ⟨0, d⟩) rfl h
  | .dual a, h => Post.dual (nd := ⟨3, zeroWD⟩) rfl noW_zero (flat_post (t := a) h)
  | .bin op a b, h => Post.bin (nd := ⟨op, zeroWD⟩) h.1 noW_zero (flat_post (t := a) h.2.1) (flat_post (t := b) h.2.2)
theorem flat_inj {a b : Tr} (ha : OkT a) (hb : OkT b) (h : flatT a = flatT b) : a = b := (flat_post ha).one (h ▸ flat_post hb)
theorem flat_ne (t : Tr) : 0 < (flatT t).length := by
  cases t with
  | base d => exact Nat.one_pos
  | dual a => simp only [flatT, List.length_append, List.length_cons]; omega
  | bin op a b => simp only [flatT, List.length_append, List.length_cons]; omega

/-- The part s ends at node k; it begins at node i. -/
structure At (nds : List ND) (k i : Nat) (s : Tr) : Prop where
  e : IsE nds
  lt : k < nds.length
  p : Post ((nds.take (k + 1)).drop i) s
theorem At.ex {nds : List ND} {k : Nat} (h : IsE nds) (hk : k < nds.length) : ∃ i s, At nds k i s := by
  obtain ⟨_, t, ht⟩ := h
  have h1 := post_stk.1 ht
  rw [← List.take_append_drop (k + 1) nds] at h1
  obtain ⟨s', hs⟩ := h1.pre
  have hne : nds.take (k + 1) ≠ [] := by
    intro e
    have := congrArg List.length e
    rw [List.length_take, List.length_nil] at this
    omega
  generalize hl : nds.take (k + 1) = l at hs hne
  cases hs.fo with
  | nil => exact absurd rfl hne
  | @snoc l0 m t0 st hl0 hm => exact ⟨l0.length, t0, ⟨‹_›, t, ht⟩, hk, by rw [hl, List.drop_left]; exact hm⟩
theorem At.one {nds : List ND} {k i j : Nat} {s u : Tr} (h : At nds k i s) (h' : At nds k j u) : i = j ∧ s = u := by
  have e := Post.drop_one h.p h'.p
  subst e
  exact ⟨rfl, h.p.one h'.p⟩
theorem At.le {nds : List ND} {k i : Nat} {s : Tr} (h : At nds k i s) : i ≤ k := by
  rcases Nat.lt_or_ge k i with g | g
  · refine absurd (List.drop_eq_nil_of_le ?_) h.p.ne
    rw [List.length_take]
    omega
  · exact g
theorem At.flat {nds : List ND} {k i : Nat} {s : Tr} (h : At nds k i s) : (nds.take (k + 1)).drop i = flatT s := h.p.flat.1
theorem At.ok {nds : List ND} {k i : Nat} {s : Tr} (h : At nds k i s) : OkT s := h.p.flat.2
theorem At.len {nds : List ND} {k i : Nat} {s : Tr} (h : At nds k i s) : i + (flatT s).length = k + 1 := by
  have := congrArg List.length h.flat
  rw [List.length_drop, List.length_take] at this
  have := h.le
  have := h.lt
  omega
theorem At.take {nds : List ND} {k i : Nat} {s : Tr} (h : At nds k i s) : nds.take (k + 1) = nds.take i ++ flatT s := by
  conv => lhs; rw [← List.take_append_drop i (nds.take (k + 1))]
  rw [h.flat, List.take_take, Nat.min_eq_left (by have := h.le; omega)]
theorem At.split {nds : List ND} {k i : Nat} {s : Tr} (h : At nds k i s) : nds = nds.take i ++ flatT s ++ nds.drop (k + 1) := by
  conv => lhs; rw [← List.take_append_drop (k + 1) nds, h.take]

/-- How many parts lie from node i up to node m. -/
def Back (nds : List ND) (i m d : Nat) : Prop := ∃ st : List Tr, Stk ((nds.take m).drop i) st ∧ st.length = d
theorem Stk.len {l : List ND} {st : List Tr} (h : Stk l st) : st.length ≤ l.length := by
  induction h with
  | nil => exact Nat.le_refl _
  | base hl h hw ih => simp only [List.length_cons, List.length_append, List.length_nil]; omega
  | dual hl h hw ih => simp only [List.length_cons, List.length_append, List.length_nil] at *; omega
  | bin hl h hw ih => simp only [List.length_cons, List.length_append, List.length_nil] at *; omega
theorem At.back {nds : List ND} {k i : Nat} {s : Tr} (h : At nds k i s) : Back nds i (k + 1) 1 := ⟨_, post_stk.1 h.p, rfl⟩
theorem Back.le {nds : List ND} {i m d : Nat} (h : Back nds i m d) : d ≤ m - i := by
  obtain ⟨st, h1, h2⟩ := h
  have := h1.len
  rw [List.length_drop, List.length_take] at this
  omega
theorem Back.step {nds : List ND} {i m d : Nat} {nd : ND} (h : Back nds i (m + 1) d) (him : i ≤ m) (hnd : nds[m]? = some nd) : 1 ≤ d ∧ ((nd.op = 0 ∧ Back nds i m (d - 1)) ∨ (nd.op = 3 ∧ Back nds i m d) ∨ (Bin nd.op ∧ Back nds i m (d + 1))) := by
  obtain ⟨st, h1, h2⟩ := h
  have hlt : m < nds.length := by
    rcases Nat.lt_or_ge m nds.length with g | g
    · exact g
    · rw [List.getElem?_eq_none g] at hnd; cases hnd
  have e : (nds.take (m + 1)).drop i = (nds.take m).drop i ++ [nd] := by
    rw [List.take_add_one, hnd, List.drop_append_of_le_length (by rw [List.length_take]; omega)]
    rfl
  rw [e] at h1
  rcases h1.inv with ⟨h0, _, s, hs, rfl⟩ | ⟨h3, _, a, s, hs, rfl⟩ | ⟨hb, _, a, b, s, hs, rfl⟩
  · refine ⟨by simp only [List.length_cons] at h2; omega, .inl ⟨h0, s, hs, by simp only [List.length_cons] at h2; omega⟩⟩
  · refine ⟨by simp only [List.length_cons] at h2; omega, .inr (.inl ⟨h3, _, hs, by simp only [List.length_cons] at h2 ⊢; omega⟩)⟩
  · refine ⟨by simp only [List.length_cons] at h2; omega, .inr (.inr ⟨hb, _, hs, by simp only [List.length_cons] at h2 ⊢; omega⟩)⟩
theorem Back.zero {nds : List ND} {i m d : Nat} (h : Back nds i m d) (him : i ≤ m) (hm : m ≤ nds.length) : d = 0 ↔ m = i := by
  obtain ⟨st, h1, h2⟩ := h
  constructor
  · intro h0
    rcases Nat.eq_or_lt_of_le him with g | g
    · exact g.symm
    · have hne : (nds.take m).drop i ≠ [] := fun e => by
        have := congrArg List.length e
        rw [List.length_drop, List.length_take, List.length_nil] at this
        omega
      have := h1.some hne
      cases st with
      | nil => exact absurd rfl this
      | cons a r => simp only [List.length_cons] at h2; omega
  · rintro rfl
    have := h1.len
    rw [List.length_drop, List.length_take] at this
    omega

/-- What a rule makes of a part. -/
inductive RuleT : Int → Tr → Tr → Prop
  | dd (a : Tr) : RuleT 1 (.dual (.dual a)) a
  | push (op : Int) (a b : Tr) : RuleT 2 (.dual (.bin op a b)) (.bin op (.dual a) (.dual b))
  | idem (op : Int) (a : Tr) : RuleT 3 (.bin op a a) a
  | comm (op : Int) (a b : Tr) (h : op ≠ 2) : RuleT 4 (.bin op a b) (.bin op b a)
theorem RuleT.one {r : Int} {s a b : Tr} (h : RuleT r s a) (h' : RuleT r s b) : a = b := by
  cases h <;> cases h' <;> rfl
theorem RuleT.ok {r : Int} {s a : Tr} (h : RuleT r s a) (ho : OkT s) : OkT a := by
  cases h with
  | dd => exact ho
  | push => exact ⟨ho.1, ho.2.1, ho.2.2⟩
  | idem => exact ho.2.1
  | comm => exact ⟨ho.1, ho.2.2, ho.2.1⟩
theorem RuleT.num {r : Int} {s a : Tr} (h : RuleT r s a) : 1 ≤ r ∧ r ≤ 4 := by cases h <;> decide
/-- The expression with another part in the place of the one from node i to node k. -/
def putD (nds : List ND) (k i : Nat) (s : Tr) : List ND := nds.take i ++ flatT s ++ nds.drop (k + 1)
/-- The rule is possible at the node, and makes r of the expression. -/
def AppY (nds : List ND) (rule pos : Int) (r : List ND) : Prop := ∃ k i s s', pos = (k : Nat) ∧ At nds k i s ∧ RuleT rule s s' ∧ r = putD nds k i s' ∧ r.length ≤ 9
def AppD (nds : List ND) (rule pos : Int) : Option (List ND) → Prop
  | some r => AppY nds rule pos r
  | none => ∀ r, ¬ AppY nds rule pos r
theorem AppY.one {nds r r' : List ND} {rule pos : Int} (h : AppY nds rule pos r) (h' : AppY nds rule pos r') : r = r' := by
  obtain ⟨k, i, s, s', hk, ha, hr, rfl, _⟩ := h
  obtain ⟨k', i', u, u', hk', ha', hr', rfl, _⟩ := h'
  have e : k = k' := by omega
  subst e
  obtain ⟨rfl, rfl⟩ := ha.one ha'
  rw [hr.one hr']
theorem AppD.ex (nds : List ND) (rule pos : Int) : ∃ o, AppD nds rule pos o := by
  by_cases h : ∃ r, AppY nds rule pos r
  · obtain ⟨r, hr⟩ := h; exact ⟨some r, hr⟩
  · exact ⟨none, fun r hr => h ⟨r, hr⟩⟩
theorem AppD.one {nds : List ND} {rule pos : Int} {o o' : Option (List ND)} (h : AppD nds rule pos o) (h' : AppD nds rule pos o') : o = o' := by
  cases o with
  | none =>
    cases o' with
    | none => rfl
    | some r => exact absurd h' (h r)
  | some r =>
    cases o' with
    | none => exact absurd h (h' r)
    | some r' => rw [AppY.one h h']
/-- Nothing is possible where the expression is not valid, or the node is not there. -/
theorem AppD.out {nds : List ND} {rule pos : Int} {o : Option (List ND)} (h : AppD nds rule pos o) (hn : ¬ (IsE nds ∧ 0 ≤ pos ∧ pos < nds.length)) : o = none := by
  cases o with
  | none => rfl
  | some r =>
    obtain ⟨k, i, s, s', hk, ha, _⟩ := h
    exact absurd ⟨ha.e, by omega, by have := ha.lt; omega⟩ hn
theorem AppD.no {nds : List ND} {rule : Int} {k i : Nat} {s : Tr} {o : Option (List ND)} (h : AppD nds rule (k : Nat) o) (ha : At nds k i s) (hn : ∀ s', ¬ RuleT rule s s') : o = none := by
  cases o with
  | none => rfl
  | some r =>
    obtain ⟨k', i', u, u', hk, ha', hr, _⟩ := h
    have e : k = k' := by omega
    subst e
    obtain ⟨rfl, rfl⟩ := ha.one ha'
    exact absurd hr (hn _)
theorem AppD.yes {nds : List ND} {rule : Int} {k i : Nat} {s s' : Tr} {o : Option (List ND)} (h : AppD nds rule (k : Nat) o) (ha : At nds k i s) (hr : RuleT rule s s') (hl : (putD nds k i s').length ≤ 9) : o = some (putD nds k i s') :=
  h.one (show AppD nds rule (k : Nat) (some _) from ⟨k, i, s, s', rfl, ha, hr, rfl, hl⟩)
theorem AppD.big {nds : List ND} {rule : Int} {k i : Nat} {s s' : Tr} {o : Option (List ND)} (h : AppD nds rule (k : Nat) o) (ha : At nds k i s) (hr : RuleT rule s s') (hl : 9 < (putD nds k i s').length) : o = none :=
  h.one (show AppD nds rule (k : Nat) none from fun r hy => by
    obtain ⟨k', i', u, u', hk, ha', hr', rfl, hl'⟩ := hy
    have e : k = k' := by omega
    subst e
    obtain ⟨rfl, rfl⟩ := ha.one ha'
    rw [hr.one hr'] at hl
    omega)

/-- A part in the place of another: what the trees on the stack are then. -/
inductive Rep (R : Tr → Tr → Prop) : List Tr → List Tr → Prop
  | here {a b : Tr} {l : List Tr} (h : R a b) : Rep R (a :: l) (b :: l)
  | there {a : Tr} {l m : List Tr} (h : Rep R l m) : Rep R (a :: l) (a :: m)
structure Cong (R : Tr → Tr → Prop) : Prop where
  dual : ∀ a b, R a b → R (.dual a) (.dual b)
  left : ∀ op a b c, R a b → R (.bin op a c) (.bin op b c)
  right : ∀ op a b c, R a b → R (.bin op c a) (.bin op c b)
theorem Stk.rep {R : Tr → Tr → Prop} (hR : Cong R) {l l' : List ND} {st st' : List Tr} (h : Stk l st) (h' : Stk l' st') (hr : Rep R st st') (suf : List ND) : ∀ {u : List Tr}, Stk (l ++ suf) u → ∃ u', Stk (l' ++ suf) u' ∧ Rep R u u' := by
  refine snoc_ind (P := fun suf => ∀ {u : List Tr}, Stk (l ++ suf) u → ∃ u', Stk (l' ++ suf) u' ∧ Rep R u u') (fun {u} hu => ?_) (fun m nd ih {u} hu => ?_) suf
  · rw [List.append_nil] at hu
    rw [List.append_nil]
    obtain rfl := hu.one h
    exact ⟨st', h', hr⟩
  · rw [← List.append_assoc] at hu
    rcases hu.inv with ⟨h0, hw, s, hs, rfl⟩ | ⟨h3, hw, a, s, hs, rfl⟩ | ⟨hb, hw, a, b, s, hs, rfl⟩
    · obtain ⟨u', hu', hr'⟩ := ih hs
      exact ⟨_, by rw [← List.append_assoc]; exact .base hu' h0 hw, .there hr'⟩
    · obtain ⟨u', hu', hr'⟩ := ih hs
      cases hr' with
      | here h => exact ⟨_, by rw [← List.append_assoc]; exact .dual hu' h3 hw, .here (hR.dual _ _ h)⟩
      | there h => exact ⟨_, by rw [← List.append_assoc]; exact .dual hu' h3 hw, .there h⟩
    · obtain ⟨u', hu', hr'⟩ := ih hs
      cases hr' with
      | here h => exact ⟨_, by rw [← List.append_assoc]; exact .bin hu' hb hw, .here (hR.right _ _ _ _ h)⟩
      | there h =>
        cases h with
        | here h => exact ⟨_, by rw [← List.append_assoc]; exact .bin hu' hb hw, .here (hR.left _ _ _ _ h)⟩
        | there h => exact ⟨_, by rw [← List.append_assoc]; exact .bin hu' hb hw, .there h⟩
theorem At.put {R : Tr → Tr → Prop} (hR : Cong R) {nds : List ND} {k i : Nat} {s s' : Tr} (h : At nds k i s) (ho : OkT s') (hr : R s s') {t : Tr} (ht : Post nds t) : ∃ t', Post (putD nds k i s') t' ∧ R t t' := by
  have h1 := post_stk.1 ht
  rw [h.split] at h1
  have h2 : Stk (nds.take i ++ (flatT s ++ nds.drop (k + 1))) [t] := by rwa [List.append_assoc] at h1
  obtain ⟨st, hst⟩ := h2.pre
  obtain ⟨u', hu, hru⟩ := Stk.rep hR ((flat_post h.ok).stk hst) ((flat_post ho).stk hst) (.here hr) _ h1
  cases hru with
  | here h => exact ⟨_, post_stk.2 hu, h⟩
  | there h => cases h

/-- Both trees compare alike. -/
def Same (a b : Tr) : Prop := ∀ f : WD → Int, (∀ d, Code (f d)) → cmpT f a = cmpT f b
theorem revC_revC {c : Int} (h : Code c) : revC (revC c) = c := by
  rcases h with rfl | rfl | rfl | rfl <;> decide
theorem opC_same {op c : Int} (h : Code c) : opC op c c = c := by
  unfold opC
  rcases h with rfl | rfl | rfl | rfl <;> simp
theorem opC_turn {op a b : Int} (ha : Code a) (hb : Code b) : opC op (revC a) (revC b) = revC (opC op a b) := by
  unfold opC
  rcases ha with rfl | rfl | rfl | rfl <;> rcases hb with rfl | rfl | rfl | rfl <;> (split; · decide) <;> (split; · decide) <;> decide
theorem opC_comm {op a b : Int} (hop : op ≠ 2) (ha : Code a) (hb : Code b) : opC op a b = opC op b a := by
  unfold opC
  rw [if_neg hop, if_neg hop]
  rcases ha with rfl | rfl | rfl | rfl <;> rcases hb with rfl | rfl | rfl | rfl <;> (split <;> decide)
theorem RuleT.same {r : Int} {s a : Tr} (h : RuleT r s a) : Same s a := fun f hf => by
  cases h with
  | dd => exact revC_revC (cmpT_code hf _)
  | push op a b => exact (opC_turn (cmpT_code hf _) (cmpT_code hf _)).symm
  | idem op a => exact opC_same (cmpT_code hf _)
  | comm op a b h => exact opC_comm h (cmpT_code hf _) (cmpT_code hf _)
theorem same_cong : Cong Same :=
  ⟨fun a b h f hf => by unfold cmpT; rw [h f hf], fun op a b c h f hf => by unfold cmpT; rw [h f hf], fun op a b c h f hf => by unfold cmpT; rw [h f hf]⟩
/-- How much is left to do. -/
def binN : Tr → Nat
  | .base _ => 0
  | .dual a => binN a
  | .bin _ a b => binN a + binN b + 1
def dualN : Tr → Nat
  | .base _ => 0
  | .dual a => dualN a + 1
  | .bin _ a b => dualN a + dualN b
def todo : Tr → Nat
  | .base _ => 0
  | .dual a => todo a + 2 * binN a + 1
  | .bin _ a b => todo a + todo b + 1
def Less (a b : Tr) : Prop := todo b < todo a ∧ binN b ≤ binN a
theorem RuleT.less {r : Int} {s a : Tr} (h : RuleT r s a) (h3 : r ≤ 3) : Less s a := by
  cases h with
  | dd => exact ⟨by simp only [todo, binN]; omega, by simp only [binN]; omega⟩
  | push op a b => exact ⟨by simp only [todo, binN]; omega, by simp only [binN]; omega⟩
  | idem op a => exact ⟨by simp only [todo]; omega, by simp only [binN]; omega⟩
  | comm op a b h => omega
theorem less_cong : Cong Less :=
  ⟨fun a b h => ⟨by simp only [todo]; have := h.1; have := h.2; omega, h.2⟩, fun op a b c h => ⟨by simp only [todo]; have := h.1; omega, by simp only [binN]; have := h.2; omega⟩, fun op a b c h => ⟨by simp only [todo]; have := h.1; omega, by simp only [binN]; have := h.2; omega⟩⟩
theorem flatT_len : ∀ t : Tr, (flatT t).length = dualN t + 2 * binN t + 1
  | .base d => rfl
  | .dual a => by simp only [flatT, dualN, binN, List.length_append, flatT_len a, List.length_cons, List.length_nil]; omega
  | .bin op a b => by simp only [flatT, dualN, binN, List.length_append, flatT_len a, flatT_len b, List.length_cons, List.length_nil]; omega
theorem todo_le : ∀ t : Tr, todo t ≤ 2 * (dualN t * binN t) + dualN t + binN t
  | .base d => Nat.zero_le _
  | .dual a => by
    have h := todo_le a
    simp only [todo, dualN, binN, Nat.add_mul, Nat.one_mul]
    omega
  | .bin op a b => by
    have h := todo_le a
    have h' := todo_le b
    simp only [todo, dualN, binN, Nat.add_mul, Nat.mul_add, Nat.mul_one]
    omega
theorem todo_small {t : Tr} (h : (flatT t).length ≤ 9) : todo t ≤ 22 := by
  have h1 := todo_le t
  rw [flatT_len] at h
  have hb : binN t ≤ 4 := by omega
  have hc : binN t = 0 ∨ binN t = 1 ∨ binN t = 2 ∨ binN t = 3 ∨ binN t = 4 := by omega
  rcases hc with e | e | e | e | e <;> rw [e] at h1 h <;> omega
theorem AppY.tree {nds r : List ND} {rule pos : Int} (h : AppY nds rule pos r) {t : Tr} (ht : Post nds t) : IsE nds ∧ IsE r ∧ ∃ t', Post r t' ∧ Same t t' ∧ (rule ≤ 3 → Less t t') := by
  obtain ⟨k, i, s, s', hk, ha, hr, rfl, hl⟩ := h
  have ho := hr.ok ha.ok
  obtain ⟨t', h1, h2⟩ := ha.put same_cong ho hr.same ht
  refine ⟨ha.e, ⟨hl, t', h1⟩, t', h1, h2, fun h3 => ?_⟩
  obtain ⟨t2, h3, h4⟩ := ha.put less_cong ho (hr.less h3) ht
  rw [h1.one h3]
  exact h4

/-- No rule but the exchange is possible. -/
def Normal (nds : List ND) : Prop := ∀ rule pos r, rule ≤ 3 → ¬ AppY nds rule pos r
/-- The first step: at the first node at which one is possible, the first rule. -/
def First (nds r : List ND) : Prop := ∃ rule pos, rule ≤ 3 ∧ AppY nds rule pos r ∧ ∀ rule' pos' r', rule' ≤ 3 → (pos' < pos ∨ pos' = pos ∧ rule' < rule) → ¬ AppY nds rule' pos' r'
theorem First.one {nds r r' : List ND} (h : First nds r) (h' : First nds r') : r = r' := by
  obtain ⟨a, p, h1, h2, h3⟩ := h
  obtain ⟨a', p', h1', h2', h3'⟩ := h'
  have e : p = p' ∧ a = a' := by
    have n1 : ¬ (p' < p ∨ p' = p ∧ a' < a) := fun g => h3 _ _ _ h1' g h2'
    have n2 : ¬ (p < p' ∨ p = p' ∧ a < a') := fun g => h3' _ _ _ h1 g h2
    omega
  obtain ⟨rfl, rfl⟩ := e
  exact h2.one h2'
theorem AppY.pos {nds r : List ND} {rule pos : Int} (h : AppY nds rule pos r) : 0 ≤ pos ∧ pos < nds.length ∧ 1 ≤ rule ∧ rule ≤ 4 ∧ IsE nds := by
  obtain ⟨k, i, s, s', hk, ha, hr, rfl, hl⟩ := h
  have := ha.lt
  have := hr.num
  exact ⟨by omega, by omega, by omega, by omega, ha.e⟩
theorem First.ex {nds : List ND} (h : ¬ Normal nds) : ∃ r, First nds r := by
  have key : ∀ (n : Nat) (rule pos : Int) (r : List ND), rule ≤ 3 → AppY nds rule pos r → (4 * pos + rule).toNat = n → ∃ r, First nds r := by
    intro n
    induction n using Nat.strongRecOn with
    | _ n ih =>
      intro rule pos r h3 hy hn
      by_cases g : ∃ rule' pos' r', rule' ≤ 3 ∧ (pos' < pos ∨ pos' = pos ∧ rule' < rule) ∧ AppY nds rule' pos' r'
      · obtain ⟨rule', pos', r', g1, g2, g3⟩ := g
        have p1 := hy.pos
        have p2 := g3.pos
        exact ih (4 * pos' + rule').toNat (by omega) rule' pos' r' g1 g3 rfl
      · exact ⟨r, rule, pos, h3, hy, fun rule' pos' r' g1 g2 g3 => g ⟨rule', pos', r', g1, g2, g3⟩⟩
  by_cases g : ∃ rule pos r, rule ≤ 3 ∧ AppY nds rule pos r
  · obtain ⟨rule, pos, r, h3, hy⟩ := g
    exact key _ rule pos r h3 hy rfl
  · exact absurd (fun rule pos r h3 hy => g ⟨rule, pos, r, h3, hy⟩) h
/-- What is reached by at most m steps. -/
inductive NormR : Nat → List ND → List ND → Prop
  | stop {m : Nat} {nds : List ND} (h : Normal nds) : NormR m nds nds
  | zero {nds : List ND} : NormR 0 nds nds
  | step {m : Nat} {nds r out : List ND} (h : First nds r) (hr : NormR m r out) : NormR (m + 1) nds out
theorem NormR.ex : ∀ (m : Nat) (nds : List ND), ∃ out, NormR m nds out
  | 0, nds => ⟨nds, .zero⟩
  | m + 1, nds => by
    by_cases h : Normal nds
    · exact ⟨nds, .stop h⟩
    · obtain ⟨r, hr⟩ := First.ex h
      obtain ⟨out, ho⟩ := NormR.ex m r
      exact ⟨out, .step hr ho⟩
theorem NormR.now {m : Nat} {nds out : List ND} (h : NormR m nds out) (hn : Normal nds) : out = nds := by
  cases h with
  | stop => rfl
  | zero => rfl
  | step h hr =>
    obtain ⟨a, p, h1, h2, _⟩ := h
    exact absurd h2 (hn _ _ _ h1)
theorem NormR.none {nds out : List ND} (h : NormR 0 nds out) : out = nds := by
  cases h with
  | stop => rfl
  | zero => rfl
theorem NormR.next {m : Nat} {nds r out : List ND} (h : NormR (m + 1) nds out) (hf : First nds r) : NormR m r out := by
  cases h with
  | stop h =>
    obtain ⟨a, p, h1, h2, _⟩ := hf
    exact absurd h2 (h _ _ _ h1)
  | step h hr =>
    rw [hf.one h]
    exact hr
theorem NormR.tree {m : Nat} {nds out : List ND} (h : NormR m nds out) : ∀ {t : Tr}, IsE nds → Post nds t → IsE out ∧ ∃ t', Post out t' ∧ Same t t' ∧ (todo t ≤ m → Normal out) := by
  induction h with
  | stop h => intro t he ht; exact ⟨he, t, ht, fun _ _ => rfl, fun _ => h⟩
  | @zero nds =>
    intro t he ht
    refine ⟨he, t, ht, fun _ _ => rfl, fun h0 rule pos r h3 hy => ?_⟩
    obtain ⟨_, _, t', _, _, hl⟩ := hy.tree ht
    have := (hl h3).1
    omega
  | step h hr ih =>
    intro t he ht
    obtain ⟨a, p, h1, h2, _⟩ := h
    obtain ⟨_, he', t', ht', hs, hl⟩ := h2.tree ht
    obtain ⟨g1, t2, g2, g3, g4⟩ := ih he' ht'
    exact ⟨g1, t2, g2, fun f hf => (hs f hf).trans (g3 f hf), fun hm => g4 (by have := (hl h1).1; omega)⟩
theorem NormR.out {m : Nat} {nds out : List ND} (h : NormR m nds out) (hn : ¬ IsE nds) : out = nds := h.now fun rule pos r h3 hy => hn hy.pos.2.2.2.2
/-- Sixty steps are enough. -/
theorem NormR.normal {nds out : List ND} (h : NormR 60 nds out) : Normal out := by
  by_cases he : IsE nds
  · obtain ⟨h9, t, ht⟩ := he
    obtain ⟨_, _, _, _, g⟩ := h.tree ⟨h9, t, ht⟩ ht
    have h9' : (flatT t).length ≤ 9 := by rw [← ht.flat.1]; exact h9
    exact g (by have := todo_small h9'; omega)
  · rw [h.out he]
    exact fun rule pos r h3 hy => he hy.pos.2.2.2.2

/-- A rewriting: the rule, the node, and what comes of it. -/
structure RW where
  rule : Int
  pos : Int
  after : List ND
/-- All that is possible at the nodes before k, and at node k by the first j rules. -/
inductive RewL (nds : List ND) : Nat → Nat → List RW → Prop
  | zero : RewL nds 0 0 []
  | skip {k j : Nat} {out : List RW} (h : RewL nds k j out) (hj : j < 4) (hd : AppD nds ((j : Int) + 1) (k : Nat) none) : RewL nds k (j + 1) out
  | take {k j : Nat} {out : List RW} {r : List ND} (h : RewL nds k j out) (hj : j < 4) (hd : AppD nds ((j : Int) + 1) (k : Nat) (some r)) : RewL nds k (j + 1) (out ++ [⟨(j : Int) + 1, (k : Nat), r⟩])
  | next {k : Nat} {out : List RW} (h : RewL nds k 4 out) : RewL nds (k + 1) 0 out
theorem RewL.more {nds : List ND} {k j : Nat} {out : List RW} {o : Option (List ND)} (h : RewL nds k j out) (hj : j < 4) (hd : AppD nds ((j : Int) + 1) (k : Nat) o) : ∃ out', RewL nds k (j + 1) out' := by
  cases o with
  | none => exact ⟨_, .skip h hj hd⟩
  | some r => exact ⟨_, .take h hj hd⟩
theorem RewL.ex (nds : List ND) : ∀ k : Nat, ∃ out, RewL nds k 0 out
  | 0 => ⟨_, .zero⟩
  | k + 1 => by
    obtain ⟨o0, h0⟩ := RewL.ex nds k
    obtain ⟨p0, g0⟩ := AppD.ex nds ((0 : Nat) + 1) (k : Nat)
    obtain ⟨o1, h1⟩ := h0.more (by decide) g0
    obtain ⟨p1, g1⟩ := AppD.ex nds ((1 : Nat) + 1) (k : Nat)
    obtain ⟨o2, h2⟩ := h1.more (by decide) g1
    obtain ⟨p2, g2⟩ := AppD.ex nds ((2 : Nat) + 1) (k : Nat)
    obtain ⟨o3, h3⟩ := h2.more (by decide) g2
    obtain ⟨p3, g3⟩ := AppD.ex nds ((3 : Nat) + 1) (k : Nat)
    obtain ⟨o4, h4⟩ := h3.more (by decide) g3
    exact ⟨o4, .next h4⟩
theorem RewL.one {nds : List ND} {k j : Nat} {out : List RW} (h : RewL nds k j out) : ∀ {out' : List RW}, RewL nds k j out' → out = out' := by
  induction h with
  | zero => intro out' h'; cases h'; rfl
  | skip h hj hd ih =>
    intro out' h'
    cases h' with
    | skip h' => exact ih h'
    | take h' hj' hd' => exact absurd hd' (hd _)
  | take h hj hd ih =>
    intro out' h'
    cases h' with
    | skip h' hj' hd' => exact absurd hd (hd' _)
    | take h' hj' hd' =>
      have e : some _ = some _ := AppD.one hd hd'
      injection e with e
      rw [ih h', e]
  | next h ih =>
    intro out' h'
    cases h' with
    | next h' => exact ih h'
/-- What the list holds: each is possible; nothing is left out. -/
theorem RewL.mem {nds : List ND} {k j : Nat} {out : List RW} (h : RewL nds k j out) : (∀ x ∈ out, AppY nds x.rule x.pos x.after) ∧ ∀ rule pos r, AppY nds rule pos r → (pos < (k : Int) ∨ pos = (k : Int) ∧ rule ≤ (j : Int)) → ⟨rule, pos, r⟩ ∈ out := by
  induction h with
  | zero => exact ⟨by simp, fun rule pos r hy hp => by have := hy.pos; omega⟩
  | @skip k j out h hj hd ih =>
    refine ⟨ih.1, fun rule pos r hy hp => ?_⟩
    by_cases e : pos = (k : Int) ∧ rule = (j : Int) + 1
    · obtain ⟨rfl, rfl⟩ := e
      exact absurd hy (hd r)
    · exact ih.2 rule pos r hy (by omega)
  | @take k j out r h hj hd ih =>
    refine ⟨fun x hx => ?_, fun rule pos r' hy hp => ?_⟩
    · rcases List.mem_append.1 hx with hx | hx
      · exact ih.1 x hx
      · rw [List.mem_singleton.1 hx]; exact hd
    · by_cases e : pos = (k : Int) ∧ rule = (j : Int) + 1
      · obtain ⟨rfl, rfl⟩ := e
        rw [AppY.one hy hd]
        exact List.mem_append_right _ (List.mem_singleton.2 rfl)
      · exact List.mem_append_left _ (ih.2 rule pos r' hy (by omega))
  | @next k out h ih => exact ⟨ih.1, fun rule pos r hy hp => ih.2 rule pos r hy (by have := hy.pos; omega)⟩
/-- The list goes up: by the node, then by the rule. -/
def Up (a b : RW) : Prop := a.pos < b.pos ∨ a.pos = b.pos ∧ a.rule < b.rule
theorem RewL.up {nds : List ND} {k j : Nat} {out : List RW} (h : RewL nds k j out) : out.Pairwise Up ∧ ∀ x ∈ out, x.pos < (k : Int) ∨ x.pos = (k : Int) ∧ x.rule ≤ (j : Int) := by
  induction h with
  | zero => exact ⟨.nil, by simp⟩
  | skip h hj hd ih => exact ⟨ih.1, fun x hx => by have := ih.2 x hx; omega⟩
  | take h hj hd ih =>
    refine ⟨List.pairwise_append.2 ⟨ih.1, List.pairwise_singleton _ _, fun a ha b hb => ?_⟩, fun x hx => ?_⟩
    · rw [List.mem_singleton.1 hb]
      have := ih.2 a ha
      show _ < _ ∨ _ = _ ∧ _ < _
      dsimp only
      omega
    · rcases List.mem_append.1 hx with hx | hx
      · have := ih.2 x hx; omega
      · rw [List.mem_singleton.1 hx]; dsimp only; omega
  | next h ih => exact ⟨ih.1, fun x hx => by have := ih.2 x hx; omega⟩
/-- The first in the list that is not an exchange is the first step; if there is none, the expression is normal. -/
theorem RewL.first {nds : List ND} {out : List RW} (h : RewL nds nds.length 0 out) {i : Nat} {x : RW} (hx : out[i]? = some x) (hr : x.rule ≠ 4) (hb : ∀ (j : Nat) (y : RW), j < i → out[j]? = some y → y.rule = 4) : First nds x.after := by
  have hm := h.mem
  have hy := hm.1 x (List.mem_of_getElem? hx)
  have hp := hy.pos
  refine ⟨x.rule, x.pos, by omega, hy, fun rule' pos' r' h3 hlt hy' => ?_⟩
  obtain ⟨j, hj, e⟩ := List.getElem_of_mem (hm.2 rule' pos' r' hy' (.inl hy'.pos.2.1))
  have hj' : out[j]? = some ⟨rule', pos', r'⟩ := by rw [List.getElem?_eq_getElem hj, e]
  have hi : i < out.length := by
    rcases Nat.lt_or_ge i out.length with g | g
    · exact g
    · rw [List.getElem?_eq_none g] at hx; cases hx
  have hx' : out[i] = x := by
    rw [List.getElem?_eq_getElem hi] at hx
    exact Option.some.inj hx
  rcases Nat.lt_trichotomy j i with g | g | g
  · have := hb j _ g hj'
    dsimp only at this
    omega
  · subst g
    rw [hx] at hj'
    have := Option.some.inj hj'
    rw [this] at hlt
    dsimp only at hlt
    omega
  · have := List.pairwise_iff_getElem.1 h.up.1 i j hi hj g
    rw [hx', e] at this
    unfold Up at this
    dsimp only at this
    omega
theorem RewL.normal {nds : List ND} {out : List RW} (h : RewL nds nds.length 0 out) (hb : ∀ (j : Nat) (y : RW), out[j]? = some y → y.rule = 4) : Normal nds := fun rule pos r h3 hy => by
  obtain ⟨j, hj, e⟩ := List.getElem_of_mem (h.mem.2 rule pos r hy (.inl hy.pos.2.1))
  have := hb j ⟨rule, pos, r⟩ (by rw [List.getElem?_eq_getElem hj, e])
  dsimp only at this
  omega
theorem RewL.nil {nds : List ND} (h : ¬ IsE nds) {k j : Nat} {out : List RW} (hl : RewL nds k j out) : out = [] := by
  cases out with
  | nil => rfl
  | cons x r => exact absurd ((hl.mem.1 x (List.mem_cons_self ..)).pos.2.2.2.2) h
end Go.Proofs.YtaijajajpnekbaaGreat.num
namespace Go.Proofs.YtaijajajpnekbaaGreat.num
set_option maxRecDepth 20000
set_option linter.unusedVariables false

/-- The nodes of the part that ends at a node. -/
def SubD (nds : List ND) (pos : Int) (out : List ND) : Prop := (∃ (k i : Nat) (s : Tr), pos = (k : Nat) ∧ At nds k i s ∧ out = flatT s) ∨ (¬ (IsE nds ∧ 0 ≤ pos ∧ pos < nds.length) ∧ out = [])
theorem SubD.ex (nds : List ND) (pos : Int) : ∃ out, SubD nds pos out := by
  by_cases h : IsE nds ∧ 0 ≤ pos ∧ pos < nds.length
  · obtain ⟨i, s, ha⟩ := At.ex (k := pos.toNat) h.1 (by omega)
    exact ⟨_, .inl ⟨_, i, s, by omega, ha, rfl⟩⟩
  · exact ⟨[], .inr ⟨h, rfl⟩⟩
theorem At.len9 {nds : List ND} {k i : Nat} {s : Tr} (h : At nds k i s) : (flatT s).length ≤ 9 := by
  have h1 := h.len
  have h2 := h.lt
  have h3 := h.e.1
  omega
theorem SubD.one {nds : List ND} {pos : Int} {out : List ND} (h : SubD nds pos out) {k i : Nat} {s : Tr} (hp : pos = (k : Nat)) (ha : At nds k i s) : out = flatT s := by
  rcases h with ⟨k', i', s', hp', ha', rfl⟩ | ⟨hn, _⟩
  · have e : k = k' := by omega
    subst e
    rw [(ha.one ha').2]
  · exact absurd ⟨ha.e, by omega, by have := ha.lt; omega⟩ hn
theorem SubD.none {nds : List ND} {pos : Int} {out : List ND} (h : SubD nds pos out) (hn : ¬ (IsE nds ∧ 0 ≤ pos ∧ pos < nds.length)) : out = [] := by
  rcases h with ⟨k', i', s', hp', ha', rfl⟩ | ⟨_, h⟩
  · exact absurd ⟨ha'.e, by omega, by have := ha'.lt; omega⟩ hn
  · exact h
theorem At.right {nds : List ND} {k i : Nat} {op : Int} {a b : Tr} (h : At nds k i (.bin op a b)) : 1 ≤ k ∧ At nds (k - 1) (i + (flatT a).length) b := by
  have h1 := h.take
  have h2 := h.lt
  have h3 := h.len
  have hb := flat_ne b
  simp only [flatT, List.length_append, List.length_singleton] at h3
  have hk : 1 ≤ k := by omega
  have h4 : nds.take k = nds.take i ++ flatT a ++ flatT b := by
    have h5 := congrArg (List.take k) h1
    rw [List.take_take, Nat.min_eq_left (by omega)] at h5
    rw [h5, flatT, ← List.append_assoc, ← List.append_assoc, List.take_append_of_le_length (by simp only [List.length_append, List.length_take]; omega), List.take_of_length_le (by simp only [List.length_append, List.length_take]; omega)]
  refine ⟨hk, h.e, by omega, ?_⟩
  rw [show k - 1 + 1 = k by omega, h4, List.drop_left' (by simp only [List.length_append, List.length_take]; omega)]
  exact flat_post h.ok.2.2
theorem At.parts {nds : List ND} {k i : Nat} {op : Int} {a b : Tr} (h : At nds k i (.bin op a b)) : (nds.take (i + (flatT a).length)).drop i = flatT a ∧ (nds.take k).drop (i + (flatT a).length) = flatT b := by
  have h1 := h.take
  have h2 := h.lt
  have h3 := h.len
  have hb := flat_ne b
  simp only [flatT, List.length_append, List.length_singleton] at h3
  have h4 : nds.take k = nds.take i ++ flatT a ++ flatT b := by
    have h5 := congrArg (List.take k) h1
    rw [List.take_take, Nat.min_eq_left (by omega)] at h5
    rw [h5, flatT, ← List.append_assoc, ← List.append_assoc, List.take_append_of_le_length (by simp only [List.length_append, List.length_take]; omega), List.take_of_length_le (by simp only [List.length_append, List.length_take]; omega)]
  have h6 : nds.take (i + (flatT a).length) = nds.take i ++ flatT a := by
    have h5 := congrArg (List.take (i + (flatT a).length)) h4
    rw [List.take_take, Nat.min_eq_left (by omega)] at h5
    rw [h5, List.take_append_of_le_length (by simp only [List.length_append, List.length_take]; omega), List.take_of_length_le (by simp only [List.length_append, List.length_take]; omega)]
  rw [h6, h4]
  exact ⟨List.drop_left' (by rw [List.length_take]; omega), List.drop_left' (by simp only [List.length_append, List.length_take]; omega)⟩
theorem At.inner {nds : List ND} {k i : Nat} {a : Tr} (h : At nds k i (.dual a)) : 1 ≤ k ∧ At nds (k - 1) i a := by
  have h1 := h.take
  have h2 := h.lt
  have h3 := h.len
  have hb := flat_ne a
  simp only [flatT, List.length_append, List.length_singleton] at h3
  have hk : 1 ≤ k := by omega
  have h4 : nds.take k = nds.take i ++ flatT a := by
    have h5 := congrArg (List.take k) h1
    rw [List.take_take, Nat.min_eq_left (by omega)] at h5
    rw [h5, flatT, ← List.append_assoc, List.take_append_of_le_length (by simp only [List.length_append, List.length_take]; omega), List.take_of_length_le (by simp only [List.length_append, List.length_take]; omega)]
  refine ⟨hk, h.e, by omega, ?_⟩
  rw [show k - 1 + 1 = k by omega, h4, List.drop_left' (by rw [List.length_take]; omega)]
  exact flat_post h.ok
/-- The operator of a tree's last node. -/
def Tr.op : Tr → Int
  | .base _ => 0
  | .dual _ => 3
  | .bin op _ _ => op
theorem At.opAt {nds : List ND} {k i : Nat} {s : Tr} (h : At nds k i s) : ∃ nd, nds[k]? = some nd ∧ nd.op = s.op := by
  have h2 := h.lt
  have h3 := h.len
  have h4 : nds[k]? = (nds.take i ++ flatT s)[k]? := by rw [← h.take, List.getElem?_take, if_pos (by omega)]
  have h5 : (nds.take i).length = i := by rw [List.length_take]; omega
  rw [h4, List.getElem?_append_right (by rw [h5]; have := h.le; omega), h5]
  cases s with
  | base d =>
    simp only [flatT, List.length_singleton] at h3 ⊢
    exact ⟨_, by rw [show k - i = 0 by omega]; rfl, rfl⟩
  | dual a =>
    simp only [flatT, List.length_append, List.length_singleton] at h3 ⊢
    exact ⟨_, by rw [List.getElem?_append_right (by omega), show k - i - (flatT a).length = 0 by omega]; rfl, rfl⟩
  | bin op a b =>
    simp only [flatT, List.length_append, List.length_singleton] at h3 ⊢
    exact ⟨_, by rw [List.getElem?_append_right (by rw [List.length_append]; omega), show k - i - (flatT a ++ flatT b).length = 0 by rw [List.length_append]; omega]; rfl, rfl⟩
end Go.Proofs.YtaijajajpnekbaaGreat.num
namespace Go.Proofs.YtaijajajpnekbaaGreat.num
set_option maxRecDepth 20000
open Go.RowKit Go.Maps
set_option linter.unusedVariables false
set_option linter.unusedSimpArgs false

/-- A piece of a slice of nodes. -/
theorem Nodes.mid {w : World} {B b off n i j : Nat} {ns : List Nd} (h : Nodes w B (some ⟨b, off, none⟩) n ns) (hij : i ≤ j) (hj : j ≤ n) : Nodes w B (some ⟨b, off + i * 6, none⟩) (j - i) ((ns.take j).drop i) := by
  refine ⟨⟨by rw [List.length_drop, List.length_take, h.r.len]; omega, fun k x hk => ?_⟩, fun x hx => h.x x (List.mem_of_mem_take (List.mem_of_mem_drop hx))⟩
  have hlt : i + k < j := by
    rcases Nat.lt_or_ge (i + k) j with g | g
    · exact g
    · rw [List.getElem?_eq_none (by rw [List.length_drop, List.length_take]; omega)] at hk; cases hk
  rw [List.getElem?_drop, List.getElem?_take, if_pos hlt] at hk
  obtain ⟨b', off', e, h1, h2⟩ := h.r.at' (i + k) x hk
  injection e with e
  injection e with e1 e2
  subst e1 e2
  refine ⟨b, off + i * 6, rfl, h1, fun j v hv => ?_⟩
  have h3 := h2 j v hv
  rwa [show off + (i + k) * 6 + j = off + i * 6 + k * 6 + j by omega] at h3
theorem datN_take (ns : List Nd) (k : Nat) : datN (ns.take k) = (datN ns).take k := by unfold datN; rw [List.map_take]
theorem datN_drop (ns : List Nd) (k : Nat) : datN (ns.drop k) = (datN ns).drop k := by unfold datN; rw [List.map_drop]
theorem datN_length (ns : List Nd) : (datN ns).length = ns.length := by unfold datN; rw [List.length_map]
theorem datN_get {ns : List Nd} {k : Nat} {x : Nd} (h : ns[k]? = some x) : (datN ns)[k]? = some x.dat := by unfold datN; rw [List.getElem?_map, h]; rfl

set_option maxRecDepth 20000 in
set_option maxHeartbeats 1600000 in
theorem sStart (w : World) (B : Nat) (A : Option Addr) (n c : Nat) (ns : List Nd) (hi : Nodes w B A n ns) (hn : n ≤ 1048576) (k i : Nat) (s : Tr) (ha : At (datN ns) k i s) :
    Calls Tryz.prog 41 #[.slice A n c, .int .i64 (k : Int)] w fun e w' => e = .returned (.int .i64 (i : Int)) ∧ w = w' := by
  have HX := Lib.hid hi
  have hkn : k < n := by have := ha.lt; rwa [datN_length, hi.len] at this
  have HLe : Hid ((datN ns).length = n) := Lib.hid (by rw [datN_length, hi.len])
  have HB0 := Lib.hid ha.back
  have HIk := Lib.hid ha.le
  clear hi ha
  go_enter Tryz.func41, Tryz.ntmps41
  go_wp2
  go_loopw [5, 6] (fun v j wr => ∃ m d : Nat, i ≤ m ∧ m ≤ k ∧ j = .int .i64 m ∧ v = .int .i64 d ∧ Back (datN ns) i (m + 1) d ∧ w = wr) (fun _ j _ => (intOf j).toNat)
  case atStart => exact ⟨k, 1, HIk.out, Nat.le_refl _, rfl, rfl, HB0.out, rfl⟩
  case round =>
    obtain ⟨m, d, him, hmk, rfl, rfl, hb, rfl⟩ := hrel
    obtain ⟨b, off, ⟨op, t⟩, rfl, hbl, hat, hwf, g0, g1, g2, g3, g4, g5⟩ := HX.out.at m (by omega)
    dsimp only at g0 g1 g2 g3 g4 g5
    have hd := hb.le
    obtain ⟨hd1, hst⟩ := hb.step him (datN_get hat)
    have HZ : Hid (∀ d', Back (datN ns) i m d' → (d' = 0 ↔ m = i)) := Lib.hid fun d' h => h.zero him (by rw [HLe.out]; omega)
    have hw1 : IntKind.i64.wrap ((d : Int) - 1) = (d : Int) - 1 := IntWalk.i64_in _ ⟨by omega, by omega⟩
    have hw2 : IntKind.i64.wrap ((d : Int) - 1 + 1) = (d : Int) - 1 + 1 := IntWalk.i64_in _ ⟨by omega, by omega⟩
    have hw3 : IntKind.i64.wrap ((d : Int) - 1 + 2) = (d : Int) - 1 + 2 := IntWalk.i64_in _ ⟨by omega, by omega⟩
    have hw4 : IntKind.i64.wrap ((m : Int) - 1) = (m : Int) - 1 := IntWalk.i64_in _ ⟨by omega, by omega⟩
    have hm0 : ¬ ((m : Int) < 0) := by omega
    clear hb hat hwf g1 g2 g3 g4 g5
    rcases hst with ⟨h0, hs⟩ | ⟨h3, hs⟩ | ⟨hbn, hs⟩
    · dsimp only [Nd.dat] at h0
      subst h0
      by_cases e : m = i
      · have e0 := (HZ.out _ hs).2 e
        obtain rfl : d = 1 := by omega
        subst e
        clear hs
        go_wp2
        go_ret
        exact ⟨rfl, rfl⟩
      · have e0 : ¬ (d - 1 = 0) := fun h => e ((HZ.out _ hs).1 h)
        have HS := Lib.hid hs
        have hne : ((d : Int) - 1 == 0) = false := by simp; omega
        clear hs
        go_wp2
        go_roundw
        case rel => exact ⟨m - 1, d - 1, by omega, by omega, by go_num, by go_num, by rw [show m - 1 + 1 = m by omega]; exact HS.out, by first | rfl | trivial⟩
        case measure => simp [intOf]; omega
    · dsimp only [Nd.dat] at h3
      subst h3
      have e : m ≠ i := fun e => by have := (HZ.out _ hs).2 e; omega
      have HS := Lib.hid hs
      have hne : ((d : Int) - 1 + 1 == 0) = false := by simp; omega
      clear hs
      go_wp2
      go_roundw
      case rel => exact ⟨m - 1, d, by omega, by omega, by go_num, by go_num, by rw [show m - 1 + 1 = m by omega]; exact HS.out, by first | rfl | trivial⟩
      case measure => simp [intOf]; omega
    · have hbn' : Bin op := hbn
      have f0 : (op == 0) = false := by have := (bin_ne hbn').1; simpa using this
      have f3 : (op == 3) = false := by have := (bin_ne hbn').2; simpa using this
      have e : m ≠ i := fun e => by have := (HZ.out _ hs).2 e; omega
      have HS := Lib.hid hs
      have hne : ((d : Int) - 1 + 2 == 0) = false := by simp; omega
      clear hs hbn hbn'
      go_wp2
      go_roundw
      case rel => exact ⟨m - 1, d + 1, by omega, by omega, by go_num, by go_num, by rw [show m - 1 + 1 = m by omega]; exact HS.out, by first | rfl | trivial⟩
      case measure => simp [intOf]; omega
end Go.Proofs.YtaijajajpnekbaaGreat.num
namespace Go.Proofs.YtaijajajpnekbaaGreat.num
set_option maxRecDepth 20000
open Go.RowKit
set_option linter.unusedVariables false

/-- A list of nodes with a sign whether it is meant. -/
def RewOut (o : Option (List ND)) (w : World) (e : Ending) (w' : World) : Prop :=
  (∃ (A : Option Addr) (n c : Nat) (ns : List Nd), e = .returned (.tuple #[.slice A n c, .bool o.isSome]) ∧ ∀ r, o = some r → Nodes w' w'.heap.size A n ns ∧ datN ns = r ∧ ShortN ns ∧ n ≤ 9) ∧ Below w.heap.size w w'
end Go.Proofs.YtaijajajpnekbaaGreat.num
namespace Go.Proofs.YtaijajajpnekbaaGreat.num
set_option maxRecDepth 20000

/-- The number that bytes encode, most significant first. -/
def beVal (l : List UInt8) : Nat := l.foldl (fun n b => n * 256 + b.toNat) 0
theorem beVal_snoc (l : List UInt8) (b : UInt8) : beVal (l ++ [b]) = beVal l * 256 + b.toNat := by simp [beVal, List.foldl_append]
theorem beVal_cons (b : UInt8) (l : List UInt8) : beVal (b :: l) = b.toNat * 256 ^ l.length + beVal l := by
  have h : ∀ (l : List UInt8) (a : Nat), l.foldl (fun n b => n * 256 + b.toNat) a = a * 256 ^ l.length + beVal l := by
    intro l
    induction l with
    | nil => intro a; simp [beVal]
    | cons c l ih =>
      intro a
      simp only [List.foldl_cons, List.length_cons, beVal]
      rw [ih, ih (0 * 256 + c.toNat), Nat.pow_succ]
      simp only [Nat.zero_mul, Nat.zero_add, Nat.add_mul, Nat.mul_assoc, Nat.mul_comm 256, Nat.add_assoc]
  simp only [beVal, List.foldl_cons]
  rw [h l]; simp [beVal]
theorem beVal_lt (l : List UInt8) : beVal l < 256 ^ l.length := by
  induction l with
  | nil => simp [beVal]
  | cons b l ih =>
    have hb := b.toNat_lt
    have h1 : b.toNat * 256 ^ l.length ≤ 255 * 256 ^ l.length := Nat.mul_le_mul_right _ (by omega)
    rw [beVal_cons, List.length_cons, Nat.pow_succ]
    omega
theorem take_snoc (s : ByteArray) (k : Nat) (h : k < s.size) : s.data.toList.take (k + 1) = s.data.toList.take k ++ [s[k]] := by
  rw [List.take_succ_eq_append_getElem (by simpa using h)]; rfl
theorem pow_le (k : Nat) (h : k ≤ 7) : 256 ^ k ≤ 72057594037927936 := by
  have : 256 ^ k ≤ 256 ^ 7 := Nat.pow_le_pow_right (by decide) h
  simpa using this
theorem pow_le6 (k : Nat) (h : k ≤ 6) : 256 ^ k ≤ 281474976710656 := by
  have : 256 ^ k ≤ 256 ^ 6 := Nat.pow_le_pow_right (by decide) h
  simpa using this
theorem beVal_take_lt6 (s : ByteArray) (k : Nat) (h : k ≤ 6) : beVal (s.data.toList.take k) < 281474976710656 := by
  have h1 := beVal_lt (s.data.toList.take k)
  have h2 : (s.data.toList.take k).length ≤ 6 := by have := List.length_take_le k s.data.toList; omega
  have h3 := pow_le6 _ h2
  omega
/-- Two numbers whose bits do not meet. -/
theorem or_add (a b : Nat) (hb : b < 256) : a * 256 ||| b = a * 256 + b := by
  have h := Nat.two_pow_add_eq_or_of_lt (i := 8) (b := b) (by simpa using hb) a
  rw [Nat.mul_comm a 256]
  simpa using h.symm
theorem beVal_take_lt (s : ByteArray) (k : Nat) (h : k ≤ 7) : beVal (s.data.toList.take k) < 72057594037927936 := by
  have h1 := beVal_lt (s.data.toList.take k)
  have h2 : (s.data.toList.take k).length ≤ 7 := by have := List.length_take_le k s.data.toList; omega
  have h3 := pow_le _ h2
  omega

/-- n as w bytes, most significant first. -/
def beEnc : Nat → Nat → List UInt8
  | 0, _ => []
  | k + 1, n => UInt8.ofNat (n / 256 ^ k) :: beEnc k n
theorem beEnc_length (k n : Nat) : (beEnc k n).length = k := by induction k with
  | zero => rfl
  | succ k ih => simp [beEnc, ih]
theorem beEnc_get (k n j : Nat) (h : j < k) : (beEnc k n)[j]? = some (UInt8.ofNat (n / 256 ^ (k - 1 - j))) := by
  induction k generalizing j with
  | zero => omega
  | succ k ih =>
    cases j with
    | zero => simp [beEnc]
    | succ j => simp only [beEnc, List.getElem?_cons_succ]; rw [ih j (by omega)]; congr 4; omega
theorem beVal_beEnc (k n : Nat) : beVal (beEnc k n) = n % 256 ^ k := by
  induction k with
  | zero => simp [beEnc, beVal, Nat.mod_one]
  | succ k ih =>
    simp only [beEnc]
    rw [beVal_cons, ih, beEnc_length, Nat.pow_succ, Nat.mod_mul]
    simp only [UInt8.toNat_ofNat']
    rw [Nat.mul_comm (256 ^ k)]
    have h2 : (2 : Nat) ^ 8 = 256 := by decide
    rw [h2]; omega

/-- A varint's byte with and without a successor. -/
def hib (m : Nat) : UInt8 := UInt8.ofNat (m % 128 + 128)
def lob (m : Nat) : UInt8 := UInt8.ofNat m
theorem hib_toNat (m : Nat) : (hib m).toNat = m % 128 + 128 := by simp [hib]; omega
theorem lob_toNat (m : Nat) (h : m < 128) : (lob m).toNat = m := by simp [lob]; omega
/-- A number as a varint: seven bits a byte, least significant first. -/
def vEnc (n : Nat) : List UInt8 := if n < 128 then [lob n] else hib n :: vEnc (n / 128)
  termination_by n
  decreasing_by omega
theorem vEnc_small (n : Nat) (h : n < 128) : vEnc n = [lob n] := by rw [vEnc, if_pos h]
theorem vEnc_big (n : Nat) (h : 128 ≤ n) : vEnc n = hib n :: vEnc (n / 128) := by rw [vEnc, if_neg (by omega)]
theorem vEnc_len (k n : Nat) (h : n < 128 ^ (k + 1)) : (vEnc n).length ≤ k + 1 := by
  induction k generalizing n with
  | zero => rw [vEnc_small n (by simpa using h)]; simp
  | succ k ih =>
    by_cases hn : n < 128
    · rw [vEnc_small n hn]; simp
    · rw [vEnc_big n (by omega)]
      have h1 := ih (n / 128) (by rw [Nat.pow_succ] at h; exact Nat.div_lt_of_lt_mul (by omega))
      simpa using h1
theorem vEnc_len7 (n : Nat) (h : n ≤ 562949953421311) : (vEnc n).length ≤ 7 := vEnc_len 6 n (by
  have : (128 : Nat) ^ (6 + 1) = 562949953421312 := by decide
  omega)
theorem vPre_len {pre : List UInt8} {m n : Nat} (h : pre ++ vEnc m = vEnc n) (hn : n ≤ 562949953421311) : pre.length ≤ 7 := by
  have h1 := vEnc_len7 n hn
  rw [← h, List.length_append] at h1
  omega
theorem vPre_step {pre : List UInt8} {m n : Nat} (h : pre ++ vEnc m = vEnc n) (hm : 128 ≤ m) : (pre ++ [hib m]) ++ vEnc (m / 128) = vEnc n := by
  rw [← h, vEnc_big m hm]; simp
theorem vPre_end {pre : List UInt8} {m n : Nat} (h : pre ++ vEnc m = vEnc n) (hm : m < 128) : pre ++ [lob m] = vEnc n := by
  rw [← h, vEnc_small m hm]
end Go.Proofs.YtaijajajpnekbaaGreat.num
namespace Go.Proofs.YtaijajajpnekbaaGreat.num
set_option maxRecDepth 20000
open Go.RowKit

theorem or_i64 (a b : Nat) (ha : a < 281474976710656) (hb : b < 256) : bits .or .i64 ((a : Int) * 256) (b : Int) = ((a * 256 + b : Nat) : Int) := by
  show IntKind.i64.wrap ((BitVec.ofInt 64 ((a : Int) * 256) ||| BitVec.ofInt 64 (b : Int)).toNat : Int) = _
  have e : ((a : Int) * 256) = ((a * 256 : Nat) : Int) := by omega
  rw [e, BitVec.toNat_or, ofInt_u64 _ (by omega), ofInt_u64 b (by omega), or_add a b hb]
  exact IntWalk.i64_in _ ⟨by omega, by omega⟩

/-- l1In of the model. -/
theorem in_any (x l h : Int) (b : Bool) (hb : b = true ↔ l ≤ x ∧ x ≤ h) (w : World) :
    Calls Tryz.prog 28 #[.int .i64 x, .int .i64 l, .int .i64 h] w fun e w' => e = .returned (.bool b) ∧ w = w' := by
  obtain rfl : b = (decide (l ≤ x) && decide (x ≤ h)) := by rw [Bool.eq_iff_iff]; simpa using hb
  clear hb
  by_cases h1 : l ≤ x
  · go_enter Tryz.func28, Tryz.ntmps28
    go_wp2
    go_ret
    exact ⟨by simp [h1], rfl⟩
  · go_enter Tryz.func28, Tryz.ntmps28
    go_wp2
    go_ret
    exact ⟨by simp; omega, rfl⟩

end Go.Proofs.YtaijajajpnekbaaGreat.num
namespace Go.Proofs.YtaijajajpnekbaaGreat.num
set_option maxRecDepth 20000
open Go.RowKit Go.Maps
set_option linter.unusedVariables false
set_option linter.unusedSimpArgs false

/-- Two slices of nodes of the call's own, the second one later, appended. -/
theorem app_own {w1 w2 w3 : World} {lo : Nat} {v1 v2 v3 : Value} {k1 k2 : List Nd} (h1 : OwnN w1 lo v1 k1) (hb : Below w1.heap.size w1 w2) (h2 : OwnN w2 w1.heap.size v2 k2) (hlo : lo ≤ w1.heap.size) (hg : w2.grownBy w3 v1.ownBlock) (ha : v3.ownBlock = v1.ownBlock ∨ v3.ownBlock = some w2.heap.size) (hr : OwnG 57 nodeCells 6 w3 lo v3 (k1 ++ k2)) : OwnN w3 lo v3 (k1 ++ k2) := by
  have n1 : NodesO w2 lo k1 := (h1.below hb).no
  have n12 : NodesO w2 lo (k1 ++ k2) := n1.cat h2.no hlo fun x hx b h => (h1.no.has_in hx h).2
  have hne : ∀ x ∈ k1 ++ k2, ∀ b, x.t.has b → v1.ownBlock ≠ some b := fun x hx b h e => by
    rcases List.mem_append.1 hx with hx | hx
    · obtain ⟨i, hi, rfl⟩ := List.getElem_of_mem hx
      exact h1.a i _ b (List.getElem?_eq_getElem hi) h e
    · have q1 := (h2.no.has_in hx h).1
      have q2 := h1.r.tops b e
      omega
  refine OwnN.of hr (n12.blocks fun x hx b h => hg.block b (n12.has_in hx h).2 fun e => hne x hx b h e.symm) fun x hx b h e => ?_
  rcases ha with q | q
  · exact hne x hx b h (q ▸ e)
  · rw [q] at e
    have := Option.some.inj e
    have := (n12.has_in hx h).2
    omega
set_option maxRecDepth 20000 in
set_option maxHeartbeats 1600000 in
theorem sReplace (w : World) (B : Nat) (A A' : Option Addr) (n c n' c' : Nat) (ns ys : List Nd) (hi : Nodes w B A n ns) (hy : Nodes w B A' n' ys) (hB : B ≤ w.heap.size) (hnc : n ≤ c) (hc : c ≤ 9223372036854775807) (hn : n ≤ 1048576) (hn' : n' ≤ 1048576) (hN : ShortN ns) (hY : ShortN ys) (k i : Nat) (s : Tr) (ha : At (datN ns) k i s) :
    Calls Tryz.prog 49 #[.slice A n c, .int .i64 (k : Int), .slice A' n' c'] w fun e w' => ∃ v zs, e = .returned v ∧ datN zs = (datN ns).take i ++ datN ys ++ (datN ns).drop (k + 1) ∧ ShortN zs ∧ OwnN w' w.heap.size v zs ∧ Below w.heap.size w w' := by
  have HX := Lib.hid hi
  have HY := Lib.hid hy
  have HSh := Lib.hid hN
  have HSy := Lib.hid hY
  have HS := Lib.hid (fun W (h : Below w.heap.size w W) => sStart W B A n c ns (hi.below (h.mono hB)) hn k i s ha)
  have hkn : k < n := by have := ha.lt; rwa [datN_length, hi.len] at this
  have hik : i ≤ k := ha.le
  obtain ⟨b, off, x0, hA, _⟩ := hi.at k hkn
  subst hA
  have hs0 : (0 : Int) ≤ (i : Int) := by omega
  have hs1 : (i : Int) ≤ (c : Int) := by omega
  have hs2 : (k : Int) + 1 ≤ (n : Int) := by omega
  have hs3 : (0 : Int) ≤ (k : Int) + 1 := by omega
  have hs4 : (n : Int) ≤ (c : Int) := by omega
  have hw1 : IntKind.i64.wrap ((k : Int) + 1) = (k : Int) + 1 := IntWalk.i64_in _ ⟨by omega, by omega⟩
  clear hi hy hN hY ha
  go_enter Tryz.func49, Tryz.ntmps49
  go_wp2_with fail
  refine (HS.out _ (Below.refl _ _)).mono ?_
  rintro e w0 ⟨rfl, rfl⟩
  go_wp2_with fail
  refine (sCopyN_c w B (some ⟨b, off, none⟩) i c (ns.take i) (HX.out.take (by omega)) hB (by omega) (fun x hx => HSh.out x (List.mem_of_mem_take hx))).mono ?_
  rintro e w1 ⟨v1, k1, rfl, hd1, hs1', ho1, hb1⟩
  have HO1 := Lib.hid ho1
  have HD1 := Lib.hid hd1
  have HS1 := Lib.hid hs1'
  have HB1 := Lib.hid hb1
  clear hd1 hs1' ho1 hb1
  go_wp2_with fail
  refine (sCopyN_c w1 B A' n' c' ys (HY.out.below (HB1.out.mono hB)) (Nat.le_trans hB HB1.out.size) hn' HSy.out).mono ?_
  rintro e w2 ⟨v2, k2, rfl, hd2, hs2', ho2, hb2⟩
  obtain ⟨A2, c2, rfl, -, -⟩ := ho2.r.shape
  have HO2 := Lib.hid ho2
  have HD2 := Lib.hid hd2
  have HS2 := Lib.hid hs2'
  have HB12 := Lib.hid hb2
  have HB2 := Lib.hid (below_on HB1.out hb2)
  have HK : Hid (k1.length ≤ n ∧ k2.length = n') := Lib.hid ⟨by rw [datN_len HD1.out, List.length_take]; have := HX.out.len; omega, (datN_len HD2.out).trans HY.out.len⟩
  clear hd2 hs2' ho2 hb2
  obtain ⟨v3, w3, hr3, ho3, hg3, hat3⟩ := run_spreadG nodeCells_len nodeCells_one (ty := 24) (c := c2) Tryz.underlying24 info_node rfl (by decide) (by decide) ((HO1.out.below HB12.out).r) HO2.out.nodes.r (by have h1 := HK.out; omega) HB2.out.size
  have HO3 := Lib.hid (app_own HO1.out HB12.out HO2.out HB1.out.size hg3 hat3 ho3)
  have HB3 := Lib.hid (HB2.out.grown hg3 HB2.out.size (fun k hk => (HO1.out.below HB12.out).r.lows k hk))
  clear ho3 hg3 hat3
  by_cases hck : c = k + 1
  · subst hck
    have HM : Hid (∀ W, Below w.heap.size w W → Nodes W W.heap.size (some ⟨b, off, none⟩) 0 (ns.drop (k + 1))) := Lib.hid fun W h => by
      rw [List.drop_eq_nil_of_le (by rw [HX.out.len]; omega)]
      exact .nil _ _ _
    go_wp2_with (at_builtin; refine Go.Lib.wpList_append_run_sl _ (by rfl) (.tmp 14) (.tmp 16) 24 (by rfl) _ _ (by rfl) (by rfl) hr3 ?_)
    clear hr3
    go_wp2_with fail
    refine (sCopyN_c w3 w3.heap.size (some ⟨b, off, none⟩) 0 0 (ns.drop (k + 1)) (HM.out _ HB3.out) (Nat.le_refl _) (by omega) (fun x hx => HSh.out x (List.mem_of_mem_drop hx))).mono ?_
    rintro e w4 ⟨v4, k4, rfl, hd4, hs4', ho4, hb4⟩
    obtain ⟨A4, c4, rfl, -, -⟩ := ho4.r.shape
    have HO4 := Lib.hid ho4
    have HD4 := Lib.hid hd4
    have HS4 := Lib.hid hs4'
    have HB34 := Lib.hid hb4
    have HB4 := Lib.hid (below_on HB3.out hb4)
    have HK4 : Hid (k4.length ≤ n) := Lib.hid (by rw [datN_len HD4.out, List.length_drop]; have := HX.out.len; omega)
    clear hd4 hs4' ho4 hb4
    obtain ⟨v5, w5, hr5, ho5, hg5, hat5⟩ := run_spreadG nodeCells_len nodeCells_one (ty := 24) (c := c4) Tryz.underlying24 info_node rfl (by decide) (by decide) ((HO3.out.below HB34.out).r) HO4.out.nodes.r (by have h1 := HK.out; have h2 := HK4.out; rw [List.length_append]; omega) HB4.out.size
    have HO5 := Lib.hid (app_own HO3.out HB34.out HO4.out HB3.out.size hg5 hat5 ho5)
    have HB5 := Lib.hid (HB4.out.grown hg5 HB4.out.size (fun k hk => (HO3.out.below HB34.out).r.lows k hk))
    clear ho5 hg5 hat5
    go_wp2_with (at_builtin; refine Go.Lib.wpList_append_run_sl _ (by rfl) (.tmp 18) (.tmp 23) 24 (by rfl) _ _ (by rfl) (by rfl) hr5 ?_)
    clear hr5
    go_wp2
    go_ret
    exact ⟨_, _, rfl, by rw [datN_app, datN_app, HD1.out, HD2.out, HD4.out, datN_take, datN_drop], short_app (short_app HS1.out HS2.out) HS4.out, HO5.out, HB5.out⟩
  · have HM : Hid (∀ W, Below w.heap.size w W → Nodes W W.heap.size (some ⟨b, off + (k + 1) * 6, none⟩) (n - (k + 1)) (ns.drop (k + 1))) := Lib.hid fun W h => by
      have h1 := ((HX.out.below (h.mono hB)).more (Nat.le_trans hB h.size)).mid (i := k + 1) (j := n) (by omega) (Nat.le_refl _)
      rwa [List.take_of_length_le (by rw [HX.out.len]; exact Nat.le_refl _)] at h1
    go_wp2_with (at_builtin; refine Go.Lib.wpList_append_run_sl _ (by rfl) (.tmp 14) (.tmp 16) 24 (by rfl) _ _ (by rfl) (by rfl) hr3 ?_)
    clear hr3
    go_wp2_with fail
    refine (sCopyN_c w3 w3.heap.size (some ⟨b, off + (k + 1) * 6, none⟩) (n - (k + 1)) (c - (k + 1)) (ns.drop (k + 1)) (HM.out _ HB3.out) (Nat.le_refl _) (by omega) (fun x hx => HSh.out x (List.mem_of_mem_drop hx))).mono ?_
    rintro e w4 ⟨v4, k4, rfl, hd4, hs4', ho4, hb4⟩
    obtain ⟨A4, c4, rfl, -, -⟩ := ho4.r.shape
    have HO4 := Lib.hid ho4
    have HD4 := Lib.hid hd4
    have HS4 := Lib.hid hs4'
    have HB34 := Lib.hid hb4
    have HB4 := Lib.hid (below_on HB3.out hb4)
    have HK4 : Hid (k4.length ≤ n) := Lib.hid (by rw [datN_len HD4.out, List.length_drop]; have := HX.out.len; omega)
    clear hd4 hs4' ho4 hb4
    obtain ⟨v5, w5, hr5, ho5, hg5, hat5⟩ := run_spreadG nodeCells_len nodeCells_one (ty := 24) (c := c4) Tryz.underlying24 info_node rfl (by decide) (by decide) ((HO3.out.below HB34.out).r) HO4.out.nodes.r (by have h1 := HK.out; have h2 := HK4.out; rw [List.length_append]; omega) HB4.out.size
    have HO5 := Lib.hid (app_own HO3.out HB34.out HO4.out HB3.out.size hg5 hat5 ho5)
    have HB5 := Lib.hid (HB4.out.grown hg5 HB4.out.size (fun k hk => (HO3.out.below HB34.out).r.lows k hk))
    clear ho5 hg5 hat5
    go_wp2_with (at_builtin; refine Go.Lib.wpList_append_run_sl _ (by rfl) (.tmp 18) (.tmp 23) 24 (by rfl) _ _ (by rfl) (by rfl) hr5 ?_)
    clear hr5
    go_wp2
    go_ret
    exact ⟨_, _, rfl, by rw [datN_app, datN_app, HD1.out, HD2.out, HD4.out, datN_take, datN_drop], short_app (short_app HS1.out HS2.out) HS4.out, HO5.out, HB5.out⟩
set_option maxRecDepth 20000 in
set_option maxHeartbeats 1600000 in
theorem sParts (w : World) (B : Nat) (A : Option Addr) (n c : Nat) (ns : List Nd) (hi : Nodes w B A n ns) (hB : B ≤ w.heap.size) (hnc : n ≤ c) (hc : c ≤ 9223372036854775807) (hn : n ≤ 1048576) (hN : ShortN ns) (k i : Nat) (op : Int) (a b : Tr) (ha : At (datN ns) k i (.bin op a b)) :
    Calls Tryz.prog 50 #[.slice A n c, .int .i64 (k : Int)] w fun e w' => ∃ v1 v2 k1 k2 m, e = .returned (.tuple #[v1, v2]) ∧ datN k1 = flatT a ∧ datN k2 = flatT b ∧ ShortN k1 ∧ ShortN k2 ∧ OwnN w' w.heap.size v1 k1 ∧ OwnN w' m v2 k2 ∧ w.heap.size ≤ m ∧ (∀ b, hasN v1 k1 b → b < m) ∧ Below w.heap.size w w' := by
  obtain ⟨hk1, hr⟩ := ha.right
  obtain ⟨hda, hdb⟩ := ha.parts
  have hjk : i + (flatT a).length ≤ k - 1 := hr.le
  obtain ⟨j, hj⟩ : ∃ j, i + (flatT a).length = j := ⟨_, rfl⟩
  rw [hj] at hr hda hdb hjk
  have hij : i ≤ j := by omega
  have HX := Lib.hid hi
  have HSh := Lib.hid hN
  have HS := Lib.hid (fun W (h : Below w.heap.size w W) => sStart W B A n c ns (hi.below (h.mono hB)) hn k i _ ha)
  have HS2 := Lib.hid (fun W (h : Below w.heap.size w W) => sStart W B A n c ns (hi.below (h.mono hB)) hn (k - 1) j _ hr)
  have hkn : k < n := by have := ha.lt; rwa [datN_length, hi.len] at this
  have HDa : Hid (datN ((ns.take j).drop i) = flatT a) := Lib.hid (by rw [datN_drop, datN_take]; exact hda)
  have HDb : Hid (datN ((ns.take k).drop j) = flatT b) := Lib.hid (by rw [datN_drop, datN_take]; exact hdb)
  obtain ⟨bb, off, x0, hA, _⟩ := hi.at k hkn
  subst hA
  have hkk : ((k - 1 : Nat) : Int) = (k : Int) - 1 := by omega
  rw [hkk] at HS2
  have hs0 : (0 : Int) ≤ (i : Int) := by omega
  have hs1 : (i : Int) ≤ (j : Int) := by omega
  have hs2 : (j : Int) ≤ (c : Int) := by omega
  have hs3 : (0 : Int) ≤ (j : Int) := by omega
  have hs4 : (j : Int) ≤ (k : Int) := by omega
  have hs5 : (k : Int) ≤ (c : Int) := by omega
  have hs6 : (0 : Int) ≤ (k : Int) := by omega
  have hc1 : ¬ (c = i) := by omega
  have hc2 : ¬ (c = j) := by omega
  have hw1 : IntKind.i64.wrap ((k : Int) - 1) = (k : Int) - 1 := IntWalk.i64_in _ ⟨by omega, by omega⟩
  have HM1 : Hid (∀ W, Below w.heap.size w W → Nodes W W.heap.size (some ⟨bb, off + i * 6, none⟩) (j - i) ((ns.take j).drop i)) := Lib.hid fun W h => ((HX.out.below (h.mono hB)).more (Nat.le_trans hB h.size)).mid hij (by omega)
  have HM2 : Hid (∀ W, Below w.heap.size w W → Nodes W W.heap.size (some ⟨bb, off + j * 6, none⟩) (k - j) ((ns.take k).drop j)) := Lib.hid fun W h => ((HX.out.below (h.mono hB)).more (Nat.le_trans hB h.size)).mid (by omega) (by omega)
  have hl1 : j - i ≤ 1048576 := by omega
  have hl2 : k - j ≤ 1048576 := by omega
  clear hi hN ha hr hda hdb hj hjk hkk
  go_enter Tryz.func50, Tryz.ntmps50
  go_wp2_with fail
  refine (HS2.out _ (Below.refl _ _)).mono ?_
  rintro e w0 ⟨rfl, rfl⟩
  go_wp2
  have hS0 : (fun w' : World => Below w.heap.size w w') (World.drew w) := (Below.refl _ _).drew
  refine wp_region_held (S := fun w' : World => Below w.heap.size w w') (by kernel_rfl) ?_
  change wpAnyH _ _ _ _ _ _ _ _ (World.drew _)
  refine takeY 11 (i := 0) (v := ?v0a) rfl rfl (by kernel_rfl) (by kernel_rfl) (by kernel_rfl) (fun _ _ _ h => h) (by kernel_rfl) ?y0a hS0 ?_
  case y0a =>
    intro w' hw'; (try dsimp only at hw'); obtain - := hw'; go_simp; try with_reducible rfl
  simp only [Act.put, List.setIfInBounds_toArray, List.set_cons_zero, List.set_cons_succ]
  refine takeY 12 (i := 1) (v := ?v1a) rfl rfl (by kernel_rfl) (by kernel_rfl) (by kernel_rfl) (fun _ _ _ h => h) (by kernel_rfl) ?y1a hS0 ?_
  case y1a =>
    intro w' hw'; (try dsimp only at hw'); obtain - := hw'; go_simp; try with_reducible rfl
  simp only [Act.put, List.setIfInBounds_toArray, List.set_cons_zero, List.set_cons_succ]
  refine takeY 13 (i := 2) (v := ?v2a) rfl rfl (by kernel_rfl) (by kernel_rfl) (by kernel_rfl) (fun _ _ _ h => h) (by kernel_rfl) ?y2a hS0 ?_
  case y2a =>
    intro w' hw'; (try dsimp only at hw'); obtain - := hw'; go_simp; try with_reducible rfl
  simp only [Act.put, List.setIfInBounds_toArray, List.set_cons_zero, List.set_cons_succ]
  refine takeY 15 (i := 4) (v := ?v4a) rfl rfl (by kernel_rfl) (by kernel_rfl) (by kernel_rfl) (fun _ _ _ h => h) (by kernel_rfl) ?y4a hS0 ?_
  case y4a =>
    intro w' hw'; (try dsimp only at hw'); obtain - := hw'; go_simp; try with_reducible rfl
  simp only [Act.put, List.setIfInBounds_toArray, List.set_cons_zero, List.set_cons_succ]
  refine takeY 18 (i := 7) (v := ?v7a) rfl rfl (by kernel_rfl) (by kernel_rfl) (by kernel_rfl) (fun _ _ _ h => h) (by kernel_rfl) ?y7a hS0 ?_
  case y7a =>
    intro w' hw'; (try dsimp only at hw'); obtain - := hw'; go_simp; try with_reducible rfl
  simp only [Act.put, List.setIfInBounds_toArray, List.set_cons_zero, List.set_cons_succ]
  refine takeY 19 (i := 8) (v := ?v8a) rfl rfl (by kernel_rfl) (by kernel_rfl) (by kernel_rfl) (fun _ _ _ h => h) (by kernel_rfl) ?y8a hS0 ?_
  case y8a =>
    intro w' hw'; (try dsimp only at hw'); obtain - := hw'; go_simp; try with_reducible rfl
  simp only [Act.put, List.setIfInBounds_toArray, List.set_cons_zero, List.set_cons_succ]
  refine takeY 20 (i := 9) (v := ?v9a) rfl rfl (by kernel_rfl) (by kernel_rfl) (by kernel_rfl) (fun _ _ _ h => h) (by kernel_rfl) ?y9a hS0 ?_
  case y9a =>
    intro w' hw'; (try dsimp only at hw'); obtain - := hw'; go_simp; try with_reducible rfl
  simp only [Act.put, List.setIfInBounds_toArray, List.set_cons_zero, List.set_cons_succ]
  refine takeY 21 (i := 10) (v := ?v10a) rfl rfl (by kernel_rfl) (by kernel_rfl) (by kernel_rfl) (fun _ _ _ h => h) (by kernel_rfl) ?y10a hS0 ?_
  case y10a =>
    intro w' hw'; (try dsimp only at hw'); obtain - := hw'; go_simp; try with_reducible rfl
  simp only [Act.put, List.setIfInBounds_toArray, List.set_cons_zero, List.set_cons_succ]
  refine wpAnyH_ready (rs := [3]) (by kernel_rfl) (by simp) ?_
  refine AllReadyH.cons rfl (fun K hK => ?_) AllReadyH.nil
  go_simp; go_at_call 41; refine (HS.out _ (Below.refl _ _).drew).mono ?_; rintro e w0 ⟨rfl, rfl⟩
  refine hK.out _ _ (Below.refl w.heap.size w).drew (fun hS1 => ?_)
  clear hK K
  try simp only [Act.put, List.setIfInBounds_toArray, List.set_cons_zero, List.set_cons_succ]
  refine takeY 16 (i := 5) (v := ?v5a) rfl rfl (by kernel_rfl) (by kernel_rfl) (by kernel_rfl) (fun _ _ _ h => h) (by kernel_rfl) ?y5a hS1 ?_
  case y5a =>
    intro w' hw'; (try dsimp only at hw'); obtain - := hw'; go_simp; try with_reducible rfl
  simp only [Act.put, List.setIfInBounds_toArray, List.set_cons_zero, List.set_cons_succ]
  refine wpAnyH_ready (rs := [6]) (by kernel_rfl) (by simp) ?_
  refine AllReadyH.cons rfl (fun K hK => ?_) AllReadyH.nil
  go_simp; go_at_call 29; refine (sCopyN_c _ _ (some ⟨bb, off + i * 6, none⟩) (j - i) (c - i) ((ns.take j).drop i) (HM1.out _ (Below.refl _ _).drew) (Nat.le_refl _) hl1 (fun x hx => HSh.out x (List.mem_of_mem_take (List.mem_of_mem_drop hx)))).mono ?_; rintro e w1 ⟨v1, k1, rfl, hd1, hsa, ho1, hb1⟩; have HO1 := Lib.hid (ho1.low (B' := w.heap.size) (Below.refl w.heap.size w).drew.size); have HD1 : Hid (datN k1 = flatT a) := Lib.hid (hd1.trans HDa.out); have HSa := Lib.hid hsa; have HB1 := Lib.hid (below_on (Below.refl w.heap.size w).drew hb1); clear hd1 hsa ho1 hb1
  refine hK.out _ _ HB1.out (fun hS2 => ?_)
  clear hK K
  try simp only [Act.put, List.setIfInBounds_toArray, List.set_cons_zero, List.set_cons_succ]
  refine wpAnyH_ready (rs := [11]) (by kernel_rfl) (by simp) ?_
  refine AllReadyH.cons rfl (fun K hK => ?_) AllReadyH.nil
  go_simp; go_at_call 29; refine (sCopyN_c _ _ (some ⟨bb, off + j * 6, none⟩) (k - j) (c - j) ((ns.take k).drop j) (HM2.out _ HB1.out) (Nat.le_refl _) hl2 (fun x hx => HSh.out x (List.mem_of_mem_take (List.mem_of_mem_drop hx)))).mono ?_; rintro e w2 ⟨v2, k2, rfl, hd2, hsb, ho2, hb2⟩; have HO2 := Lib.hid ho2; have HO1' := Lib.hid (HO1.out.below hb2); have HT : Hid (∀ b, hasN v1 k1 b → b < w1.heap.size) := Lib.hid fun b h => (HO1.out.has_in h).2; have HD2 : Hid (datN k2 = flatT b) := Lib.hid (hd2.trans HDb.out); have HSb := Lib.hid hsb; have HB2 := Lib.hid (below_on HB1.out hb2); clear hd2 hsb ho2 hb2
  refine hK.out _ _ HB2.out (fun hS3 => ?_)
  clear hK K
  try simp only [Act.put, List.setIfInBounds_toArray, List.set_cons_zero, List.set_cons_succ]
  refine takeY 4 (i := 12) (v := ?v12a) rfl rfl (by kernel_rfl) (by kernel_rfl) (by kernel_rfl) (fun _ _ _ h => h) (by kernel_rfl) ?y12a hS3 ?_
  case y12a =>
    intro w' hw'; (try dsimp only at hw'); obtain - := hw'; go_simp; try with_reducible rfl
  simp only [Act.put, List.setIfInBounds_toArray, List.set_cons_zero, List.set_cons_succ]
  refine takeY 5 (i := 13) (v := ?v13a) rfl rfl (by kernel_rfl) (by kernel_rfl) (by kernel_rfl) (fun _ _ _ h => h) (by kernel_rfl) ?y13a hS3 ?_
  case y13a =>
    intro w' hw'; (try dsimp only at hw'); obtain - := hw'; go_simp; try with_reducible rfl
  simp only [Act.put, List.setIfInBounds_toArray, List.set_cons_zero, List.set_cons_succ]
  refine wpAnyH_done (by kernel_rfl) ?_ _
  clear hS0 hS1 hS2 hS3
  go_wp2
  go_ret2
  exact ⟨_, _, _, _, w1.heap.size, rfl, HD1.out, HD2.out, HSa.out, HSb.out, HO1'.out, HO2.out, HB1.out.size, HT.out, HB2.out⟩
set_option maxRecDepth 20000 in
set_option maxHeartbeats 1600000 in
theorem sSubtree (w : World) (B : Nat) (A : Option Addr) (n c : Nat) (ns : List Nd) (pos : Int) (hi : Nodes w B A n ns) (hB : B ≤ w.heap.size) (hnc : n ≤ c) (hc : c ≤ 9223372036854775807) (hn : n ≤ 1048576) (hN : ShortN ns) (out : List ND) (ho : SubD (datN ns) pos out) :
    Calls Tryz.prog 21 #[.slice A n c, .int .i64 pos] w fun e w' => ∃ v ns', e = .returned v ∧ datN ns' = out ∧ ShortN ns' ∧ OwnN w' w.heap.size v ns' ∧ Below w.heap.size w w' := by
  obtain ⟨q, hq⟩ := bool_of (IsE (datN ns))
  have hlen : (datN ns).length = n := by rw [datN_length, hi.len]
  have HC : Hid (∀ w1, Below w.heap.size w w1 → Calls Tryz.prog 15 #[.slice A n c] w1 fun e w' => e = .returned (.bool q) ∧ Below w1.heap.size w1 w') := Lib.hid fun w1 h => sIsE w1 B A n c ns (hi.below (h.mono hB)) (Nat.le_trans hB h.size) hn hN q hq
  have HX := Lib.hid hi
  have HSh := Lib.hid hN
  have HQ := Lib.hid hq
  have HO := Lib.hid ho
  have HLen := Lib.hid hlen
  have hw1 : IntKind.i64.wrap ((n : Int) - 1) = (n : Int) - 1 := IntWalk.i64_in _ ⟨by omega, by omega⟩
  have HE : Hid (∀ W : World, Below w.heap.size w W → OwnN (W.alloc (.cells #[] 57)) w.heap.size (.slice (some ⟨W.heap.size, 0, none⟩) 0 0) []) := Lib.hid fun W h => ownN_empty W w h.size
  clear hi hN hq ho hlen
  go_enter Tryz.func21, Tryz.ntmps21
  go_wp2_with fail
  refine (HC.out _ (Below.refl _ _)).mono ?_
  rintro e w1 ⟨rfl, hb1⟩
  have HB1 := Lib.hid hb1
  clear hb1
  cases q
  · have HD := Lib.hid (HO.out.none fun h => by have := HQ.out.2 h.1; cases this)
    have HBe := Lib.hid (HB1.out.alloc HB1.out.size (.cells #[] 57))
    have HE1 := Lib.hid (HE.out w1 HB1.out)
    go_wp2
    go_ret
    exact ⟨_, [], rfl, HD.out.symm, by simp [ShortN], HE1.out, HBe.out⟩
  obtain ⟨z, hz⟩ := bool_of (0 ≤ pos ∧ pos ≤ (n : Int) - 1)
  have HZ := Lib.hid hz
  have HIn := Lib.hid (in_any pos 0 ((n : Int) - 1) z hz w1)
  clear hz
  go_wp2_with fail
  refine HIn.out.mono ?_
  rintro e w2 ⟨rfl, rfl⟩
  cases z
  · have HD := Lib.hid (HO.out.none fun h => by
      have h1 := h.2.2
      rw [HLen.out] at h1
      have := HZ.out.2 ⟨h.2.1, by omega⟩
      cases this)
    have HBe := Lib.hid (HB1.out.alloc HB1.out.size (.cells #[] 57))
    have HE1 := Lib.hid (HE.out w1 HB1.out)
    go_wp2
    go_ret
    exact ⟨_, [], rfl, HD.out.symm, by simp [ShortN], HE1.out, HBe.out⟩
  obtain ⟨hp0, hp1⟩ := HZ.out.1 (by first | rfl | trivial)
  obtain ⟨k, rfl⟩ : ∃ k : Nat, pos = (k : Int) := ⟨pos.toNat, by omega⟩
  have hkn : k < n := by omega
  obtain ⟨i, s, ha⟩ := At.ex (HQ.out.1 (by first | rfl | trivial)) (show k < (datN ns).length by rw [HLen.out]; exact hkn)
  have hik : i ≤ k := ha.le
  have HD := Lib.hid (HO.out.one rfl ha)
  have HFl := Lib.hid ha.flat
  have HS := Lib.hid (sStart w1 B A n c ns (HX.out.below (HB1.out.mono hB)) hn k i s ha)
  obtain ⟨b, off, x0, hA, _⟩ := HX.out.at k hkn
  subst hA
  have hs0 : (0 : Int) ≤ (i : Int) := by omega
  have hs1 : (i : Int) ≤ (k : Int) + 1 := by omega
  have hs2 : (k : Int) + 1 ≤ (c : Int) := by omega
  have hs3 : (0 : Int) ≤ (k : Int) + 1 := by omega
  have hc1 : ¬ (c = i) := by omega
  have hw2 : IntKind.i64.wrap ((k : Int) + 1) = (k : Int) + 1 := IntWalk.i64_in _ ⟨by omega, by omega⟩
  have HM : Hid (Nodes w1 w1.heap.size (some ⟨b, off + i * 6, none⟩) (k + 1 - i) ((ns.take (k + 1)).drop i)) := Lib.hid (((HX.out.below (HB1.out.mono hB)).more (Nat.le_trans hB HB1.out.size)).mid (by omega) (by omega))
  have hl1 : k + 1 - i ≤ 1048576 := by omega
  clear ha hp0 hp1
  go_wp2_with fail
  refine HS.out.mono ?_
  rintro e w2 ⟨rfl, rfl⟩
  go_wp2_with fail
  refine (sCopyN_c w1 w1.heap.size (some ⟨b, off + i * 6, none⟩) (k + 1 - i) (c - i) _ HM.out (Nat.le_refl _) hl1 (fun x hx => HSh.out x (List.mem_of_mem_take (List.mem_of_mem_drop hx)))).mono ?_
  rintro e w2 ⟨v, k2, rfl, hd2, hs2', ho2, hb2⟩
  have HF := Lib.hid (And.intro (hd2.trans (by rw [datN_drop, datN_take, HFl.out, HD.out])) (And.intro hs2' (ho2.low HB1.out.size)) : datN k2 = out ∧ ShortN k2 ∧ OwnN w2 w.heap.size v k2)
  have HB2 := Lib.hid (below_on HB1.out hb2)
  clear hd2 hs2' ho2 hb2
  go_wp2
  go_ret
  exact ⟨_, _, rfl, HF.out.1, HF.out.2.1, HF.out.2.2, HB2.out⟩
end Go.Proofs.YtaijajajpnekbaaGreat.num
namespace Go.Proofs.YtaijajajpnekbaaGreat.num
set_option maxRecDepth 20000
open Go.RowKit Go.Maps
set_option linter.unusedVariables false
set_option linter.unusedSimpArgs false

/-- The slice v is the call's own, and so are the wishes' lists, apart from it. -/
structure ShN (w : World) (B : Nat) (v : Value) (ns : List Nd) : Prop where
  r : OwnG 57 nodeCells 6 w B v ns
  x : ∀ x ∈ ns, (Lit.int .i64 x.op).wf = true ∧ WiO w B x.t
  a : ∀ x ∈ ns, ∀ b, x.t.has b → v.ownBlock ≠ some b
theorem OwnN.sh {w : World} {B : Nat} {v : Value} {ns : List Nd} (h : OwnN w B v ns) : ShN w B v ns :=
  ⟨h.r, fun x hx => by
    obtain ⟨k, hk, rfl⟩ := List.getElem_of_mem hx
    exact h.x k _ (List.getElem?_eq_getElem hk), fun x hx b hb => by
    obtain ⟨k, hk, rfl⟩ := List.getElem_of_mem hx
    exact h.a k _ b (List.getElem?_eq_getElem hk) hb⟩
theorem ShN.nodes {w : World} {B : Nat} {A : Option Addr} {n c : Nat} {ns : List Nd} (h : ShN w B (.slice A n c) ns) : Nodes w w.heap.size A n ns := ⟨h.r.read nodeCells_len, fun x hx => ⟨(h.x x hx).1, (h.x x hx).2.wi⟩⟩
/-- More nodes behind those of v, in its own row or in a new one. -/
theorem ShN.more {w w' : World} {B N : Nat} {v v' : Value} {ns m : List Nd} (h : ShN w B v ns) (hg : w.grownBy w' v.ownBlock) (hat : v'.ownBlock = v.ownBlock ∨ v'.ownBlock = some N) (hN : w.heap.size ≤ N) (hr : OwnG 57 nodeCells 6 w' B v' (ns ++ m)) (hx : ∀ x ∈ m, (Lit.int .i64 x.op).wf = true ∧ WiO w B x.t) (ha : ∀ x ∈ m, ∀ b, x.t.has b → v.ownBlock ≠ some b) : ShN w' B v' (ns ++ m) := by
  have hall : ∀ x ∈ ns ++ m, ((Lit.int .i64 x.op).wf = true ∧ WiO w B x.t) ∧ ∀ b, x.t.has b → v.ownBlock ≠ some b := fun x hx' => by
    rcases List.mem_append.1 hx' with h1 | h1
    · exact ⟨h.x x h1, h.a x h1⟩
    · exact ⟨hx x h1, ha x h1⟩
  refine ⟨hr, fun x hx' => ⟨(hall x hx').1.1, (hall x hx').1.2.blocks fun b hb => hg.block b ((hall x hx').1.2.has_in hb).2 fun e => (hall x hx').2 b hb e.symm⟩, fun x hx' b hb e => ?_⟩
  rcases hat with q | q
  · exact (hall x hx').2 b hb (q ▸ e)
  · rw [q] at e
    have h1 := Option.some.inj e
    have h2 := ((hall x hx').1.2.has_in hb).2
    omega
theorem bare_o (w : World) (B : Nat) {op : Int} (ho : (Lit.int .i64 op).wf = true) : (Lit.int .i64 (bareN op).op).wf = true ∧ WiO w B (bareN op).t :=
  ⟨ho, ⟨by show (Lit.int .i64 0).wf = true; decide, by show (Lit.int .i64 0).wf = true; decide, by show (Lit.int .i64 0).wf = true; decide, ownI_nil _ _, OwnP.nil _ _, fun b h => by cases h⟩⟩
/-- append of several elements just built. -/
theorem run_listG {α : Type} {f : α → List Value} {s : Nat} (hf : ∀ x, (f x).length = s) (h1 : ∀ x, ∀ u ∈ f x, u.oneCell' = true) {T tS ty : TypeId} {z : Value} {bytes : Nat} (ht : Tryz.prog.underlying tS = some (.slice T)) (hinf : (Tryz.prog.info? T).map (fun i => (i.zero, i.size, i.bytes)) = some (some z, s, bytes)) (hzs : z.cells.size = s) (hs0 : 0 < s) (hbt : 0 < bytes)
    {w : World} {B N m c : Nat} {v : Value} {l : List α} (ys : List α) (hm : ys.length = m) {cs : Array Value} (hcs : cs = (ys.flatMap f).toArray) (h : OwnG T f s w B v l) (hN : w.heap.size = N) (hlen : (l.length + m) * bytes ≤ 140737488355328) (hB : B ≤ w.heap.size) :
    ∃ v' w', (Builtin.append_ #[tS, tS] ty #[v, .slice (some ⟨N, 0, none⟩) m c]).run Tryz.prog (w.alloc (.cells cs T)) = .ok v' w' ∧ OwnG T f s w' B v' (l ++ ys) ∧ w.grownBy w' v.ownBlock ∧ (v'.ownBlock = v.ownBlock ∨ v'.ownBlock = some (N + 1)) := by
  subst hcs hN
  obtain ⟨v', w', hr, ho, hg, hat⟩ := run_app_some (P := Tryz.prog) (ty := ty) ht hinf hzs hs0 hbt (World.ownsRow.alloc h (.cells (ys.flatMap f).toArray T)) ⟨w.heap.size, 0, none⟩ (m := m) (c := c) (news := ys.flatMap f) (by rw [fm_len hf, hm]) (fun j u hj => by
    rw [addr_add, Nat.zero_add, World.cell?_alloc_at _ _ _ _ rfl]
    simpa using hj) (fm_one h1 ys) hlen (by simp; omega)
  refine ⟨v', w', hr, ?_, ⟨hg.os, hg.tape, hg.output, Nat.le_trans (by simp) hg.size, fun k hk hv => (hg.block k (by simp; omega) hv).trans (Below.heap_alloc _ _ _ hk)⟩, by simpa using hat⟩
  unfold OwnG
  rw [List.length_append, hm, List.flatMap_append]
  exact ho
theorem AppY.len {nds r : List ND} {rule pos : Int} (h : AppY nds rule pos r) : r.length ≤ 9 := by
  obtain ⟨k, i, s, s', _, _, _, _, h9⟩ := h
  exact h9
/-- The answer that something was made, from a slice of the call's own. -/
theorem RewOut.yes {nds : List ND} {rule pos : Int} {o : Option (List ND)} (ho : AppD nds rule pos o) {w w' : World} {lo : Nat} {v : Value} {zs : List Nd} {r : List ND} (hs : o = some r) (hd : datN zs = r) (hz : ShortN zs) (hown : OwnN w' lo v zs) (hb : Below w.heap.size w w') : RewOut o w (.returned (.tuple #[v, .bool true])) w' := by
  obtain ⟨A, c, rfl, -, -⟩ := hown.r.shape
  subst hs
  refine ⟨⟨A, zs.length, c, zs, rfl, fun r' h => ?_⟩, hb⟩
  cases h
  exact ⟨hown.nodes, hd, hz, by rw [← datN_length, hd]; exact AppY.len ho⟩
theorem RewOut.no {o : Option (List ND)} {w w' : World} {A : Option Addr} {n c : Nat} (hs : o = none) (hb : Below w.heap.size w w') : RewOut o w (.returned (.tuple #[.slice A n c, .bool false])) w' := by
  subst hs
  exact ⟨⟨A, n, c, [], rfl, fun r h => by cases h⟩, hb⟩
set_option maxRecDepth 20000 in
set_option maxHeartbeats 3200000 in
theorem sRule_base (w : World) (B : Nat) (A : Option Addr) (n c : Nat) (ns : List Nd) (rule : Int) (hi : Nodes w B A n ns) (hB : B ≤ w.heap.size) (hnc : n ≤ c) (hc : c ≤ 9223372036854775807) (hn : n ≤ 1048576) (hN : ShortN ns) (k i : Nat) (d : WD) (ha : At (datN ns) k i (.base d)) (o : Option (List ND)) (ho : AppD (datN ns) rule (k : Nat) o) :
    Calls Tryz.prog 30 #[.slice A n c, .int .i64 rule, .int .i64 (k : Int)] w (RewOut o w) := by
  have HX := Lib.hid hi
  have HSh := Lib.hid hN
  have HO := Lib.hid ho
  have HA := Lib.hid ha
  have hkn : k < n := by have := ha.lt; rwa [datN_length, hi.len] at this
  have h9 : n ≤ 9 := by have := ha.e.1; rwa [datN_length, hi.len] at this
  have hik : i ≤ k := ha.le
  obtain ⟨b0, off, x0, hA, hb0, hat0, hwf0, c0, -, -, -, -, -⟩ := hi.at k hkn
  subst hA
  have hop0 : x0.op = 0 := by
    obtain ⟨nd, h1, h2⟩ := ha.opAt
    rw [datN_get hat0] at h1
    rw [← Option.some.inj h1] at h2
    exact h2
  rw [hop0] at c0
  clear hi hN ho ha hat0 hwf0 hop0
  by_cases r1 : rule = 1
  · subst r1
    have HNo : Hid (o = none) := Lib.hid (HO.out.no HA.out fun s' h => by cases h)
    go_enter Tryz.func30, Tryz.ntmps30
    go_wp2
    go_ret2
    exact .no HNo.out (Below.refl _ _)
  have f1 : (rule == 1) = false := by simpa using r1
  by_cases r2 : rule = 2
  · subst r2
    clear r1 f1
    have HNo : Hid (o = none) := Lib.hid (HO.out.no HA.out fun s' h => by cases h)
    go_enter Tryz.func30, Tryz.ntmps30
    go_wp2
    go_ret2
    exact .no HNo.out (Below.refl _ _)
  have f2 : (rule == 2) = false := by simpa using r2
  by_cases r3 : rule = 3
  · subst r3
    clear r1 f1 r2 f2
    have HNo : Hid (o = none) := Lib.hid (HO.out.no HA.out fun s' h => by cases h)
    go_enter Tryz.func30, Tryz.ntmps30
    go_wp2
    go_ret2
    exact .no HNo.out (Below.refl _ _)
  have f3 : (rule == 3) = false := by simpa using r3
  by_cases r4 : rule = 4
  · subst r4
    clear r1 f1 r2 f2 r3 f3
    have HNo : Hid (o = none) := Lib.hid (HO.out.no HA.out fun s' h => by cases h)
    go_enter Tryz.func30, Tryz.ntmps30
    go_wp2
    go_ret2
    exact .no HNo.out (Below.refl _ _)
  have f4 : (rule == 4) = false := by simpa using r4
  have HNo : Hid (o = none) := Lib.hid (HO.out.no HA.out fun s' h => by cases h <;> contradiction)
  clear r1 r2 r3 r4
  go_enter Tryz.func30, Tryz.ntmps30
  go_wp2
  go_ret2
  exact .no HNo.out (Below.refl _ _)
set_option maxRecDepth 20000 in
set_option maxHeartbeats 3200000 in
theorem sRule_dbase (w : World) (B : Nat) (A : Option Addr) (n c : Nat) (ns : List Nd) (rule : Int) (hi : Nodes w B A n ns) (hB : B ≤ w.heap.size) (hnc : n ≤ c) (hc : c ≤ 9223372036854775807) (hn : n ≤ 1048576) (hN : ShortN ns) (k i : Nat) (d : WD) (ha : At (datN ns) k i (.dual (.base d))) (o : Option (List ND)) (ho : AppD (datN ns) rule (k : Nat) o) :
    Calls Tryz.prog 30 #[.slice A n c, .int .i64 rule, .int .i64 (k : Int)] w (RewOut o w) := by
  have HX := Lib.hid hi
  have HSh := Lib.hid hN
  have HO := Lib.hid ho
  have HA := Lib.hid ha
  have hkn : k < n := by have := ha.lt; rwa [datN_length, hi.len] at this
  have h9 : n ≤ 9 := by have := ha.e.1; rwa [datN_length, hi.len] at this
  have hik : i ≤ k := ha.le
  obtain ⟨b0, off, x0, hA, hb0, hat0, hwf0, c0, -, -, -, -, -⟩ := hi.at k hkn
  subst hA
  have hop0 : x0.op = 3 := by
    obtain ⟨nd, h1, h2⟩ := ha.opAt
    rw [datN_get hat0] at h1
    rw [← Option.some.inj h1] at h2
    exact h2
  rw [hop0] at c0
  obtain ⟨hk1, hin⟩ := ha.inner
  obtain ⟨b1, off1, x1, hA1, -, hat1, hwf1, d0, -, -, -, -, -⟩ := hi.at (k - 1) (by omega)
  injection hA1 with hA1
  injection hA1 with e1 e2
  subst e1 e2
  have hop1 : x1.op = 0 := by
    obtain ⟨nd, h1, h2⟩ := hin.opAt
    rw [datN_get hat1] at h1
    rw [← Option.some.inj h1] at h2
    exact h2
  rw [hop1] at d0
  have HIn := Lib.hid hin
  have hw1 : IntKind.i64.wrap ((k : Int) - 1) = (k : Int) - 1 := IntWalk.i64_in _ ⟨by omega, by omega⟩
  have hx0 : (0 : Int) ≤ (k : Int) - 1 := by omega
  have hx1 : (k : Int) - 1 < (n : Int) := by omega
  have hx2 : ((k : Int) - 1).toNat = k - 1 := by omega
  clear hin hat1 hwf1 hop1
  clear hi hN ho ha hat0 hwf0 hop0
  by_cases r1 : rule = 1
  · subst r1
    have HNo : Hid (o = none) := Lib.hid (HO.out.no HA.out fun s' h => by cases h)
    go_enter Tryz.func30, Tryz.ntmps30
    go_wp2
    go_ret2
    exact .no HNo.out (Below.refl _ _)
  have f1 : (rule == 1) = false := by simpa using r1
  by_cases r2 : rule = 2
  · subst r2
    clear r1 f1
    have HNo : Hid (o = none) := Lib.hid (HO.out.no HA.out fun s' h => by cases h)
    go_enter Tryz.func30, Tryz.ntmps30
    go_wp2
    go_ret2
    exact .no HNo.out (Below.refl _ _)
  have f2 : (rule == 2) = false := by simpa using r2
  by_cases r3 : rule = 3
  · subst r3
    clear r1 f1 r2 f2
    have HNo : Hid (o = none) := Lib.hid (HO.out.no HA.out fun s' h => by cases h)
    go_enter Tryz.func30, Tryz.ntmps30
    go_wp2
    go_ret2
    exact .no HNo.out (Below.refl _ _)
  have f3 : (rule == 3) = false := by simpa using r3
  by_cases r4 : rule = 4
  · subst r4
    clear r1 f1 r2 f2 r3 f3
    have HNo : Hid (o = none) := Lib.hid (HO.out.no HA.out fun s' h => by cases h)
    go_enter Tryz.func30, Tryz.ntmps30
    go_wp2
    go_ret2
    exact .no HNo.out (Below.refl _ _)
  have f4 : (rule == 4) = false := by simpa using r4
  have HNo : Hid (o = none) := Lib.hid (HO.out.no HA.out fun s' h => by cases h <;> contradiction)
  clear r1 r2 r3 r4
  go_enter Tryz.func30, Tryz.ntmps30
  go_wp2
  go_ret2
  exact .no HNo.out (Below.refl _ _)
set_option maxRecDepth 20000 in
set_option maxHeartbeats 3200000 in
theorem sRule_ddual (w : World) (B : Nat) (A : Option Addr) (n c : Nat) (ns : List Nd) (rule : Int) (hi : Nodes w B A n ns) (hB : B ≤ w.heap.size) (hnc : n ≤ c) (hc : c ≤ 9223372036854775807) (hn : n ≤ 1048576) (hN : ShortN ns) (k i : Nat) (a : Tr) (ha : At (datN ns) k i (.dual (.dual a))) (o : Option (List ND)) (ho : AppD (datN ns) rule (k : Nat) o) :
    Calls Tryz.prog 30 #[.slice A n c, .int .i64 rule, .int .i64 (k : Int)] w (RewOut o w) := by
  have HX := Lib.hid hi
  have HSh := Lib.hid hN
  have HO := Lib.hid ho
  have HA := Lib.hid ha
  have hkn : k < n := by have := ha.lt; rwa [datN_length, hi.len] at this
  have h9 : n ≤ 9 := by have := ha.e.1; rwa [datN_length, hi.len] at this
  have hik : i ≤ k := ha.le
  obtain ⟨b0, off, x0, hA, hb0, hat0, hwf0, c0, -, -, -, -, -⟩ := hi.at k hkn
  subst hA
  have hop0 : x0.op = 3 := by
    obtain ⟨nd, h1, h2⟩ := ha.opAt
    rw [datN_get hat0] at h1
    rw [← Option.some.inj h1] at h2
    exact h2
  rw [hop0] at c0
  obtain ⟨hk1, hin⟩ := ha.inner
  obtain ⟨b1, off1, x1, hA1, -, hat1, hwf1, d0, -, -, -, -, -⟩ := hi.at (k - 1) (by omega)
  injection hA1 with hA1
  injection hA1 with e1 e2
  subst e1 e2
  have hop1 : x1.op = 3 := by
    obtain ⟨nd, h1, h2⟩ := hin.opAt
    rw [datN_get hat1] at h1
    rw [← Option.some.inj h1] at h2
    exact h2
  rw [hop1] at d0
  have HIn := Lib.hid hin
  have hw1 : IntKind.i64.wrap ((k : Int) - 1) = (k : Int) - 1 := IntWalk.i64_in _ ⟨by omega, by omega⟩
  have hx0 : (0 : Int) ≤ (k : Int) - 1 := by omega
  have hx1 : (k : Int) - 1 < (n : Int) := by omega
  have hx2 : ((k : Int) - 1).toNat = k - 1 := by omega
  clear hin hat1 hwf1 hop1
  clear hi hN ho ha hat0 hwf0 hop0
  by_cases r1 : rule = 1
  · subst r1
    obtain ⟨hk2, hin2⟩ := HIn.out.inner
    have hfl := hin2.flat
    rw [show k - 1 - 1 + 1 = k - 1 by omega] at hfl
    have hi2 : i ≤ k - 1 - 1 := hin2.le
    have HFl : Hid (datN ((ns.take (k - 1)).drop i) = flatT a) := Lib.hid (by rw [datN_drop, datN_take]; exact hfl)
    have HY : Hid (o = some (putD (datN ns) k i a)) := Lib.hid (HO.out.yes HA.out (.dd a) (by
      unfold putD
      have h1 := HA.out.split
      have h2 := congrArg List.length h1
      have h3 := HA.out.e.1
      simp only [flatT, List.length_append, List.length_singleton] at h2 ⊢
      omega))
    have HS := Lib.hid (sStart w B (some ⟨b0, off, none⟩) n c ns HX.out hn k i _ HA.out)
    have hs0 : (0 : Int) ≤ (i : Int) := by omega
    have hs1 : (i : Int) ≤ (k : Int) - 1 := by omega
    have hs2 : (k : Int) - 1 ≤ (c : Int) := by omega
    have hc1 : ¬ (c = i) := by omega
    have HMd : Hid (Nodes w w.heap.size (some ⟨b0, off + i * 6, none⟩) (k - 1 - i) ((ns.take (k - 1)).drop i)) := Lib.hid ((HX.out.more hB).mid (by omega) (by omega))
    clear hfl hin2
    go_enter Tryz.func30, Tryz.ntmps30
    go_wp2_with fail
    refine HS.out.mono ?_
    rintro e w0 ⟨rfl, rfl⟩
    go_wp2_with fail
    refine (sReplace w w.heap.size (some ⟨b0, off, none⟩) (some ⟨b0, off + i * 6, none⟩) n c (k - 1 - i) (c - i) ns _ (HX.out.more hB) HMd.out (Nat.le_refl _) hnc hc hn (by omega) HSh.out (fun x hx => HSh.out x (List.mem_of_mem_take (List.mem_of_mem_drop hx))) k i _ HA.out).mono ?_
    rintro e w1 ⟨v, zs, rfl, hd, hs, hown, hb⟩
    have HF := Lib.hid (RewOut.yes HO.out HY.out (hd.trans (by rw [HFl.out]; rfl)) hs hown hb)
    clear hd hs hown hb
    go_wp2
    go_ret2
    exact HF.out
  have f1 : (rule == 1) = false := by simpa using r1
  by_cases r2 : rule = 2
  · subst r2
    clear r1 f1
    have HNo : Hid (o = none) := Lib.hid (HO.out.no HA.out fun s' h => by cases h)
    go_enter Tryz.func30, Tryz.ntmps30
    go_wp2
    go_ret2
    exact .no HNo.out (Below.refl _ _)
  have f2 : (rule == 2) = false := by simpa using r2
  by_cases r3 : rule = 3
  · subst r3
    clear r1 f1 r2 f2
    have HNo : Hid (o = none) := Lib.hid (HO.out.no HA.out fun s' h => by cases h)
    go_enter Tryz.func30, Tryz.ntmps30
    go_wp2
    go_ret2
    exact .no HNo.out (Below.refl _ _)
  have f3 : (rule == 3) = false := by simpa using r3
  by_cases r4 : rule = 4
  · subst r4
    clear r1 f1 r2 f2 r3 f3
    have HNo : Hid (o = none) := Lib.hid (HO.out.no HA.out fun s' h => by cases h)
    go_enter Tryz.func30, Tryz.ntmps30
    go_wp2
    go_ret2
    exact .no HNo.out (Below.refl _ _)
  have f4 : (rule == 4) = false := by simpa using r4
  have HNo : Hid (o = none) := Lib.hid (HO.out.no HA.out fun s' h => by cases h <;> contradiction)
  clear r1 r2 r3 r4
  go_enter Tryz.func30, Tryz.ntmps30
  go_wp2
  go_ret2
  exact .no HNo.out (Below.refl _ _)
set_option maxRecDepth 20000 in
set_option maxHeartbeats 3200000 in
theorem sRule_dbin (w : World) (B : Nat) (A : Option Addr) (n c : Nat) (ns : List Nd) (rule : Int) (hi : Nodes w B A n ns) (hB : B ≤ w.heap.size) (hnc : n ≤ c) (hc : c ≤ 9223372036854775807) (hn : n ≤ 1048576) (hN : ShortN ns) (k i : Nat) (op : Int) (a b : Tr) (ha : At (datN ns) k i (.dual (.bin op a b))) (o : Option (List ND)) (ho : AppD (datN ns) rule (k : Nat) o) :
    Calls Tryz.prog 30 #[.slice A n c, .int .i64 rule, .int .i64 (k : Int)] w (RewOut o w) := by
  have HX := Lib.hid hi
  have HSh := Lib.hid hN
  have HO := Lib.hid ho
  have HA := Lib.hid ha
  have hkn : k < n := by have := ha.lt; rwa [datN_length, hi.len] at this
  have h9 : n ≤ 9 := by have := ha.e.1; rwa [datN_length, hi.len] at this
  have hik : i ≤ k := ha.le
  obtain ⟨b0, off, x0, hA, hb0, hat0, hwf0, c0, -, -, -, -, -⟩ := hi.at k hkn
  subst hA
  have hop0 : x0.op = 3 := by
    obtain ⟨nd, h1, h2⟩ := ha.opAt
    rw [datN_get hat0] at h1
    rw [← Option.some.inj h1] at h2
    exact h2
  rw [hop0] at c0
  obtain ⟨hk1, hin⟩ := ha.inner
  obtain ⟨b1, off1, x1, hA1, -, hat1, hwf1, d0, -, -, -, -, -⟩ := hi.at (k - 1) (by omega)
  injection hA1 with hA1
  injection hA1 with e1 e2
  subst e1 e2
  have hop1 : x1.op = op := by
    obtain ⟨nd, h1, h2⟩ := hin.opAt
    rw [datN_get hat1] at h1
    rw [← Option.some.inj h1] at h2
    exact h2
  rw [hop1] at d0
  have HIn := Lib.hid hin
  have hw1 : IntKind.i64.wrap ((k : Int) - 1) = (k : Int) - 1 := IntWalk.i64_in _ ⟨by omega, by omega⟩
  have hx0 : (0 : Int) ≤ (k : Int) - 1 := by omega
  have hx1 : (k : Int) - 1 < (n : Int) := by omega
  have hx2 : ((k : Int) - 1).toNat = k - 1 := by omega
  clear hin hat1 hwf1 hop1
  clear hi hN ho ha hat0 hwf0 hop0
  have hbin : Bin op := HA.out.ok.1
  have e0 : (op != 0) = true := by have := (bin_ne hbin).1; simpa using this
  have e3 : (op != 3) = true := by have := (bin_ne hbin).2; simpa using this
  have e3' : (op == 3) = false := by have := (bin_ne hbin).2; simpa using this
  have hopw : (Lit.int .i64 op).wf = true := by rcases hbin with rfl | rfl | rfl <;> decide
  clear hbin
  by_cases r1 : rule = 1
  · subst r1
    have HNo : Hid (o = none) := Lib.hid (HO.out.no HA.out fun s' h => by cases h)
    go_enter Tryz.func30, Tryz.ntmps30
    go_wp2
    go_ret2
    exact .no HNo.out (Below.refl _ _)
  have f1 : (rule == 1) = false := by simpa using r1
  by_cases r2 : rule = 2
  · subst r2
    clear r1 f1
    have hkk : ((k - 1 : Nat) : Int) = (k : Int) - 1 := by omega
    have HPt := Lib.hid (sParts w B (some ⟨b0, off, none⟩) n c ns HX.out hB hnc hc hn HSh.out (k - 1) _ _ a b HIn.out)
    rw [hkk] at HPt
    have HOpW := Lib.hid hopw
    have HDL : Hid (∀ W, Below w.heap.size w W → W.cell? ⟨b0, off + (k - 1) * 6, none⟩ = some (.int .i64 op)) := Lib.hid fun W h => (h.cell (p := ⟨b0, off + (k - 1) * 6, none⟩) (Nat.lt_of_lt_of_le hb0 hB)).trans d0
    clear hkk hopw
    go_enter Tryz.func30, Tryz.ntmps30
    go_wp2_with fail
    refine HPt.out.mono ?_
    rintro e w1 ⟨v1, v2, k1, k2, m, rfl, hd1, hd2, hs1, hs2, ho1, ho2, hm, htop, hb1⟩
    obtain ⟨A2, c2, rfl, -, -⟩ := ho2.r.shape
    have HO2 := Lib.hid ho2
    have HD1 := Lib.hid hd1
    have HD2 := Lib.hid hd2
    have HS1 := Lib.hid hs1
    have HS2 := Lib.hid hs2
    have HM := Lib.hid (And.intro hm htop)
    have HB1 := Lib.hid hb1
    have HSa1 := Lib.hid ho1.sh
    have hl : k1.length + k2.length ≤ 8 := by
      have l1 := congrArg List.length hd1
      have l2 := congrArg List.length hd2
      rw [datN_length] at l1 l2
      have h1 := HA.out.len9
      simp only [flatT, List.length_append, List.length_singleton] at h1
      omega
    have HL := Lib.hid hl
    obtain ⟨v3, w3, hr3, ho3, hg3, hat3⟩ := run_oneG nodeCells_len nodeCells_one (ty := 24) (c := 1) Tryz.underlying24 info_node rfl (by decide) (by decide) (bareN 3) (cs := #[.int .i64 3, .int .i64 0, .int .i64 0, .int .i64 0, .slice none 0 0, .slice none 0 0]) rfl ho1.r rfl (by omega) hb1.size
    have HSa3 := Lib.hid (HSa1.out.more hg3 hat3 (Nat.le_succ _) ho3 (fun x hx => by rw [List.mem_singleton.1 hx]; exact bare_o _ _ (by decide)) (fun x hx b h => by rw [List.mem_singleton.1 hx] at h; exact absurd h (bare_has 3 b)))
    have HB3 := Lib.hid (HB1.out.grown hg3 HB1.out.size (fun k hk => ho1.r.lows k hk))
    have HO2' : Hid (OwnN w3 m (.slice A2 k2.length c2) k2) := Lib.hid (ho2.blocks fun b hb => hg3.block b (ho2.has_in hb).2 fun e => by
      have q1 := htop b (.inl e.symm)
      have q2 := (ho2.has_in hb).1
      omega)
    have HT3 : Hid (∀ b, v3.ownBlock = some b → b < m ∨ w1.heap.size ≤ b) := Lib.hid fun b e => by
      rcases hat3 with q | q
      · exact .inl (htop b (.inl (q ▸ e)))
      · rw [q] at e
        have := Option.some.inj e
        exact .inr (by omega)
    obtain ⟨v4, w4, hr4, ho4, hg4, hat4⟩ := run_spreadG nodeCells_len nodeCells_one (ty := 24) (c := c2) Tryz.underlying24 info_node rfl (by decide) (by decide) ho3 HO2'.out.nodes.r (by rw [List.length_append, List.length_singleton]; omega) HB3.out.size
    have HSa4 := Lib.hid (HSa3.out.more hg4 hat4 (Nat.le_refl _) ho4 (fun x hx => by have h := HO2'.out.sh.x x hx; exact ⟨h.1, h.2.low hm⟩) (fun x hx b h e => by
      have q1 := (HO2'.out.sh.x x hx).2.has_in h
      have q2 : b < w1.heap.size := (HO2.out.sh.x x hx).2.has_in h |>.2
      rcases HT3.out b e with q | q <;> omega))
    have HB4 := Lib.hid (HB3.out.grown hg4 HB3.out.size (fun k hk => ho3.lows k hk))
    obtain ⟨v5, w5, hr5, ho5, hg5, hat5⟩ := run_listG nodeCells_len nodeCells_one (ty := 24) (c := 2) Tryz.underlying24 info_node rfl (by decide) (by decide) [bareN 3, bareN op] (m := 2) rfl (cs := #[.int .i64 3, .int .i64 0, .int .i64 0, .int .i64 0, .slice none 0 0, .slice none 0 0, .int .i64 op, .int .i64 0, .int .i64 0, .int .i64 0, .slice none 0 0, .slice none 0 0]) rfl ho4 rfl (by rw [List.length_append, List.length_append, List.length_singleton]; omega) HB4.out.size
    have HSa5 := Lib.hid (HSa4.out.more hg5 hat5 (Nat.le_succ _) ho5 (fun x hx => by
      rcases List.mem_cons.1 hx with e | hx
      · rw [e]; exact bare_o _ _ (by decide)
      · rw [List.mem_singleton.1 hx]; exact bare_o _ _ HOpW.out) (fun x hx b h => by
      rcases List.mem_cons.1 hx with e | hx
      · rw [e] at h; exact absurd h (bare_has 3 b)
      · rw [List.mem_singleton.1 hx] at h; exact absurd h (bare_has op b)))
    have HB5 := Lib.hid (HB4.out.grown hg5 HB4.out.size (fun k hk => ho4.lows k hk))
    obtain ⟨A5, c5, rfl, -, -⟩ := ho5.shape
    have HL5 : Hid ((k1 ++ [bareN 3] ++ k2 ++ [bareN 3, bareN op]).length ≤ 1048576) := Lib.hid (by simp only [List.length_append, List.length_cons, List.length_nil]; omega)
    have HS5 : Hid (ShortN (k1 ++ [bareN 3] ++ k2 ++ [bareN 3, bareN op])) := Lib.hid (short_app (short_app (short_app HS1.out (short_bare _)) HS2.out) (fun x hx => by
      rcases List.mem_cons.1 hx with e | hx
      · exact short_bare 3 x (by rw [e]; exact List.mem_singleton.2 rfl)
      · exact short_bare op x hx))
    have HDD : Hid (datN (k1 ++ [bareN 3] ++ k2 ++ [bareN 3, bareN op]) = flatT (.bin op (.dual a) (.dual b))) := Lib.hid (by
      rw [datN_app, datN_app, datN_app, HD1.out, HD2.out]
      show flatT a ++ [⟨3, zeroWD⟩] ++ flatT b ++ [⟨3, zeroWD⟩, ⟨op, zeroWD⟩] = _
      simp [flatT])
    have d0' := HDL.out _ HB4.out
    clear hd1 hd2 hs1 hs2 ho1 ho2 hm htop hb1 hl ho3 hg3 hat3 ho4 hg4 hat4 hg5 hat5 ho5 d0 c0
    generalize hK : k1 ++ [bareN 3] ++ k2 ++ [bareN 3, bareN op] = K at *
    obtain ⟨nK, hnK⟩ : ∃ nK, K.length = nK := ⟨_, rfl⟩
    rw [hnK] at hr5 HSa5 HL5
    clear hK hnK
    go_wp2_with (at_builtin; first | (refine Go.Lib.wpList_append_run_sl _ (by rfl) (.tmp 76) (.tmp 78) 24 (by rfl) _ _ (by rfl) (by rfl) hr3 ?_) | (refine Go.Lib.wpList_append_run_sl _ (by rfl) (.tmp 80) (.tmp 81) 24 (by rfl) _ _ (by rfl) (by rfl) hr4 ?_) | (refine Go.Lib.wpList_append_run_sl _ (by rfl) (.tmp 83) (.tmp 92) 24 (by rfl) _ _ (by rfl) (by rfl) hr5 ?_))
    clear hr3 hr4 hr5 d0'
    go_wp2_with fail
    refine (sReplace w5 w5.heap.size (some ⟨b0, off, none⟩) A5 n c nK c5 ns K ((HX.out.below (HB5.out.mono hB)).more (Nat.le_trans hB HB5.out.size)) HSa5.out.nodes (Nat.le_refl _) hnc hc hn HL5.out HSh.out HS5.out k i _ HA.out).mono ?_
    rintro e w6 ⟨v, zs, rfl, hd, hs, hown, hb⟩
    obtain ⟨A6, c6, rfl, -, -⟩ := hown.r.shape
    obtain ⟨nz, hnz⟩ : ∃ nz, zs.length = nz := ⟨_, rfl⟩
    have hd' : datN zs = putD (datN ns) k i (.bin op (.dual a) (.dual b)) := hd.trans (by rw [HDD.out]; rfl)
    have hpl : (putD (datN ns) k i (.bin op (.dual a) (.dual b))).length = nz := by rw [← hd', datN_length, hnz]
    have HB6 := Lib.hid (below_on HB5.out hb)
    rw [hnz]
    rw [hnz] at hown
    by_cases h9z : nz ≤ 9
    · have HF := Lib.hid (RewOut.yes HO.out (HO.out.yes HA.out (.push _ _ _) (by omega)) hd' hs hown HB6.out)
      have hdc : (nz : Int) ≤ 9 := by omega
      clear hd hs hown hb hd' hpl hnz
      go_wp2
      go_ret2
      exact HF.out
    · have HNo : Hid (o = none) := Lib.hid (HO.out.big HA.out (.push _ _ _) (by omega))
      have hdc : decide ((nz : Int) ≤ 9) = false := by simp; omega
      clear hd hs hown hb hd' hpl hnz
      go_wp2
      go_ret2
      exact .no HNo.out HB6.out
  have f2 : (rule == 2) = false := by simpa using r2
  by_cases r3 : rule = 3
  · subst r3
    clear r1 f1 r2 f2
    have HNo : Hid (o = none) := Lib.hid (HO.out.no HA.out fun s' h => by cases h)
    go_enter Tryz.func30, Tryz.ntmps30
    go_wp2
    go_ret2
    exact .no HNo.out (Below.refl _ _)
  have f3 : (rule == 3) = false := by simpa using r3
  by_cases r4 : rule = 4
  · subst r4
    clear r1 f1 r2 f2 r3 f3
    have HNo : Hid (o = none) := Lib.hid (HO.out.no HA.out fun s' h => by cases h)
    go_enter Tryz.func30, Tryz.ntmps30
    go_wp2
    go_ret2
    exact .no HNo.out (Below.refl _ _)
  have f4 : (rule == 4) = false := by simpa using r4
  have HNo : Hid (o = none) := Lib.hid (HO.out.no HA.out fun s' h => by cases h <;> contradiction)
  clear r1 r2 r3 r4
  go_enter Tryz.func30, Tryz.ntmps30
  go_wp2
  go_ret2
  exact .no HNo.out (Below.refl _ _)
set_option maxRecDepth 20000 in
set_option maxHeartbeats 3200000 in
theorem sRule_bin (w : World) (B : Nat) (A : Option Addr) (n c : Nat) (ns : List Nd) (rule : Int) (hi : Nodes w B A n ns) (hB : B ≤ w.heap.size) (hnc : n ≤ c) (hc : c ≤ 9223372036854775807) (hn : n ≤ 1048576) (hN : ShortN ns) (k i : Nat) (op : Int) (a b : Tr) (ha : At (datN ns) k i (.bin op a b)) (o : Option (List ND)) (ho : AppD (datN ns) rule (k : Nat) o) :
    Calls Tryz.prog 30 #[.slice A n c, .int .i64 rule, .int .i64 (k : Int)] w (RewOut o w) := by
  have HX := Lib.hid hi
  have HSh := Lib.hid hN
  have HO := Lib.hid ho
  have HA := Lib.hid ha
  have hkn : k < n := by have := ha.lt; rwa [datN_length, hi.len] at this
  have h9 : n ≤ 9 := by have := ha.e.1; rwa [datN_length, hi.len] at this
  have hik : i ≤ k := ha.le
  obtain ⟨b0, off, x0, hA, hb0, hat0, hwf0, c0, -, -, -, -, -⟩ := hi.at k hkn
  subst hA
  have hop0 : x0.op = op := by
    obtain ⟨nd, h1, h2⟩ := ha.opAt
    rw [datN_get hat0] at h1
    rw [← Option.some.inj h1] at h2
    exact h2
  rw [hop0] at c0
  clear hi hN ho ha hat0 hwf0 hop0
  have hbin : Bin op := HA.out.ok.1
  have HBin := Lib.hid hbin
  have e3 : (op == 3) = false := by have := (bin_ne hbin).2; simpa using this
  clear hbin
  by_cases r1 : rule = 1
  · subst r1
    clear HBin
    have HNo : Hid (o = none) := Lib.hid (HO.out.no HA.out fun s' h => by cases h)
    go_enter Tryz.func30, Tryz.ntmps30
    go_wp2
    go_ret2
    exact .no HNo.out (Below.refl _ _)
  have f1 : (rule == 1) = false := by simpa using r1
  by_cases r2 : rule = 2
  · subst r2
    clear r1 f1
    clear HBin
    have HNo : Hid (o = none) := Lib.hid (HO.out.no HA.out fun s' h => by cases h)
    go_enter Tryz.func30, Tryz.ntmps30
    go_wp2
    go_ret2
    exact .no HNo.out (Below.refl _ _)
  have f2 : (rule == 2) = false := by simpa using r2
  by_cases r3 : rule = 3
  · subst r3
    clear r1 f1 r2 f2
    obtain ⟨z, hz⟩ := bool_of (a = b)
    have HZ := Lib.hid hz
    clear hz
    have HPt := Lib.hid (sParts w B (some ⟨b0, off, none⟩) n c ns HX.out hB hnc hc hn HSh.out k _ _ a b HA.out)
    rcases HBin.out with e | e | e
    · subst e
      clear e3 HBin
      go_enter Tryz.func30, Tryz.ntmps30
      go_wp2_with fail
      refine HPt.out.mono ?_
      rintro e w1 ⟨v1, v2, k1, k2, m, rfl, hd1, hd2, hs1, hs2, ho1, ho2, hm, htop, hb1⟩
      obtain ⟨A1, c1, rfl, -, -⟩ := ho1.r.shape
      obtain ⟨A2, c2, rfl, -, -⟩ := ho2.r.shape
      have HO1 := Lib.hid ho1
      have HO2 := Lib.hid ho2
      have HD1 := Lib.hid hd1
      have HD2 := Lib.hid hd2
      have HS1 := Lib.hid hs1
      have HB1 := Lib.hid hb1
      have hl : k1.length + k2.length ≤ 8 := by
        have l1 := congrArg List.length hd1
        have l2 := congrArg List.length hd2
        rw [datN_length] at l1 l2
        have h1 := HA.out.len9
        simp only [flatT, List.length_append, List.length_singleton] at h1
        omega
      obtain ⟨n1, hn1⟩ : ∃ n1, k1.length = n1 := ⟨_, rfl⟩
      obtain ⟨n2, hn2⟩ : ∃ n2, k2.length = n2 := ⟨_, rfl⟩
      rw [hn1] at hl HO1 ⊢
      rw [hn2] at hl HO2 ⊢
      clear hd1 hd2 hs1 hs2 ho1 ho2 hm htop hb1 hn1 hn2
      go_wp2_with fail
      refine (sReplace w1 w1.heap.size (some ⟨b0, off, none⟩) A1 n c n1 c1 ns k1 ((HX.out.below (HB1.out.mono hB)).more (Nat.le_trans hB HB1.out.size)) HO1.out.nodes (Nat.le_refl _) hnc hc hn (by omega) HSh.out HS1.out k i _ HA.out).mono ?_
      rintro e w2 ⟨v, zs, rfl, hd, hs, hown, hb⟩
      obtain ⟨A3, c3, rfl, -, -⟩ := hown.r.shape
      have HO1' := Lib.hid (HO1.out.below hb)
      have HO2' := Lib.hid (HO2.out.below hb)
      have HB2 := Lib.hid (below_on HB1.out hb)
      have HD := Lib.hid hd
      have HS := Lib.hid hs
      have HOw := Lib.hid hown
      obtain ⟨nz, hnz⟩ : ∃ nz, zs.length = nz := ⟨_, rfl⟩
      rw [hnz] at HOw ⊢
      clear hd hs hown hb hnz
      go_wp2_with fail
      refine (sEqE w2 w2.heap.size A1 A2 n1 n2 c1 c2 k1 k2 HO1'.out.nodes HO2'.out.nodes (Nat.le_refl _) (by omega) HS1.out z (by rw [HD1.out, HD2.out, HZ.out]; exact ⟨fun h => by rw [h], fun h => flat_inj HA.out.ok.2.1 HA.out.ok.2.2 h⟩)).mono ?_
      rintro e w3 ⟨rfl, hb3⟩
      have HB3 := Lib.hid (below_on HB2.out hb3)
      have HOw3 := Lib.hid (HOw.out.below hb3)
      clear hb3
      cases z
      · have HNo : Hid (o = none) := Lib.hid (HO.out.no HA.out fun s' h => by cases h; have := HZ.out.2 rfl; cases this)
        go_wp2
        go_ret2
        exact .no HNo.out HB3.out
      · have HF := Lib.hid (RewOut.yes HO.out (HO.out.yes (s' := a) HA.out (by have h := HZ.out.1 (by first | rfl | trivial); rw [← h]; exact .idem _ _) (by
          unfold putD
          have h1 := HA.out.split
          have h2 := congrArg List.length h1
          have h3 := HA.out.e.1
          simp only [flatT, List.length_append, List.length_singleton] at h2 ⊢
          omega)) (HD.out.trans (by rw [HD1.out]; rfl)) HS.out HOw3.out HB3.out)
        go_wp2
        go_ret2
        exact HF.out
    · subst e
      clear e3 HBin
      go_enter Tryz.func30, Tryz.ntmps30
      go_wp2_with fail
      refine HPt.out.mono ?_
      rintro e w1 ⟨v1, v2, k1, k2, m, rfl, hd1, hd2, hs1, hs2, ho1, ho2, hm, htop, hb1⟩
      obtain ⟨A1, c1, rfl, -, -⟩ := ho1.r.shape
      obtain ⟨A2, c2, rfl, -, -⟩ := ho2.r.shape
      have HO1 := Lib.hid ho1
      have HO2 := Lib.hid ho2
      have HD1 := Lib.hid hd1
      have HD2 := Lib.hid hd2
      have HS1 := Lib.hid hs1
      have HB1 := Lib.hid hb1
      have hl : k1.length + k2.length ≤ 8 := by
        have l1 := congrArg List.length hd1
        have l2 := congrArg List.length hd2
        rw [datN_length] at l1 l2
        have h1 := HA.out.len9
        simp only [flatT, List.length_append, List.length_singleton] at h1
        omega
      obtain ⟨n1, hn1⟩ : ∃ n1, k1.length = n1 := ⟨_, rfl⟩
      obtain ⟨n2, hn2⟩ : ∃ n2, k2.length = n2 := ⟨_, rfl⟩
      rw [hn1] at hl HO1 ⊢
      rw [hn2] at hl HO2 ⊢
      clear hd1 hd2 hs1 hs2 ho1 ho2 hm htop hb1 hn1 hn2
      go_wp2_with fail
      refine (sReplace w1 w1.heap.size (some ⟨b0, off, none⟩) A1 n c n1 c1 ns k1 ((HX.out.below (HB1.out.mono hB)).more (Nat.le_trans hB HB1.out.size)) HO1.out.nodes (Nat.le_refl _) hnc hc hn (by omega) HSh.out HS1.out k i _ HA.out).mono ?_
      rintro e w2 ⟨v, zs, rfl, hd, hs, hown, hb⟩
      obtain ⟨A3, c3, rfl, -, -⟩ := hown.r.shape
      have HO1' := Lib.hid (HO1.out.below hb)
      have HO2' := Lib.hid (HO2.out.below hb)
      have HB2 := Lib.hid (below_on HB1.out hb)
      have HD := Lib.hid hd
      have HS := Lib.hid hs
      have HOw := Lib.hid hown
      obtain ⟨nz, hnz⟩ : ∃ nz, zs.length = nz := ⟨_, rfl⟩
      rw [hnz] at HOw ⊢
      clear hd hs hown hb hnz
      go_wp2_with fail
      refine (sEqE w2 w2.heap.size A1 A2 n1 n2 c1 c2 k1 k2 HO1'.out.nodes HO2'.out.nodes (Nat.le_refl _) (by omega) HS1.out z (by rw [HD1.out, HD2.out, HZ.out]; exact ⟨fun h => by rw [h], fun h => flat_inj HA.out.ok.2.1 HA.out.ok.2.2 h⟩)).mono ?_
      rintro e w3 ⟨rfl, hb3⟩
      have HB3 := Lib.hid (below_on HB2.out hb3)
      have HOw3 := Lib.hid (HOw.out.below hb3)
      clear hb3
      cases z
      · have HNo : Hid (o = none) := Lib.hid (HO.out.no HA.out fun s' h => by cases h; have := HZ.out.2 rfl; cases this)
        go_wp2
        go_ret2
        exact .no HNo.out HB3.out
      · have HF := Lib.hid (RewOut.yes HO.out (HO.out.yes (s' := a) HA.out (by have h := HZ.out.1 (by first | rfl | trivial); rw [← h]; exact .idem _ _) (by
          unfold putD
          have h1 := HA.out.split
          have h2 := congrArg List.length h1
          have h3 := HA.out.e.1
          simp only [flatT, List.length_append, List.length_singleton] at h2 ⊢
          omega)) (HD.out.trans (by rw [HD1.out]; rfl)) HS.out HOw3.out HB3.out)
        go_wp2
        go_ret2
        exact HF.out
    · subst e
      clear e3 HBin
      go_enter Tryz.func30, Tryz.ntmps30
      go_wp2_with fail
      refine HPt.out.mono ?_
      rintro e w1 ⟨v1, v2, k1, k2, m, rfl, hd1, hd2, hs1, hs2, ho1, ho2, hm, htop, hb1⟩
      obtain ⟨A1, c1, rfl, -, -⟩ := ho1.r.shape
      obtain ⟨A2, c2, rfl, -, -⟩ := ho2.r.shape
      have HO1 := Lib.hid ho1
      have HO2 := Lib.hid ho2
      have HD1 := Lib.hid hd1
      have HD2 := Lib.hid hd2
      have HS1 := Lib.hid hs1
      have HB1 := Lib.hid hb1
      have hl : k1.length + k2.length ≤ 8 := by
        have l1 := congrArg List.length hd1
        have l2 := congrArg List.length hd2
        rw [datN_length] at l1 l2
        have h1 := HA.out.len9
        simp only [flatT, List.length_append, List.length_singleton] at h1
        omega
      obtain ⟨n1, hn1⟩ : ∃ n1, k1.length = n1 := ⟨_, rfl⟩
      obtain ⟨n2, hn2⟩ : ∃ n2, k2.length = n2 := ⟨_, rfl⟩
      rw [hn1] at hl HO1 ⊢
      rw [hn2] at hl HO2 ⊢
      clear hd1 hd2 hs1 hs2 ho1 ho2 hm htop hb1 hn1 hn2
      go_wp2_with fail
      refine (sReplace w1 w1.heap.size (some ⟨b0, off, none⟩) A1 n c n1 c1 ns k1 ((HX.out.below (HB1.out.mono hB)).more (Nat.le_trans hB HB1.out.size)) HO1.out.nodes (Nat.le_refl _) hnc hc hn (by omega) HSh.out HS1.out k i _ HA.out).mono ?_
      rintro e w2 ⟨v, zs, rfl, hd, hs, hown, hb⟩
      obtain ⟨A3, c3, rfl, -, -⟩ := hown.r.shape
      have HO1' := Lib.hid (HO1.out.below hb)
      have HO2' := Lib.hid (HO2.out.below hb)
      have HB2 := Lib.hid (below_on HB1.out hb)
      have HD := Lib.hid hd
      have HS := Lib.hid hs
      have HOw := Lib.hid hown
      obtain ⟨nz, hnz⟩ : ∃ nz, zs.length = nz := ⟨_, rfl⟩
      rw [hnz] at HOw ⊢
      clear hd hs hown hb hnz
      go_wp2_with fail
      refine (sEqE w2 w2.heap.size A1 A2 n1 n2 c1 c2 k1 k2 HO1'.out.nodes HO2'.out.nodes (Nat.le_refl _) (by omega) HS1.out z (by rw [HD1.out, HD2.out, HZ.out]; exact ⟨fun h => by rw [h], fun h => flat_inj HA.out.ok.2.1 HA.out.ok.2.2 h⟩)).mono ?_
      rintro e w3 ⟨rfl, hb3⟩
      have HB3 := Lib.hid (below_on HB2.out hb3)
      have HOw3 := Lib.hid (HOw.out.below hb3)
      clear hb3
      cases z
      · have HNo : Hid (o = none) := Lib.hid (HO.out.no HA.out fun s' h => by cases h; have := HZ.out.2 rfl; cases this)
        go_wp2
        go_ret2
        exact .no HNo.out HB3.out
      · have HF := Lib.hid (RewOut.yes HO.out (HO.out.yes (s' := a) HA.out (by have h := HZ.out.1 (by first | rfl | trivial); rw [← h]; exact .idem _ _) (by
          unfold putD
          have h1 := HA.out.split
          have h2 := congrArg List.length h1
          have h3 := HA.out.e.1
          simp only [flatT, List.length_append, List.length_singleton] at h2 ⊢
          omega)) (HD.out.trans (by rw [HD1.out]; rfl)) HS.out HOw3.out HB3.out)
        go_wp2
        go_ret2
        exact HF.out
  have f3 : (rule == 3) = false := by simpa using r3
  by_cases r4 : rule = 4
  · subst r4
    clear r1 f1 r2 f2 r3 f3
    rcases HBin.out with e | e | e
    · subst e
      clear e3 HBin
      have HPt := Lib.hid (sParts w B (some ⟨b0, off, none⟩) n c ns HX.out hB hnc hc hn HSh.out k _ _ a b HA.out)
      go_enter Tryz.func30, Tryz.ntmps30
      go_wp2_with fail
      refine HPt.out.mono ?_
      rintro e w1 ⟨v1, v2, k1, k2, m, rfl, hd1, hd2, hs1, hs2, ho1, ho2, hm, htop, hb1⟩
      obtain ⟨A1, c1, rfl, -, -⟩ := ho1.r.shape
      have HD1 := Lib.hid hd1
      have HD2 := Lib.hid hd2
      have HS1 := Lib.hid hs1
      have HS2 := Lib.hid hs2
      have HB1 := Lib.hid hb1
      have HSa2 := Lib.hid (ho2.low hm).sh
      have hl : k1.length + k2.length ≤ 8 := by
        have l1 := congrArg List.length hd1
        have l2 := congrArg List.length hd2
        rw [datN_length] at l1 l2
        have h1 := HA.out.len9
        simp only [flatT, List.length_append, List.length_singleton] at h1
        omega
      obtain ⟨v3, w3, hr3, ho3, hg3, hat3⟩ := run_spreadG nodeCells_len nodeCells_one (ty := 24) (c := c1) Tryz.underlying24 info_node rfl (by decide) (by decide) HSa2.out.r ho1.nodes.r (by omega) hb1.size
      have HSa3 := Lib.hid (HSa2.out.more hg3 hat3 (Nat.le_refl _) ho3 (fun x hx => ho1.sh.x x hx) (fun x hx b h e => by
        have q1 := htop b (.inr ⟨x, hx, h⟩)
        have q2 := ho2.r.lows b e
        omega))
      have HB3 := Lib.hid (HB1.out.grown hg3 HB1.out.size (fun k hk => HSa2.out.r.lows k hk))
      obtain ⟨v4, w4, hr4, ho4, hg4, hat4⟩ := run_oneG nodeCells_len nodeCells_one (ty := 24) (c := 1) Tryz.underlying24 info_node rfl (by decide) (by decide) (bareN 1) (cs := #[.int .i64 1, .int .i64 0, .int .i64 0, .int .i64 0, .slice none 0 0, .slice none 0 0]) rfl ho3 rfl (by rw [List.length_append]; omega) HB3.out.size
      have HSa4 := Lib.hid (HSa3.out.more hg4 hat4 (Nat.le_succ _) ho4 (fun x hx => by rw [List.mem_singleton.1 hx]; exact bare_o _ _ (by decide)) (fun x hx b h => by rw [List.mem_singleton.1 hx] at h; exact absurd h (bare_has 1 b)))
      have HB4 := Lib.hid (HB3.out.grown hg4 HB3.out.size (fun k hk => ho3.lows k hk))
      obtain ⟨A4, c4, rfl, -, -⟩ := ho4.shape
      have HL4 : Hid ((k2 ++ k1 ++ [bareN 1]).length ≤ 1048576) := Lib.hid (by simp only [List.length_append, List.length_cons, List.length_nil]; omega)
      have HS4 : Hid (ShortN (k2 ++ k1 ++ [bareN 1])) := Lib.hid (short_app (short_app HS2.out HS1.out) (short_bare _))
      have HDD : Hid (datN (k2 ++ k1 ++ [bareN 1]) = flatT (.bin 1 b a)) := Lib.hid (by rw [datN_app, datN_app, HD1.out, HD2.out]; rfl)
      clear hd1 hd2 hs1 hs2 ho1 ho2 hm htop hb1 hl ho3 hg3 hat3 hg4 hat4 ho4
      generalize hK : k2 ++ k1 ++ [bareN 1] = K at *
      obtain ⟨nK, hnK⟩ : ∃ nK, K.length = nK := ⟨_, rfl⟩
      rw [hnK] at hr4 HSa4 HL4
      clear hK hnK
      go_wp2_with (at_builtin; first | (refine Go.Lib.wpList_append_run_sl _ (by rfl) (.tmp 141) (.tmp 142) 24 (by rfl) _ _ (by rfl) (by rfl) hr3 ?_) | (refine Go.Lib.wpList_append_run_sl _ (by rfl) (.tmp 146) (.tmp 149) 24 (by rfl) _ _ (by rfl) (by rfl) hr4 ?_))
      clear hr3 hr4
      go_wp2_with fail
      refine (sReplace w4 w4.heap.size (some ⟨b0, off, none⟩) A4 n c nK c4 ns K ((HX.out.below (HB4.out.mono hB)).more (Nat.le_trans hB HB4.out.size)) HSa4.out.nodes (Nat.le_refl _) hnc hc hn HL4.out HSh.out HS4.out k i _ HA.out).mono ?_
      rintro e w5 ⟨v, zs, rfl, hd, hs, hown, hb⟩
      have HF := Lib.hid (RewOut.yes HO.out (HO.out.yes HA.out (.comm _ _ _ (by decide)) (by
        unfold putD
        have h1 := HA.out.split
        have h2 := congrArg List.length h1
        have h3 := HA.out.e.1
        simp only [flatT, List.length_append, List.length_singleton] at h2 ⊢
        omega)) (hd.trans (by rw [HDD.out]; rfl)) hs hown (below_on HB4.out hb))
      clear hd hs hown hb
      go_wp2
      go_ret2
      exact HF.out
    · subst e
      clear e3 HBin
      have HNo : Hid (o = none) := Lib.hid (HO.out.no HA.out fun s' h => by cases h; exact absurd rfl (by assumption))
      go_enter Tryz.func30, Tryz.ntmps30
      go_wp2
      go_ret2
      exact .no HNo.out (Below.refl _ _)
    · subst e
      clear e3 HBin
      have HPt := Lib.hid (sParts w B (some ⟨b0, off, none⟩) n c ns HX.out hB hnc hc hn HSh.out k _ _ a b HA.out)
      go_enter Tryz.func30, Tryz.ntmps30
      go_wp2_with fail
      refine HPt.out.mono ?_
      rintro e w1 ⟨v1, v2, k1, k2, m, rfl, hd1, hd2, hs1, hs2, ho1, ho2, hm, htop, hb1⟩
      obtain ⟨A1, c1, rfl, -, -⟩ := ho1.r.shape
      have HD1 := Lib.hid hd1
      have HD2 := Lib.hid hd2
      have HS1 := Lib.hid hs1
      have HS2 := Lib.hid hs2
      have HB1 := Lib.hid hb1
      have HSa2 := Lib.hid (ho2.low hm).sh
      have hl : k1.length + k2.length ≤ 8 := by
        have l1 := congrArg List.length hd1
        have l2 := congrArg List.length hd2
        rw [datN_length] at l1 l2
        have h1 := HA.out.len9
        simp only [flatT, List.length_append, List.length_singleton] at h1
        omega
      obtain ⟨v3, w3, hr3, ho3, hg3, hat3⟩ := run_spreadG nodeCells_len nodeCells_one (ty := 24) (c := c1) Tryz.underlying24 info_node rfl (by decide) (by decide) HSa2.out.r ho1.nodes.r (by omega) hb1.size
      have HSa3 := Lib.hid (HSa2.out.more hg3 hat3 (Nat.le_refl _) ho3 (fun x hx => ho1.sh.x x hx) (fun x hx b h e => by
        have q1 := htop b (.inr ⟨x, hx, h⟩)
        have q2 := ho2.r.lows b e
        omega))
      have HB3 := Lib.hid (HB1.out.grown hg3 HB1.out.size (fun k hk => HSa2.out.r.lows k hk))
      obtain ⟨v4, w4, hr4, ho4, hg4, hat4⟩ := run_oneG nodeCells_len nodeCells_one (ty := 24) (c := 1) Tryz.underlying24 info_node rfl (by decide) (by decide) (bareN 4) (cs := #[.int .i64 4, .int .i64 0, .int .i64 0, .int .i64 0, .slice none 0 0, .slice none 0 0]) rfl ho3 rfl (by rw [List.length_append]; omega) HB3.out.size
      have HSa4 := Lib.hid (HSa3.out.more hg4 hat4 (Nat.le_succ _) ho4 (fun x hx => by rw [List.mem_singleton.1 hx]; exact bare_o _ _ (by decide)) (fun x hx b h => by rw [List.mem_singleton.1 hx] at h; exact absurd h (bare_has 4 b)))
      have HB4 := Lib.hid (HB3.out.grown hg4 HB3.out.size (fun k hk => ho3.lows k hk))
      obtain ⟨A4, c4, rfl, -, -⟩ := ho4.shape
      have HL4 : Hid ((k2 ++ k1 ++ [bareN 4]).length ≤ 1048576) := Lib.hid (by simp only [List.length_append, List.length_cons, List.length_nil]; omega)
      have HS4 : Hid (ShortN (k2 ++ k1 ++ [bareN 4])) := Lib.hid (short_app (short_app HS2.out HS1.out) (short_bare _))
      have HDD : Hid (datN (k2 ++ k1 ++ [bareN 4]) = flatT (.bin 4 b a)) := Lib.hid (by rw [datN_app, datN_app, HD1.out, HD2.out]; rfl)
      clear hd1 hd2 hs1 hs2 ho1 ho2 hm htop hb1 hl ho3 hg3 hat3 hg4 hat4 ho4
      generalize hK : k2 ++ k1 ++ [bareN 4] = K at *
      obtain ⟨nK, hnK⟩ : ∃ nK, K.length = nK := ⟨_, rfl⟩
      rw [hnK] at hr4 HSa4 HL4
      clear hK hnK
      go_wp2_with (at_builtin; first | (refine Go.Lib.wpList_append_run_sl _ (by rfl) (.tmp 141) (.tmp 142) 24 (by rfl) _ _ (by rfl) (by rfl) hr3 ?_) | (refine Go.Lib.wpList_append_run_sl _ (by rfl) (.tmp 146) (.tmp 149) 24 (by rfl) _ _ (by rfl) (by rfl) hr4 ?_))
      clear hr3 hr4
      go_wp2_with fail
      refine (sReplace w4 w4.heap.size (some ⟨b0, off, none⟩) A4 n c nK c4 ns K ((HX.out.below (HB4.out.mono hB)).more (Nat.le_trans hB HB4.out.size)) HSa4.out.nodes (Nat.le_refl _) hnc hc hn HL4.out HSh.out HS4.out k i _ HA.out).mono ?_
      rintro e w5 ⟨v, zs, rfl, hd, hs, hown, hb⟩
      have HF := Lib.hid (RewOut.yes HO.out (HO.out.yes HA.out (.comm _ _ _ (by decide)) (by
        unfold putD
        have h1 := HA.out.split
        have h2 := congrArg List.length h1
        have h3 := HA.out.e.1
        simp only [flatT, List.length_append, List.length_singleton] at h2 ⊢
        omega)) (hd.trans (by rw [HDD.out]; rfl)) hs hown (below_on HB4.out hb))
      clear hd hs hown hb
      go_wp2
      go_ret2
      exact HF.out
  have f4 : (rule == 4) = false := by simpa using r4
  clear HBin
  have HNo : Hid (o = none) := Lib.hid (HO.out.no HA.out fun s' h => by cases h <;> contradiction)
  clear r1 r2 r3 r4
  go_enter Tryz.func30, Tryz.ntmps30
  go_wp2
  go_ret2
  exact .no HNo.out (Below.refl _ _)
theorem sRule (w : World) (B : Nat) (A : Option Addr) (n c : Nat) (ns : List Nd) (rule : Int) (hi : Nodes w B A n ns) (hB : B ≤ w.heap.size) (hnc : n ≤ c) (hc : c ≤ 9223372036854775807) (hn : n ≤ 1048576) (hN : ShortN ns) (k i : Nat) (s : Tr) (ha : At (datN ns) k i s) (o : Option (List ND)) (ho : AppD (datN ns) rule (k : Nat) o) :
    Calls Tryz.prog 30 #[.slice A n c, .int .i64 rule, .int .i64 (k : Int)] w (RewOut o w) := by
  cases s with
  | base d => exact sRule_base w B A n c ns rule hi hB hnc hc hn hN k i d ha o ho
  | dual a =>
    cases a with
    | base d => exact sRule_dbase w B A n c ns rule hi hB hnc hc hn hN k i d ha o ho
    | dual a => exact sRule_ddual w B A n c ns rule hi hB hnc hc hn hN k i a ha o ho
    | bin op a b => exact sRule_dbin w B A n c ns rule hi hB hnc hc hn hN k i op a b ha o ho
  | bin op a b => exact sRule_bin w B A n c ns rule hi hB hnc hc hn hN k i op a b ha o ho
set_option maxRecDepth 20000 in
set_option maxHeartbeats 1600000 in
theorem sApply (w : World) (B : Nat) (A : Option Addr) (n c : Nat) (ns : List Nd) (rule pos : Int) (hi : Nodes w B A n ns) (hB : B ≤ w.heap.size) (hnc : n ≤ c) (hc : c ≤ 9223372036854775807) (hn : n ≤ 1048576) (hN : ShortN ns) (o : Option (List ND)) (ho : AppD (datN ns) rule pos o) :
    Calls Tryz.prog 7 #[.slice A n c, .int .i64 rule, .int .i64 pos] w fun e w' => ∃ v ns', e = .returned (.tuple #[v, .bool o.isSome]) ∧ datN ns' = o.getD (datN ns) ∧ ShortN ns' ∧ OwnN w' w.heap.size v ns' ∧ Below w.heap.size w w' := by
  obtain ⟨q, hq⟩ := bool_of (IsE (datN ns))
  have hlen : (datN ns).length = n := by rw [datN_length, hi.len]
  have HC : Hid (∀ w1, Below w.heap.size w w1 → Calls Tryz.prog 15 #[.slice A n c] w1 fun e w' => e = .returned (.bool q) ∧ Below w1.heap.size w1 w') := Lib.hid fun w1 h => sIsE w1 B A n c ns (hi.below (h.mono hB)) (Nat.le_trans hB h.size) hn hN q hq
  have HX := Lib.hid hi
  have HSh := Lib.hid hN
  have HQ := Lib.hid hq
  have HO := Lib.hid ho
  have HLen := Lib.hid hlen
  have hw1 : IntKind.i64.wrap ((n : Int) - 1) = (n : Int) - 1 := IntWalk.i64_in _ ⟨by omega, by omega⟩
  clear hi hN hq ho hlen
  go_enter Tryz.func7, Tryz.ntmps7
  go_wp2_with fail
  refine (HC.out _ (Below.refl _ _)).mono ?_
  rintro e w1 ⟨rfl, hb1⟩
  have HB1 := Lib.hid hb1
  have HCp := Lib.hid (sCopyN_c w1 B A n c ns (HX.out.below (hb1.mono hB)) (Nat.le_trans hB hb1.size) hn HSh.out)
  clear hb1
  cases q
  · obtain rfl := HO.out.out fun h => by have := HQ.out.2 h.1; cases this
    go_wp2_with fail
    refine HCp.out.mono ?_
    rintro e w2 ⟨v, k2, rfl, hd2, hs2, ho2, hb2⟩
    have HG := Lib.hid (And.intro hd2 (And.intro hs2 (And.intro (ho2.low HB1.out.size) (below_on HB1.out hb2))))
    clear hd2 hs2 ho2 hb2
    go_wp2
    go_ret2
    exact ⟨_, _, rfl, HG.out.1, HG.out.2.1, HG.out.2.2.1, HG.out.2.2.2⟩
  obtain ⟨z, hz⟩ := bool_of (0 ≤ pos ∧ pos ≤ (n : Int) - 1)
  have HZ := Lib.hid hz
  have HIn := Lib.hid (in_any pos 0 ((n : Int) - 1) z hz w1)
  clear hz
  go_wp2_with fail
  refine HIn.out.mono ?_
  rintro e w2 ⟨rfl, rfl⟩
  cases z
  · obtain rfl := HO.out.out fun h => by
      have h1 := h.2.2
      rw [HLen.out] at h1
      have := HZ.out.2 ⟨h.2.1, by omega⟩
      cases this
    go_wp2_with fail
    refine HCp.out.mono ?_
    rintro e w2 ⟨v, k2, rfl, hd2, hs2, ho2, hb2⟩
    have HG := Lib.hid (And.intro hd2 (And.intro hs2 (And.intro (ho2.low HB1.out.size) (below_on HB1.out hb2))))
    clear hd2 hs2 ho2 hb2
    go_wp2
    go_ret2
    exact ⟨_, _, rfl, HG.out.1, HG.out.2.1, HG.out.2.2.1, HG.out.2.2.2⟩
  obtain ⟨hp0, hp1⟩ := HZ.out.1 (by first | rfl | trivial)
  obtain ⟨k, rfl⟩ : ∃ k : Nat, pos = (k : Int) := ⟨pos.toNat, by omega⟩
  obtain ⟨i, s, ha⟩ := At.ex (HQ.out.1 (by first | rfl | trivial)) (show k < (datN ns).length by rw [HLen.out]; omega)
  have HR := Lib.hid (sRule w1 B A n c ns rule (HX.out.below (HB1.out.mono hB)) (Nat.le_trans hB HB1.out.size) hnc hc hn HSh.out k i s ha o HO.out)
  clear ha hp0 hp1
  go_wp2_with fail
  refine HR.out.mono ?_
  rintro e w2 ⟨⟨A1, n1, c1, l1, rfl, hf⟩, hb2⟩
  have HF := Lib.hid hf
  have HB2 := Lib.hid (below_on HB1.out hb2)
  clear hf hb2 HR HCp
  cases o with
  | none =>
    go_wp2_with fail
    refine (sCopyN_c w2 B A n c ns (HX.out.below (HB2.out.mono hB)) (Nat.le_trans hB HB2.out.size) hn HSh.out).mono ?_
    rintro e w3 ⟨v, k2, rfl, hd2, hs2, ho2, hb3⟩
    have HG := Lib.hid (And.intro hd2 (And.intro hs2 (And.intro (ho2.low HB2.out.size) (below_on HB2.out hb3))))
    clear hd2 hs2 ho2 hb3
    go_wp2
    go_ret2
    exact ⟨_, _, rfl, HG.out.1, HG.out.2.1, HG.out.2.2.1, HG.out.2.2.2⟩
  | some r =>
    obtain ⟨hN1, hd1, hs1, hn1⟩ := HF.out r rfl
    have HN1 := Lib.hid hN1
    have HD1 := Lib.hid hd1
    have HS1 := Lib.hid hs1
    clear hN1 hd1 hs1
    go_wp2_with fail
    refine (sCopyN_c w2 w2.heap.size A1 n1 c1 l1 HN1.out (Nat.le_refl _) (by omega) HS1.out).mono ?_
    rintro e w3 ⟨v, k2, rfl, hd2, hs2, ho2, hb3⟩
    have HG := Lib.hid (And.intro (hd2.trans HD1.out) (And.intro hs2 (And.intro (ho2.low HB2.out.size) (below_on HB2.out hb3))))
    clear hd2 hs2 ho2 hb3
    go_wp2
    go_ret2
    exact ⟨_, _, rfl, HG.out.1, HG.out.2.1, HG.out.2.2.1, HG.out.2.2.2⟩
end Go.Proofs.YtaijajajpnekbaaGreat.num
