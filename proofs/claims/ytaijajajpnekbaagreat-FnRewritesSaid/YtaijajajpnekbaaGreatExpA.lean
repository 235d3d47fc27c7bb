/- Contracts of functions that the laws of this chapter call, packed. -/
import Derived.Test.YtaijajajpnekbaaGreatRowG
import Derived.Test.YtaijajajpnekbaaGreatPairMark
import Derived.Laws.OwnMore
import Derived.Lib.SlFresh
import Derived.Test.YtaijajajpnekbaaGreatItemIds
import Derived.Test.YtaijajajpnekbaaGreatExpCopy
import Derived.Test.YtaijajajpnekbaaGreatPairMarkI
import Derived.Test.YtaijajajpnekbaaGreatWishOwn
import Derived.Test.YtaijajajpnekbaaGreatExpSpec
import Derived.Lib.SliceRun
import Derived.Deep.RegionLaw
import Derived.Test.YtaijajajpnekbaaGreatProg
import Derived.WalkKit
import Derived.ProofKit
import Derived.Laws.IdiomStrings
import Derived.Laws.Concat
import Derived.Lib.Hide
import Derived.Outline
import Derived.Deep.QuietTactic
import Derived.BigQuiet
import Derived.Deep.RegionWith
import Derived.Laws.BitsAllLaws
import Derived.WalkSpells
import Derived.Test.YtaijajajpnekbaaGreatWishLaw
import Derived.Maps.AppendAt
import Derived.Test.YtaijajajpnekbaaGreatExpTree
namespace Go.Proofs.YtaijajajpnekbaaGreat.num
set_option maxRecDepth 20000
open Go.RowKit
set_option linter.unusedVariables false

theorem run_app_none {P : Program} {w : World} {B : Nat} {T tS ty : TypeId} {z : Value} {s bytes : Nat} (ht : P.underlying tS = some (.slice T)) (hinf : (P.info? T).map (fun i => (i.zero, i.size, i.bytes)) = some (some z, s, bytes)) {v : Value} {n c : Nat} {xs : List Value} (hown : w.ownsRow B T s v n xs) :
    ∃ v' w', (Builtin.append_ #[tS, tS] ty #[v, .slice none 0 c]).run P w = .ok v' w' ∧ w'.ownsRow B T s v' (n + 0) (xs ++ []) ∧ w.grownBy w' v.ownBlock ∧ (v'.ownBlock = v.ownBlock ∨ v'.ownBlock = some w.heap.size) := by
  obtain ⟨i, hi, hz⟩ := Option.map_eq_some_iff.1 hinf
  refine ⟨v, w, ?_, by simpa using hown, ⟨rfl, rfl, rfl, Nat.le_refl _, fun _ _ _ => rfl⟩, .inl rfl⟩
  rcases hown.2 with ⟨rfl, rfl⟩ | ⟨g, cap, cur, rfl, _, _, hnc, _⟩
  · simp [Builtin.append_, run_underlying ht, sizeOf, typeInfo, hi, Builtin.lenOf, Builtin.firstCells]
  · simp [Builtin.append_, run_underlying ht, sizeOf, typeInfo, hi, Builtin.lenOf, Builtin.firstCells, hnc, storeCells]
theorem run_app_some {P : Program} {w : World} {B : Nat} {T tS ty : TypeId} {z : Value} {s bytes : Nat} (ht : P.underlying tS = some (.slice T)) (hinf : (P.info? T).map (fun i => (i.zero, i.size, i.bytes)) = some (some z, s, bytes)) (hzs : z.cells.size = s) (hs0 : 0 < s) (hbt : 0 < bytes) {v : Value} {n : Nat} {xs : List Value} (hown : w.ownsRow B T s v n xs)
    (a : Addr) {m c : Nat} {news : List Value} (hl : news.length = m * s) (hnews : ∀ j u, news[j]? = some u → w.cell? (a.add j) = some u) (h1 : ∀ u ∈ news, u.oneCell' = true) (hbytes : (n + m) * bytes ≤ 140737488355328) (hB : B ≤ w.heap.size) :
    ∃ v' w', (Builtin.append_ #[tS, tS] ty #[v, .slice (some a) m c]).run P w = .ok v' w' ∧ w'.ownsRow B T s v' (n + m) (xs ++ news) ∧ w.grownBy w' v.ownBlock ∧ (v'.ownBlock = v.ownBlock ∨ v'.ownBlock = some w.heap.size) := by
  obtain ⟨i, hi, hz⟩ := Option.map_eq_some_iff.1 hinf
  simp only [Prod.mk.injEq] at hz
  obtain ⟨hz0, hz1, hz2⟩ := hz
  have hm : n + m ≤ 140737488355328 := Nat.le_trans (Nat.le_mul_of_pos_right _ hbt) hbytes
  obtain ⟨v', w', h1, h2, h3, _, h5⟩ := run_append_own_at (P := P) w B tS ty T i z s bytes ht hi hz0 hz1 hz2 hzs hs0 v n xs hown a m c news hl hnews h1 (by unfold maxLen; omega) hbytes hB
  exact ⟨v', w', h1, h2, h3, h5⟩
theorem addr_add (b off j : Nat) : (⟨b, off, none⟩ : Addr).add j = ⟨b, off + j, none⟩ := by unfold Addr.add; split <;> simp_all
theorem run_spreadI {w : World} {B B' : Nat} {v : Value} {l ys : List Int} {A : Option Addr} {n c : Nat} {ty : TypeId} (h : OwnI w B v l) (hr : Ints w B' A n ys) (hlen : (l.length + n) * 8 ≤ 140737488355328) (hB : B ≤ w.heap.size) :
    ∃ v' w', (Builtin.append_ #[52, 52] ty #[v, .slice A n c]).run Tryz.prog w = .ok v' w' ∧ OwnI w' B v' (l ++ ys) ∧ w.grownBy w' v.ownBlock ∧ (v'.ownBlock = v.ownBlock ∨ v'.ownBlock = some w.heap.size) := by
  obtain ⟨hl, hc⟩ := hr
  have e : (l ++ ys).length = l.length + n := by rw [List.length_append, hl]
  unfold OwnI
  rw [e, List.map_append]
  cases A with
  | none =>
    obtain rfl : n = 0 := by
      rcases Nat.eq_zero_or_pos n with e | e
      · exact e
      · obtain ⟨_, _, h, _⟩ := hc 0 e; cases h
    obtain rfl : ys = [] := List.eq_nil_of_length_eq_zero hl
    exact run_app_none Tryz.underlying52 info_int h
  | some a =>
    refine run_app_some Tryz.underlying52 info_int rfl (by decide) (by decide) h a (by simp [hl]) (fun j u hj => ?_) (fun u hu => ?_) hlen hB
    · have hjl : j < ys.length := by
        rcases Nat.lt_or_ge j ys.length with q | q
        · exact q
        · rw [List.getElem?_eq_none (by simpa using q)] at hj; cases hj
      obtain ⟨b, off, e, _, hcell⟩ := hc j (by omega)
      cases e
      rw [addr_add, hcell]
      rw [List.getElem?_map, List.getElem?_eq_getElem hjl] at hj
      rw [List.getD_eq_getElem?_getD, List.getElem?_eq_getElem hjl]
      exact hj
    · obtain ⟨x, _, rfl⟩ := List.mem_map.1 hu
      rfl
theorem run_spreadP {w : World} {B B' : Nat} {v : Value} {l ys : List (Int × Int)} {A : Option Addr} {n c : Nat} {ty : TypeId} (h : OwnP w B v l) (hr : Pairs w B' A n ys) (hlen : (l.length + n) * 16 ≤ 140737488355328) (hB : B ≤ w.heap.size) :
    ∃ v' w', (Builtin.append_ #[53, 53] ty #[v, .slice A n c]).run Tryz.prog w = .ok v' w' ∧ OwnP w' B v' (l ++ ys) ∧ w.grownBy w' v.ownBlock ∧ (v'.ownBlock = v.ownBlock ∨ v'.ownBlock = some w.heap.size) := by
  obtain ⟨hl, hc⟩ := hr
  have e : (l ++ ys).length = l.length + n := by rw [List.length_append, hl]
  unfold OwnP
  rw [e, flat_app]
  cases A with
  | none =>
    obtain rfl : ys = [] := by
      cases ys with
      | nil => rfl
      | cons p r => obtain ⟨_, _, h, _⟩ := hc 0 p rfl; cases h
    obtain rfl : n = 0 := hl.symm
    exact run_app_none Tryz.underlying53 info_pair h
  | some a =>
    refine run_app_some Tryz.underlying53 info_pair rfl (by decide) (by decide) h a (by rw [flat_len, hl]) (fun j u hj => ?_) (flat_one ys) hlen hB
    have hjl : j < ys.length * 2 := by
      rcases Nat.lt_or_ge j (flat ys).length with q | q
      · rwa [flat_len] at q
      · rw [List.getElem?_eq_none q] at hj; cases hj
    have hk : j / 2 < ys.length := by omega
    have hg : ys[j / 2]? = some (ys[j / 2]) := List.getElem?_eq_getElem hk
    obtain ⟨b, off, e, _, h1, h2⟩ := hc (j / 2) _ hg
    cases e
    rw [addr_add]
    have he := flat_even ys (j / 2) _ hg
    have ho := flat_odd ys (j / 2) _ hg
    by_cases hp : j % 2 = 0
    · have e2 : j = j / 2 * 2 := by omega
      rw [e2] at hj
      rw [he] at hj
      rw [e2, h1]
      exact hj
    · have e2 : j = j / 2 * 2 + 1 := by omega
      rw [e2] at hj
      rw [ho] at hj
      rw [e2, ← Nat.add_assoc, h2]
      exact hj
theorem run_spreadG {α : Type} {f : α → List Value} {s : Nat} (hf : ∀ x, (f x).length = s) (h1 : ∀ x, ∀ u ∈ f x, u.oneCell' = true) {T tS ty : TypeId} {z : Value} {bytes : Nat} (ht : Tryz.prog.underlying tS = some (.slice T)) (hinf : (Tryz.prog.info? T).map (fun i => (i.zero, i.size, i.bytes)) = some (some z, s, bytes)) (hzs : z.cells.size = s) (hs0 : 0 < s) (hbt : 0 < bytes)
    {w : World} {B B' : Nat} {v : Value} {l ys : List α} {A : Option Addr} {n c : Nat} (h : OwnG T f s w B v l) (hr : ReadG f s w B' A n ys) (hlen : (l.length + n) * bytes ≤ 140737488355328) (hB : B ≤ w.heap.size) :
    ∃ v' w', (Builtin.append_ #[tS, tS] ty #[v, .slice A n c]).run Tryz.prog w = .ok v' w' ∧ OwnG T f s w' B v' (l ++ ys) ∧ w.grownBy w' v.ownBlock ∧ (v'.ownBlock = v.ownBlock ∨ v'.ownBlock = some w.heap.size) := by
  have hl := hr.len
  have e : (l ++ ys).length = l.length + n := by rw [List.length_append, hl]
  unfold OwnG
  rw [e, List.flatMap_append]
  cases A with
  | none =>
    obtain rfl : n = 0 := by
      rcases Nat.eq_zero_or_pos n with e | e
      · exact e
      · obtain ⟨_, _, h, _⟩ := hr.cells hf e; cases h
    obtain rfl : ys = [] := List.eq_nil_of_length_eq_zero hl
    exact run_app_none ht hinf h
  | some a =>
    refine run_app_some ht hinf hzs hs0 hbt h a (by rw [fm_len hf, hl]) (fun j u hj => ?_) (fm_one h1 ys) hlen hB
    have hn : 0 < n := by
      rcases Nat.eq_zero_or_pos n with e | e
      · subst e
        obtain rfl : ys = [] := List.eq_nil_of_length_eq_zero hl
        simp at hj
      · exact e
    obtain ⟨b, off, e, _, hcell⟩ := hr.cells hf hn
    cases e
    rw [addr_add]
    exact hcell j u hj
/-- An append whose run is known, as a step of a region that draws. -/
theorem step_run {P : Program} {ops : Array Oper} {o : Oper} {a : Act} {K : Act → World → Prop} {Q : Exit → Act → World → Prop} {E : Prop} (w : World) (hgd : o.guard = none) (s x : Operand) (t : TypeId)
    (ho : o.op = .call { callee := .builtin .append, args := #[s, x], argTypes := #[t, t] }) (v u : Value) (hs : a.eval s = v) (hx : a.eval x = u) {v' : Value} {w' : World}
    (hr : (Builtin.append_ #[t, t] o.type #[v, u]).run P w = .ok v' w') (h : K (a.put o.dst v') w') : if Region.wanted o (yielded ops a.tmps) = true then Oper.wp P o a w K Q else E := by
  have hw : Region.wanted o (yielded ops a.tmps) = true := by simp [Region.wanted, hgd]
  rw [if_pos hw]
  exact Go.Lib.wp_append_run_sl w s x t ho v u hs hx hr h
theorem stepI {ops : Array Oper} {o : Oper} {a : Act} {K : Act → World → Prop} {Q : Exit → Act → World → Prop} {E : Prop} (w : World) (hgd : o.guard = none) (s x : Operand)
    (ho : o.op = .call { callee := .builtin .append, args := #[s, x], argTypes := #[52, 52] })
    (B : Nat) (v : Value) (l : List Int) (hs : a.eval s = v) (hown : OwnI w B v l) (cs : Array Value) (new : List Int) (hcs : cs = (new.map (Value.int .i64)).toArray) (n c : Nat) (hn : n = new.length)
    (hx : a.eval x = .slice (some ⟨w.heap.size, 0, none⟩) n c) (hlen : (l.length + new.length) * 8 ≤ 140737488355328) (hB : B ≤ w.heap.size)
    (h : ∀ v' w', OwnI w' B v' (l ++ new) → Below B w w' → K (a.put o.dst v') w') :
    if Region.wanted o (yielded ops a.tmps) = true then Oper.wp Tryz.prog o a (w.alloc (.cells cs 3)) K Q else E := by
  have hw : Region.wanted o (yielded ops a.tmps) = true := by simp [Region.wanted, hgd]
  rw [if_pos hw]
  obtain ⟨i0, hi, hz0, hz1, hz2⟩ := info_parts info_int
  subst hcs hn
  refine wp_append_own _ s x 52 ho B 3 i0 (.int .i64 0) 1 8 Tryz.underlying52 hi hz0 hz1 hz2 rfl (by decide) v l.length (l.map (Value.int .i64)) hs (World.ownsRow.alloc hown _) ⟨w.heap.size, 0, none⟩ new.length c (new.map (Value.int .i64)) hx (by simp) ?_ ?_ (by unfold maxLen; omega) (by omega) (by simp; omega) ?_
  · intro j u hj
    have e : (⟨w.heap.size, 0, none⟩ : Addr).add j = ⟨w.heap.size, j, none⟩ := by unfold Addr.add; split <;> simp_all
    rw [e, World.cell?_alloc_at _ _ _ _ rfl]
    simpa using hj
  · intro u hu
    obtain ⟨b, _, rfl⟩ := List.mem_map.1 hu
    rfl
  · intro v' w' hown' hg _
    refine h v' w' ?_ (((Below.refl B w).alloc hB _).grown hg (by simp; omega) (fun k hk => ?_))
    · have e : (l ++ new).length = l.length + new.length := by simp
      unfold OwnI
      rw [e, List.map_append]
      exact hown'
    · exact (World.ownsRow.lt hown k hk).1

end Go.Proofs.YtaijajajpnekbaaGreat.num
namespace Go.Proofs.YtaijajajpnekbaaGreat.num
set_option maxRecDepth 20000
open Go.RowKit
set_option linter.unusedVariables false
set_option linter.unusedSimpArgs false

/-- w' is w but for the blocks in S. -/
structure OnlyS (S : Nat → Prop) (w w' : World) : Prop where
  os : w'.os = w.os
  tape : w'.tape = w.tape
  output : w'.output = w.output
  size : w'.heap.size = w.heap.size
  block : ∀ k, ¬ S k → w'.heap[k]? = w.heap[k]?
theorem OnlyS.refl (S : Nat → Prop) (w : World) : OnlyS S w w := ⟨rfl, rfl, rfl, rfl, fun _ _ => rfl⟩
theorem OnlyS.trans {S : Nat → Prop} {w w1 w2 : World} (h : OnlyS S w w1) (h' : OnlyS S w1 w2) : OnlyS S w w2 :=
  ⟨h'.os.trans h.os, h'.tape.trans h.tape, h'.output.trans h.output, h'.size.trans h.size, fun k hk => (h'.block k hk).trans (h.block k hk)⟩
theorem OnlyS.sub {S S' : Nat → Prop} {w w' : World} (h : OnlyS S w w') (hs : ∀ k, S k → S' k) : OnlyS S' w w' := ⟨h.os, h.tape, h.output, h.size, fun k hk => h.block k fun e => hk (hs k e)⟩
theorem OnlyS.set {S : Nat → Prop} {w w' : World} (h : OnlyS S w w') {g : Nat} (hg : S g) (j : Nat) (u : Value) : OnlyS S w (w'.setCell ⟨g, j, none⟩ u) :=
  ⟨h.os, h.tape, h.output, by simpa [World.setCell] using h.size, fun k hk => (Below.heap_setCell w' ⟨g, j, none⟩ u k (fun e => hk (by rw [e]; exact hg))).trans (h.block k hk)⟩
theorem OnlyV.s {v : Value} {S : Nat → Prop} {w w' : World} (h : OnlyV v w w') (hS : ∀ k, v.ownBlock = some k → S k) : OnlyS S w w' := ⟨h.os, h.tape, h.output, h.size, fun k hk => h.block k fun e => hk (hS k e)⟩
theorem OnlyS.below {S : Nat → Prop} {B : Nat} {w w' : World} (h : OnlyS S w w') (hB : ∀ k, S k → B ≤ k) : Below B w w' :=
  ⟨h.os, h.tape, h.output, by rw [h.size]; exact Nat.le_refl _, fun k hk => h.block k (fun e => by have := hB k e; omega)⟩
theorem wf_small {k : Nat} (h : k ≤ 9223372036854775807) : (Lit.int .i64 (k : Int)).wf = true := by simp [Lit.wf, IntKind.min, IntKind.max, IntKind.signed, IntKind.bits]; omega
theorem fm_set {α : Type} {f : α → List Value} {s : Nat} (hf : ∀ x, (f x).length = s) (l : List α) (k : Nat) (y : α) (hk : k < l.length) (j : Nat) (hj : j < l.length * s) : ((l.set k y).flatMap f)[j]? = if j / s = k then (f y)[j % s]? else (l.flatMap f)[j]? := by
  have hs : 0 < s := by
    rcases Nat.eq_zero_or_pos s with e | e
    · subst e; simp at hj
    · exact e
  have hi : j / s < l.length := by rw [Nat.div_lt_iff_lt_mul hs]; exact hj
  have hm := Nat.mod_lt j hs
  have e : j / s * s + j % s = j := by rw [Nat.mul_comm]; exact Nat.div_add_mod j s
  by_cases h : j / s = k
  · rw [if_pos h]
    have h1 := fm_at hf (l.set k y) (j / s) (j % s) y (by rw [h, List.getElem?_set_self hk]) hm
    rwa [e] at h1
  · rw [if_neg h]
    have hg : l[j / s]? = some l[j / s] := List.getElem?_eq_getElem hi
    have h1 := fm_at hf (l.set k y) (j / s) (j % s) l[j / s] (by rw [List.getElem?_set_ne (fun e => h e.symm)]; exact hg) hm
    have h2 := fm_at hf l (j / s) (j % s) l[j / s] hg hm
    rw [e] at h1 h2
    rw [h1, h2]
def markNd (k : Nat) (x : Nd) : Nd := ⟨((k : Nat) : Int), ⟨((k + 1 : Nat) : Int), ((k + 2 : Nat) : Int), ((k + 3 : Nat) : Int), x.t.LA, x.t.Ln, x.t.Lc, marks (k + 4) x.t.ls.length, x.t.PA, x.t.Pn, x.t.Pc, pmarks (k + 4 + x.t.ls.length) x.t.ps.length⟩⟩
def cntNd (x : Nd) : Nat := 4 + x.t.ls.length + 2 * x.t.ps.length
def markN : Nat → List Nd → List Nd
  | _, [] => []
  | k, x :: r => markNd k x :: markN (k + cntNd x) r
def cntN : List Nd → Nat
  | [] => 0
  | x :: r => cntNd x + cntN r
theorem cntN_snoc (l : List Nd) (x : Nd) : cntN (l ++ [x]) = cntN l + cntNd x := by
  induction l with
  | nil => simp [cntN]
  | cons y r ih => simp only [List.cons_append, cntN, ih]; omega
theorem markN_snoc (l : List Nd) (x : Nd) : ∀ k, markN k (l ++ [x]) = markN k l ++ [markNd (k + cntN l) x] := by
  induction l with
  | nil => intro k; simp [markN, cntN]
  | cons y r ih => intro k; simp only [List.cons_append, markN, cntN, ih]; rw [Nat.add_assoc]
theorem markN_len (l : List Nd) : ∀ k, (markN k l).length = l.length := by
  induction l with
  | nil => intro k; rfl
  | cons y r ih => intro k; simp [markN, ih]
theorem markN_at (l : List Nd) : ∀ (k i : Nat) (x : Nd), l[i]? = some x → (markN k l)[i]? = some (markNd (k + cntN (l.take i)) x) := by
  induction l with
  | nil => intro k i x h; simp at h
  | cons y r ih =>
    intro k i x h
    cases i with
    | zero => simp at h; subst h; simp [markN, cntN]
    | succ i =>
      have h' : r[i]? = some x := by simpa using h
      simp only [markN, List.getElem?_cons_succ, List.take_succ_cons, cntN]
      rw [ih _ i x h', Nat.add_assoc]
/-- Each count of a short list is small. -/
theorem cntN_le {l : List Nd} (h : ∀ x ∈ l, x.t.ls.length ≤ 1048576 ∧ x.t.ps.length ≤ 1048576) : cntN l ≤ l.length * 3145732 := by
  induction l with
  | nil => simp [cntN]
  | cons y r ih =>
    have h1 := ih fun x hx => h x (List.mem_cons_of_mem _ hx)
    have h2 := h y (List.mem_cons_self ..)
    simp only [cntN, cntNd, List.length_cons]
    omega
/-- As far as k, the marks; the rest as it was. -/
theorem markN_step {l : List Nd} {k k0 : Nat} {x : Nd} (h : l[k]? = some x) : (markN k0 (l.take k) ++ l.drop k)[k]? = some x ∧ (markN k0 (l.take k) ++ l.drop k).set k (markNd (k0 + cntN (l.take k)) x) = markN k0 (l.take (k + 1)) ++ l.drop (k + 1) := by
  have hlt : k < l.length := by
    rcases Nat.lt_or_ge k l.length with g | g
    · exact g
    · rw [List.getElem?_eq_none g] at h; cases h
  have hl : (markN k0 (l.take k)).length = k := by rw [markN_len, List.length_take]; omega
  have hd : l.drop k = x :: l.drop (k + 1) := by
    rw [List.drop_eq_getElem_cons hlt]
    rw [List.getElem?_eq_getElem hlt] at h
    rw [Option.some.inj h]
  refine ⟨by rw [List.getElem?_append_right (by omega), hl, hd]; simp, ?_⟩
  rw [hd, List.set_append_right _ _ (by omega), hl, Nat.sub_self, List.set_cons_zero, ptake_at h, markN_snoc, List.append_assoc, List.singleton_append]

theorem OwnN.cells_at {w : World} {B g n c k : Nat} {l : List Nd} {x : Nd} (h : OwnN w B (.slice (some ⟨g, 0, none⟩) n c) l) (hk : l[k]? = some x) : (∀ (j : Nat) (v : Value), (nodeCells x)[j]? = some v → w.cell? ⟨g, k * 6 + j, none⟩ = some v) ∧ ∀ j, w.frozen? ⟨g, j, none⟩ = false := by
  refine ⟨fun j v hv => ?_, fun j => ?_⟩
  · obtain ⟨b, off, e, _, hc⟩ := (h.r.read nodeCells_len).at' k x hk
    injection e with e
    injection e with e1 e2
    subst e1 e2
    have := hc j v hv
    rwa [Nat.zero_add] at this
  · rcases h.r.row with ⟨e, _⟩ | ⟨g', cap, f, e, _, _, _, hrow, _⟩
    · cases e
    · injection e with e _ _
      injection e with e
      injection e with e
      subst e
      exact World.rowIs.frozen hrow j
set_option maxRecDepth 20000 in
/-- One element is marked. -/
theorem OwnN.mark1 {w w5 w6 : World} {B g n c : Nat} {l : List Nd} {k m : Nat} {x : Nd} {u0 : Int} {u1 : Int} {u2 : Int} {u3 : Int} (hu0 : u0 = ((m : Nat) : Int)) (hu1 : u1 = ((m + 1 : Nat) : Int)) (hu2 : u2 = ((m + 2 : Nat) : Int)) (hu3 : u3 = ((m + 3 : Nat) : Int)) (hm : m ≤ 4700000000000000000) (h : OwnN w B (.slice (some ⟨g, 0, none⟩) n c) l) (hk : l[k]? = some x)
    (h5 : OnlyV (.slice x.t.LA x.t.Ln x.t.Lc) (((((w.setCell ⟨g, k * 6, none⟩ (.int .i64 u0)).setCell ⟨g, k * 6 + 1, none⟩ (.int .i64 u1)).setCell ⟨g, k * 6 + 2, none⟩ (.int .i64 u2)).setCell ⟨g, k * 6 + 3, none⟩ (.int .i64 u3))) w5) (hl : OwnI w5 B (.slice x.t.LA x.t.Ln x.t.Lc) (marks (m + 4) x.t.ls.length)) (h6 : OnlyV (.slice x.t.PA x.t.Pn x.t.Pc) w5 w6) (hp : OwnP w6 B (.slice x.t.PA x.t.Pn x.t.Pc) (pmarks (m + 4 + x.t.ls.length) x.t.ps.length)) :
    OwnN w6 B (.slice (some ⟨g, 0, none⟩) n c) (l.set k (markNd m x)) ∧ OnlyS (hasN (.slice (some ⟨g, 0, none⟩) n c) l) w w6 ∧ ∀ b, hasN (.slice (some ⟨g, 0, none⟩) n c) (l.set k (markNd m x)) b → hasN (.slice (some ⟨g, 0, none⟩) n c) l b := by
  have hlt : k < l.length := by
    rcases Nat.lt_or_ge k l.length with q | q
    · exact q
    · rw [List.getElem?_eq_none q] at hk; cases hk
  obtain ⟨hwf, hx⟩ := (⟨trivial, (h.x k x hk).2⟩ : True ∧ WiO w B x.t)
  have hmem : x ∈ l := List.mem_of_getElem? hk
  have a1 : (Value.slice x.t.LA x.t.Ln x.t.Lc).ownBlock ≠ some g := fun e => h.a k x g hk (.inl e) rfl
  have a2 : (Value.slice x.t.PA x.t.Pn x.t.Pc).ownBlock ≠ some g := fun e => h.a k x g hk (.inr e) rfl
  have hoth : ∀ b, b ≠ g → ¬ x.t.has b → w6.heap[b]? = w.heap[b]? := fun b hb hn => by
    rw [h6.block b fun e => hn (.inr e), h5.block b fun e => hn (.inl e)]
    repeat rw [heap_setCell_other _ _ _ _ (by simpa using hb)]
  have hget : ∀ (i : Nat) (y : Nd), (l.set k (markNd m x))[i]? = some y → (i = k ∧ y = markNd m x) ∨ (i ≠ k ∧ l[i]? = some y) := fun i y hy => by
    by_cases e : i = k
    · subst e
      rw [List.getElem?_set_self hlt] at hy
      exact .inl ⟨rfl, (Option.some.inj hy).symm⟩
    · rw [List.getElem?_set_ne (fun e' => e e'.symm)] at hy
      exact .inr ⟨e, hy⟩
  have hhas : ∀ b, (markNd m x).t.has b → x.t.has b := fun b hb => hb
  refine ⟨⟨?_, ?_, ?_, ?_⟩, ?_, ?_⟩
  · rcases h.r.row with ⟨e, _⟩ | ⟨g', cap, f, e, hB, hle, hcap, hrow, hf⟩
    · cases e
    · injection e with e1 e2 e3
      injection e1 with e1
      injection e1 with e1
      subst e1 e2 e3
      have hr6 := World.rowIs.of_block (World.rowIs.of_block (World.rowIs.set (World.rowIs.set (World.rowIs.set (World.rowIs.set hrow (k * 6) (.int .i64 u0)) (k * 6 + 1) (.int .i64 u1)) (k * 6 + 2) (.int .i64 u2)) (k * 6 + 3) (.int .i64 u3)) (h5.block g a1)) (h6.block g a2)
      refine OwnG.of_row nodeCells_len hB (by simp) hle hcap hr6 fun j hj => ?_
      rw [fm_set nodeCells_len l k _ hlt j hj]
      by_cases e : j / 6 = k
      · obtain ⟨r, hr, rfl⟩ : ∃ r, r < 6 ∧ j = k * 6 + r := ⟨j % 6, Nat.mod_lt _ (by decide), by omega⟩
        rw [if_pos e, show (k * 6 + r) % 6 = r by omega]
        have hold := hf _ hj
        rw [fm_at nodeCells_len l k r x hk hr] at hold
        have hr' : r = 0 ∨ r = 1 ∨ r = 2 ∨ r = 3 ∨ r = 4 ∨ r = 5 := by omega
        rcases hr' with rfl | rfl | rfl | rfl | rfl | rfl
        · rw [if_neg (by omega), if_neg (by omega), if_neg (by omega), if_pos (by omega)]; exact (congrArg some (congrArg (Value.int .i64) hu0)).symm
        · rw [if_neg (by omega), if_neg (by omega), if_pos rfl]; exact (congrArg some (congrArg (Value.int .i64) hu1)).symm
        · rw [if_neg (by omega), if_pos rfl]; exact (congrArg some (congrArg (Value.int .i64) hu2)).symm
        · rw [if_pos rfl]; exact (congrArg some (congrArg (Value.int .i64) hu3)).symm
        · rw [if_neg (by omega), if_neg (by omega), if_neg (by omega), if_neg (by omega)]
          exact hold
        · rw [if_neg (by omega), if_neg (by omega), if_neg (by omega), if_neg (by omega)]
          exact hold
      · rw [if_neg e, hf j hj]
        congr 1
        have hj' : ¬ (k * 6 ≤ j ∧ j < k * 6 + 6) := by omega
        rw [if_neg (by omega), if_neg (by omega), if_neg (by omega), if_neg (by omega)]
  · intro i y hy
    rcases hget i y hy with ⟨rfl, rfl⟩ | ⟨hne, hy⟩
    · exact ⟨wf_small (by omega), ⟨wf_small (by omega), wf_small (by omega), wf_small (by omega), ownI_blocks hl (fun b hb => h6.block b (hx.a b hb)), hp, hx.a⟩⟩
    · obtain ⟨q1, q2⟩ := h.x i y hy
      refine ⟨q1, q2.blocks fun b hb => hoth b (fun e => h.a i y b hy hb (by rw [e]; rfl)) fun hb' => ?_⟩
      rcases Nat.lt_or_gt_of_ne hne with q | q
      · exact h.d i k y x b q hy hk hb hb'
      · exact h.d k i x y b q hk hy hb' hb
  · intro i y b hy hb
    rcases hget i y hy with ⟨rfl, rfl⟩ | ⟨hne, hy⟩
    · exact h.a i x b hk (hhas b hb)
    · exact h.a i y b hy hb
  · intro i j y z b hij hy hz hb hb'
    rcases hget i y hy with ⟨ei, rfl⟩ | ⟨_, hy2⟩ <;> rcases hget j z hz with ⟨ej, rfl⟩ | ⟨_, hz2⟩
    · omega
    · exact h.d i j x z b hij (by rw [ei]; exact hk) hz2 (hhas b hb) hb'
    · exact h.d i j y x b hij hy2 (by rw [ej]; exact hk) hb (hhas b hb')
    · exact h.d i j y z b hij hy2 hz2 hb hb'
  · have hs : ∀ b, x.t.has b → hasN (.slice (some ⟨g, 0, none⟩) n c) l b := fun b hb => .inr ⟨x, hmem, hb⟩
    exact ((((((OnlyS.refl _ w).set (.inl rfl) _ _).set (.inl rfl) _ _).set (.inl rfl) _ _).set (.inl rfl) _ _).trans (h5.s fun b hb => hs b (.inl hb))).trans (h6.s fun b hb => hs b (.inr hb))
  · intro b hb
    rcases hb with hb | ⟨y, hy, hb⟩
    · exact .inl hb
    · obtain ⟨i, hi, rfl⟩ := List.getElem_of_mem hy
      rcases hget i _ (List.getElem?_eq_getElem hi) with ⟨_, e⟩ | ⟨_, hy'⟩
      · rw [e] at hb
        exact .inr ⟨x, hmem, hhas b hb⟩
      · exact .inr ⟨_, List.mem_of_getElem? hy', hb⟩
end Go.Proofs.YtaijajajpnekbaaGreat.num
namespace Go.Proofs.YtaijajajpnekbaaGreat.num
set_option maxRecDepth 20000
open Go.RowKit
set_option linter.unusedVariables false
set_option linter.unusedSimpArgs false

def wishCells (x : Wi) : List Value := [.int .i64 x.kind, .int .i64 x.field, .int .i64 x.value, .slice x.LA x.Ln x.Lc, .slice x.PA x.Pn x.Pc]
theorem wishCells_len (x : Wi) : (wishCells x).length = 5 := rfl
theorem wishCells_one (x : Wi) : ∀ u ∈ wishCells x, u.oneCell' = true := by
  intro u hu
  simp only [wishCells, List.mem_cons, List.not_mem_nil, or_false] at hu
  rcases hu with rfl | rfl | rfl | rfl | rfl <;> rfl
/-- A slice of wishes that reads as ns, below block B. -/
structure Wishes (w : World) (B : Nat) (A : Option Addr) (n : Nat) (ns : List Wi) : Prop where
  r : ReadG wishCells 5 w B A n ns
  x : ∀ x ∈ ns, WiIn w B x
theorem Wishes.below {w w' : World} {B : Nat} {A : Option Addr} {n : Nat} {ns : List Wi} (h : Wishes w B A n ns) (hb : Below B w w') : Wishes w' B A n ns := ⟨h.r.below hb, fun x hx => (h.x x hx).below hb⟩
theorem Wishes.more {w : World} {B B' : Nat} {A : Option Addr} {n : Nat} {ns : List Wi} (h : Wishes w B A n ns) (hB : B ≤ B') : Wishes w B' A n ns := ⟨h.r.more hB, fun x hx => (h.x x hx).more hB⟩
theorem Wishes.step {w w' : World} {A : Option Addr} {n : Nat} {ns : List Wi} (h : Wishes w w.heap.size A n ns) (hb : Below w.heap.size w w') : Wishes w' w'.heap.size A n ns := (h.below hb).more hb.size
theorem Wishes.len {w : World} {B : Nat} {A : Option Addr} {n : Nat} {ns : List Wi} (h : Wishes w B A n ns) : ns.length = n := h.r.len
theorem Wishes.nil (w : World) (B : Nat) (A : Option Addr) : Wishes w B A 0 [] := ⟨.nil _ _ _, by simp⟩
theorem Wishes.at {w : World} {B : Nat} {A : Option Addr} {n : Nat} {ns : List Wi} (h : Wishes w B A n ns) (k : Nat) (hk : k < n) :
    ∃ (b off : Nat) (x : Wi), A = some ⟨b, off, none⟩ ∧ b < B ∧ ns[k]? = some x ∧ WiIn w B x ∧ w.cell? ⟨b, off + k * 5, none⟩ = some (.int .i64 x.kind) ∧ w.cell? ⟨b, off + k * 5 + 1, none⟩ = some (.int .i64 x.field) ∧
      w.cell? ⟨b, off + k * 5 + 2, none⟩ = some (.int .i64 x.value) ∧ w.cell? ⟨b, off + k * 5 + 3, none⟩ = some (.slice x.LA x.Ln x.Lc) ∧ w.cell? ⟨b, off + k * 5 + 4, none⟩ = some (.slice x.PA x.Pn x.Pc) := by
  obtain ⟨x, hx⟩ := h.r.get hk
  obtain ⟨b, off, h1, h2, h3⟩ := h.r.at' k x hx
  exact ⟨b, off, x, h1, h2, hx, h.x x (List.mem_of_getElem? hx), h3 0 _ rfl, h3 1 _ rfl, h3 2 _ rfl, h3 3 _ rfl, h3 4 _ rfl⟩
def ShortWs (ns : List Wi) : Prop := ∀ x ∈ ns, x.Short
def datWs (ns : List Wi) : List WD := ns.map Wi.dat

/-- The slice of wishes v and all that its wishes hold are the call's own, apart from one another. -/
structure OwnWs (w : World) (B : Nat) (v : Value) (ns : List Wi) : Prop where
  r : OwnG 55 wishCells 5 w B v ns
  x : ∀ (k : Nat) (x : Wi), ns[k]? = some x → WiO w B x
  a : ∀ (k : Nat) (x : Wi) (b : Nat), ns[k]? = some x → x.has b → v.ownBlock ≠ some b
  d : ∀ (i j : Nat) (x y : Wi) (b : Nat), i < j → ns[i]? = some x → ns[j]? = some y → x.has b → ¬ y.has b
/-- The blocks of the slice v and of its wishes. -/
def hasWs (v : Value) (ns : List Wi) (b : Nat) : Prop := v.ownBlock = some b ∨ ∃ x ∈ ns, x.has b
theorem OwnWs.has_in {w : World} {B : Nat} {v : Value} {ns : List Wi} (h : OwnWs w B v ns) {b : Nat} (hb : hasWs v ns b) : B ≤ b ∧ b < w.heap.size := by
  rcases hb with hb | ⟨x, hx, hb⟩
  · exact ⟨h.r.lows b hb, h.r.tops b hb⟩
  · obtain ⟨k, hk, rfl⟩ := List.getElem_of_mem hx
    exact (h.x k _ (List.getElem?_eq_getElem hk)).has_in hb
theorem OwnWs.blocks {w w' : World} {B : Nat} {v : Value} {ns : List Wi} (h : OwnWs w B v ns) (hb : ∀ b, hasWs v ns b → w'.heap[b]? = w.heap[b]?) : OwnWs w' B v ns :=
  ⟨h.r.blocks fun k hk => hb k (.inl hk), fun k x hk => (h.x k x hk).blocks fun b hb' => hb b (.inr ⟨x, List.mem_of_getElem? hk, hb'⟩), h.a, h.d⟩
theorem OwnWs.below {w w' : World} {B : Nat} {v : Value} {ns : List Wi} (h : OwnWs w B v ns) (hb : Below w.heap.size w w') : OwnWs w' B v ns := h.blocks fun b k => hb.block b (h.has_in k).2
theorem OwnWs.low {w : World} {B B' : Nat} {v : Value} {ns : List Wi} (h : OwnWs w B v ns) (hB : B' ≤ B) : OwnWs w B' v ns := ⟨h.r.low hB, fun k x hk => (h.x k x hk).low hB, h.a, h.d⟩
theorem OwnWs.wishes {w : World} {B : Nat} {A : Option Addr} {n c : Nat} {ns : List Wi} (h : OwnWs w B (.slice A n c) ns) : Wishes w w.heap.size A n ns :=
  ⟨h.r.read wishCells_len, fun x hx => by
    obtain ⟨k, hk, rfl⟩ := List.getElem_of_mem hx
    exact (h.x k _ (List.getElem?_eq_getElem hk)).wi⟩
theorem OwnWs.nil (w : World) (B : Nat) : OwnWs w B (.slice none 0 0) [] := ⟨.nil _ _, by simp, by simp, by simp⟩

theorem ne_wi {l l' : List Wi} {k : Nat} {t t' : Wi} (h1 : l[k]? = some t) (h2 : l'[k]? = some t') (h : t.dat ≠ t'.dat) : l.map Wi.dat ≠ l'.map Wi.dat := fun e => h (by
  have := congrArg (·[k]?) e
  simpa [h1, h2] using this)
/-- append of one element to a slice of the call's own: the new slice lies in the old one's row or in a new block. -/
theorem wp_appG {α : Type} {f : α → List Value} {s : Nat} (hf : ∀ x, (f x).length = s) (h1 : ∀ x, ∀ u ∈ f x, u.oneCell' = true) {T tS : TypeId} {z : Value} {bytes : Nat} (ht : Tryz.prog.underlying tS = some (.slice T)) (hinf : (Tryz.prog.info? T).map (fun i => (i.zero, i.size, i.bytes)) = some (some z, s, bytes)) (hzs : z.cells.size = s) (hs0 : 0 < s)
    {ops : Array Oper} {rest : List Oper} {o : Oper} {a : Act} {Q : Exit → Act → World → Prop} (w : World) (hgd : o.guard = none) (sl x : Operand)
    (ho : o.op = .call { callee := .builtin .append, args := #[sl, x], argTypes := #[tS, tS] })
    (B : Nat) (v : Value) (l : List α) (hs : a.eval sl = v) (hown : OwnG T f s w B v l) (cs : Array Value) (y : α) (hcs : cs = (f y).toArray) (c : Nat)
    (N : Nat) (hNw : w.heap.size = N) (hx : a.eval x = .slice (some ⟨N, 0, none⟩) 1 c) (hlen : (l.length + 1) * bytes ≤ 140737488355328) (hbt : 0 < bytes) (hB : B ≤ w.heap.size)
    (h : ∀ v' w', OwnG T f s w' B v' (l ++ [y]) → w.grownBy w' v.ownBlock → (v'.ownBlock = v.ownBlock ∨ v'.ownBlock = some (w.heap.size + 1)) → wpList Tryz.prog ops Q rest (a.put o.dst v') w') :
    wpList Tryz.prog ops Q (o :: rest) a (w.alloc (.cells cs T)) := by
  obtain ⟨i0, hi, hz⟩ := Option.map_eq_some_iff.1 hinf
  simp only [Prod.mk.injEq] at hz
  obtain ⟨hz0, hz1, hz2⟩ := hz
  have hm : l.length + 1 ≤ 140737488355328 := Nat.le_trans (Nat.le_mul_of_pos_right _ hbt) hlen
  subst hcs hNw
  refine wpList_append_own_at _ hgd sl x tS ho B T i0 z s bytes ht hi hz0 hz1 hz2 hzs hs0 v l.length (l.flatMap f) hs (World.ownsRow.alloc hown _) ⟨w.heap.size, 0, none⟩ 1 c (f y) hx (by rw [hf, Nat.one_mul]) ?_ (h1 y) (by unfold maxLen; omega) hlen (by simp; omega) ?_
  · intro j u hj
    have e : (⟨w.heap.size, 0, none⟩ : Addr).add j = ⟨w.heap.size, j, none⟩ := by unfold Addr.add; split <;> simp_all
    rw [e, World.cell?_alloc_at _ _ _ _ rfl]
    simpa using hj
  · intro v' w' hown' hg _ hat
    refine h v' w' ?_ ⟨hg.os, hg.tape, hg.output, Nat.le_trans (by simp) hg.size, fun k hk hv => (hg.block k (by simp; omega) hv).trans (Below.heap_alloc _ _ _ hk)⟩ (by simpa using hat)
    unfold OwnG
    rw [List.length_append, List.length_singleton, List.flatMap_append, List.flatMap_singleton]
    exact hown'
theorem OwnWs.snoc {w w' : World} {B : Nat} {v v' : Value} {ns : List Wi} {x : Wi} (h : OwnWs w B v ns) (hg : w.grownBy w' v.ownBlock) (hat : v'.ownBlock = v.ownBlock ∨ v'.ownBlock = some (w.heap.size + 1)) (hr : OwnG 55 wishCells 5 w' B v' (ns ++ [x])) (hx : WiO w B x) (hap : ∀ b, x.has b → ¬ hasWs v ns b) : OwnWs w' B v' (ns ++ [x]) := by
  have hin : ∀ (i : Nat) (y : Wi) (b : Nat), ns[i]? = some y → y.has b → hasWs v ns b := fun i y b hy hb => .inr ⟨y, List.mem_of_getElem? hy, hb⟩
  have hnb : ∀ b, x.has b → some b ≠ v.ownBlock := fun b hb e => hap b hb (.inl e.symm)
  refine ⟨hr, ?_, ?_, ?_⟩
  · intro i y hy
    rcases get_snoc rfl hy with ⟨_, hy⟩ | ⟨_, rfl⟩
    · exact (h.x i y hy).blocks fun b hb => hg.block b ((h.x i y hy).has_in hb).2 fun e => h.a i y b hy hb e.symm
    · exact hx.blocks fun b hb => hg.block b (hx.has_in hb).2 (hnb b hb)
  · intro i y b hy hb e
    rcases get_snoc rfl hy with ⟨_, hy⟩ | ⟨_, rfl⟩
    · rcases hat with q | q
      · exact h.a i y b hy hb (q ▸ e)
      · have h2 := (h.has_in (hin i y b hy hb)).2
        rw [q] at e
        have := Option.some.inj e
        omega
    · rcases hat with q | q
      · exact hnb b hb (q ▸ e).symm
      · have h2 := (hx.has_in hb).2
        rw [q] at e
        have := Option.some.inj e
        omega
  · intro i j y z b hij hy hz hb hb'
    rcases get_snoc rfl hz with ⟨hj, hz⟩ | ⟨hj, rfl⟩
    · rcases get_snoc rfl hy with ⟨_, hy⟩ | ⟨hi, _⟩
      · exact h.d i j y z b hij hy hz hb hb'
      · omega
    · rcases get_snoc rfl hy with ⟨_, hy⟩ | ⟨hi, _⟩
      · exact hap b hb' (hin i y b hy hb)
      · omega
theorem OwnN.snoc {w w' : World} {B : Nat} {v v' : Value} {ns : List Nd} {x : Nd} (h : OwnN w B v ns) (hg : w.grownBy w' v.ownBlock) (hat : v'.ownBlock = v.ownBlock ∨ v'.ownBlock = some (w.heap.size + 1)) (hr : OwnG 57 nodeCells 6 w' B v' (ns ++ [x])) (hwf : (Lit.int .i64 x.op).wf = true) (hx : WiO w B x.t) (hap : ∀ b, x.t.has b → ¬ hasN v ns b) : OwnN w' B v' (ns ++ [x]) := by
  have hin : ∀ (i : Nat) (y : Nd) (b : Nat), ns[i]? = some y → y.t.has b → hasN v ns b := fun i y b hy hb => .inr ⟨y, List.mem_of_getElem? hy, hb⟩
  have hnb : ∀ b, x.t.has b → some b ≠ v.ownBlock := fun b hb e => hap b hb (.inl e.symm)
  refine ⟨hr, ?_, ?_, ?_⟩
  · intro i y hy
    rcases get_snoc rfl hy with ⟨_, hy⟩ | ⟨_, rfl⟩
    · exact ⟨(h.x i y hy).1, (h.x i y hy).2.blocks fun b hb => hg.block b ((h.x i y hy).2.has_in hb).2 fun e => h.a i y b hy hb e.symm⟩
    · exact ⟨hwf, hx.blocks fun b hb => hg.block b (hx.has_in hb).2 (hnb b hb)⟩
  · intro i y b hy hb e
    rcases get_snoc rfl hy with ⟨_, hy⟩ | ⟨_, rfl⟩
    · rcases hat with q | q
      · exact h.a i y b hy hb (q ▸ e)
      · have h2 := (h.has_in (hin i y b hy hb)).2
        rw [q] at e
        have := Option.some.inj e
        omega
    · rcases hat with q | q
      · exact hnb b hb (q ▸ e).symm
      · have h2 := (hx.has_in hb).2
        rw [q] at e
        have := Option.some.inj e
        omega
  · intro i j y z b hij hy hz hb hb'
    rcases get_snoc rfl hz with ⟨hj, hz⟩ | ⟨hj, rfl⟩
    · rcases get_snoc rfl hy with ⟨_, hy⟩ | ⟨hi, _⟩
      · exact h.d i j y z b hij hy hz hb hb'
      · omega
    · rcases get_snoc rfl hy with ⟨_, hy⟩ | ⟨hi, _⟩
      · exact hap b hb' (hin i y b hy hb)
      · omega
end Go.Proofs.YtaijajajpnekbaaGreat.num
namespace Go.Proofs.YtaijajajpnekbaaGreat.num
set_option maxRecDepth 20000
open Go.RowKit
set_option linter.unusedVariables false
set_option linter.unusedSimpArgs false

theorem ownP_shapeW {w : World} {B : Nat} {v : Value} {l : List (Int × Int)} (h : OwnP w B v l) : ∃ A n c, v = .slice A n c := by
  rcases h.2 with ⟨rfl, _⟩ | ⟨g, cap, cur, rfl, _⟩
  · exact ⟨_, _, _, rfl⟩
  · exact ⟨_, _, _, rfl⟩
/-- What the copy hands back. -/
theorem wishcp_end {w wb : World} {t : Wi} {LA' PA' : Option Addr} {Ln' Lc' Pn' Pc' : Nat} {u0 u1 u2 u3 u4 : Value} (hwf : ((Lit.int .i64 t.kind).wf = true ∧ (Lit.int .i64 t.field).wf = true ∧ (Lit.int .i64 t.value).wf = true) ∧ t.ls.length ≤ 1048576 ∧ t.ps.length ≤ 1048576)
    (hl : OwnI wb (w.heap.size + 2) (.slice LA' Ln' Lc') t.ls) (hp : OwnP wb (w.heap.size + 2) (.slice PA' Pn' Pc') t.ps) (ha : ∀ b, (Value.slice LA' Ln' Lc').ownBlock = some b → (Value.slice PA' Pn' Pc').ownBlock ≠ some b) (hb : Below w.heap.size w wb) :
    ∃ t' : Wi, Ending.returned (.agg #[.int .i64 t.kind, .int .i64 t.field, .int .i64 t.value, .slice LA' Ln' Lc', .slice PA' Pn' Pc']) = .returned t'.val ∧ t'.dat = t.dat ∧ t'.Short ∧ WiO (((((wb.setCell ⟨w.heap.size + 1, 0, none⟩ u0).setCell ⟨w.heap.size + 1, 1, none⟩ u1).setCell ⟨w.heap.size + 1, 2, none⟩ u2).setCell ⟨w.heap.size + 1, 3, none⟩ u3).setCell ⟨w.heap.size + 1, 4, none⟩ u4) w.heap.size t' ∧
      Below w.heap.size w (((((wb.setCell ⟨w.heap.size + 1, 0, none⟩ u0).setCell ⟨w.heap.size + 1, 1, none⟩ u1).setCell ⟨w.heap.size + 1, 2, none⟩ u2).setCell ⟨w.heap.size + 1, 3, none⟩ u3).setCell ⟨w.heap.size + 1, 4, none⟩ u4) := by
  have hk : ∀ b, w.heap.size + 2 ≤ b → (((((wb.setCell ⟨w.heap.size + 1, 0, none⟩ u0).setCell ⟨w.heap.size + 1, 1, none⟩ u1).setCell ⟨w.heap.size + 1, 2, none⟩ u2).setCell ⟨w.heap.size + 1, 3, none⟩ u3).setCell ⟨w.heap.size + 1, 4, none⟩ u4).heap[b]? = wb.heap[b]? := fun b h => by
    repeat rw [heap_setCell_other _ _ _ _ (by simp; omega)]
  have hn : Ln' = t.ls.length ∧ Pn' = t.ps.length := by
    constructor
    · rcases hl.2 with ⟨e, h⟩ | ⟨g, cap, cur, e, _⟩ <;> (injection e with e1 e2 e3 <;> omega)
    · rcases hp.2 with ⟨e, h⟩ | ⟨g, cap, cur, e, _⟩ <;> (injection e with e1 e2 e3 <;> omega)
  refine ⟨⟨t.kind, t.field, t.value, LA', Ln', Lc', t.ls, PA', Pn', Pc', t.ps⟩, rfl, rfl, ⟨by show Ln' ≤ _; rw [hn.1]; exact hwf.2.1, by show Pn' ≤ _; rw [hn.2]; exact hwf.2.2⟩, ⟨hwf.1.1, hwf.1.2.1, hwf.1.2.2, ?_, ?_, ha⟩, ?_⟩
  · exact ownI_lowE (ownI_blocks hl fun b h => hk b (ownI_lows hl b h)) (by omega)
  · exact ownP_lowE (hp.blocks fun b h => hk b (hp.lows b h)) (by omega)
  · exact ((((hb.setCell (by show _ ≤ w.heap.size + 1; omega) _).setCell (by show _ ≤ w.heap.size + 1; omega) _).setCell (by show _ ≤ w.heap.size + 1; omega) _).setCell (by show _ ≤ w.heap.size + 1; omega) _).setCell (by show _ ≤ w.heap.size + 1; omega) _

set_option maxRecDepth 20000 in
set_option maxHeartbeats 3200000 in
theorem sWish_c (w : World) (B : Nat) (t : Wi) (hi : WiIn w B t) (hB : B ≤ w.heap.size) (hn : t.Short) :
    Calls Tryz.prog 48 #[t.val] w fun e w' => ∃ t' : Wi, e = .returned t'.val ∧ t'.dat = t.dat ∧ t'.Short ∧ WiO w' w.heap.size t' ∧ Below w.heap.size w w' := by
  have hval : t.val = .agg #[.int .i64 t.kind, .int .i64 t.field, .int .i64 t.value, .slice t.LA t.Ln t.Lc, .slice t.PA t.Pn t.Pc] := rfl
  rw [hval]
  have HB0 : Hid (Below w.heap.size w ((w.alloc (.cells #[.int .i64 t.kind, .int .i64 t.field, .int .i64 t.value, .slice t.LA t.Ln t.Lc, .slice t.PA t.Pn t.Pc] 55)).alloc (.cells #[.int .i64 0, .int .i64 0, .int .i64 0, .slice none 0 0, .slice none 0 0] 55))) := Lib.hid (((Below.refl _ w).alloc (Nat.le_refl _) _).alloc (by simp) _)
  have HI : Hid (∀ W, Below (w.heap.size + 2) ((w.alloc (.cells #[.int .i64 t.kind, .int .i64 t.field, .int .i64 t.value, .slice t.LA t.Ln t.Lc, .slice t.PA t.Pn t.Pc] 55)).alloc (.cells #[.int .i64 0, .int .i64 0, .int .i64 0, .slice none 0 0, .slice none 0 0] 55)) W → Ints W B t.LA t.Ln t.ls) := Lib.hid fun W h => hi.l.below ((HB0.out.mono hB).trans (h.mono (by omega)))
  have HP : Hid (∀ W, Below (w.heap.size + 2) ((w.alloc (.cells #[.int .i64 t.kind, .int .i64 t.field, .int .i64 t.value, .slice t.LA t.Ln t.Lc, .slice t.PA t.Pn t.Pc] 55)).alloc (.cells #[.int .i64 0, .int .i64 0, .int .i64 0, .slice none 0 0, .slice none 0 0] 55)) W → Pairs W B t.PA t.Pn t.ps) := Lib.hid fun W h => hi.p.below ((HB0.out.mono hB).trans (h.mono (by omega)))
  have HWf : Hid (((Lit.int .i64 t.kind).wf = true ∧ (Lit.int .i64 t.field).wf = true ∧ (Lit.int .i64 t.value).wf = true) ∧ t.ls.length ≤ 1048576 ∧ t.ps.length ≤ 1048576) := Lib.hid ⟨⟨hi.k, hi.f, hi.v⟩, by rw [hi.l.1]; exact hn.1, by rw [hi.p.1]; exact hn.2⟩
  have hcapI : t.Ln * 8 ≤ 140737488355328 := by have := hn.1; omega
  have hcapP : t.Pn * 16 ≤ 140737488355328 := by have := hn.2; omega
  have HZr : Hid (((w.alloc (.cells #[.int .i64 t.kind, .int .i64 t.field, .int .i64 t.value, .slice t.LA t.Ln t.Lc, .slice t.PA t.Pn t.Pc] 55)).alloc (.cells #[.int .i64 0, .int .i64 0, .int .i64 0, .slice none 0 0, .slice none 0 0] 55)).heap[w.heap.size + 1]? = some (.cells #[.int .i64 0, .int .i64 0, .int .i64 0, .slice none 0 0, .slice none 0 0] 55 (0, 0))) := Lib.hid (heap_alloc2_new w _ _)
  have hbx := (Box5.new w t 55).alloc (.cells #[.int .i64 0, .int .i64 0, .int .i64 0, .slice none 0 0, .slice none 0 0] 55)
  obtain ⟨-, x_0, x_1, x_2, x_3, x_4⟩ := hbx
  clear hval hi hn
  have X0 := Lib.hid x_0
  have X1 := Lib.hid x_1
  have X2 := Lib.hid x_2
  have X3 := Lib.hid x_3
  have X4 := Lib.hid x_4
  have hs0 : w.heap.size + 2 ≤ ((w.alloc (.cells #[.int .i64 t.kind, .int .i64 t.field, .int .i64 t.value, .slice t.LA t.Ln t.Lc, .slice t.PA t.Pn t.Pc] 55)).alloc (.cells #[.int .i64 0, .int .i64 0, .int .i64 0, .slice none 0 0, .slice none 0 0] 55)).drew.heap.size := by show _ ≤ ((w.alloc (.cells #[.int .i64 t.kind, .int .i64 t.field, .int .i64 t.value, .slice t.LA t.Ln t.Lc, .slice t.PA t.Pn t.Pc] 55)).alloc (.cells #[.int .i64 0, .int .i64 0, .int .i64 0, .slice none 0 0, .slice none 0 0] 55)).heap.size; simp
  have HK0 : Below (w.heap.size + 2) ((w.alloc (.cells #[.int .i64 t.kind, .int .i64 t.field, .int .i64 t.value, .slice t.LA t.Ln t.Lc, .slice t.PA t.Pn t.Pc] 55)).alloc (.cells #[.int .i64 0, .int .i64 0, .int .i64 0, .slice none 0 0, .slice none 0 0] 55)) ((w.alloc (.cells #[.int .i64 t.kind, .int .i64 t.field, .int .i64 t.value, .slice t.LA t.Ln t.Lc, .slice t.PA t.Pn t.Pc] 55)).alloc (.cells #[.int .i64 0, .int .i64 0, .int .i64 0, .slice none 0 0, .slice none 0 0] 55)).drew := (Below.refl _ _).drew
  go_enter Tryz.func48, Tryz.ntmps48
  go_wp2
  have hS0 : (fun w' => w'.cell? ⟨w.heap.size, 0, none⟩ = some (.int .i64 t.kind) ∧ w'.cell? ⟨w.heap.size, 1, none⟩ = some (.int .i64 t.field) ∧ w'.cell? ⟨w.heap.size, 2, none⟩ = some (.int .i64 t.value) ∧ w'.cell? ⟨w.heap.size, 3, none⟩ = some (.slice t.LA t.Ln t.Lc) ∧ w'.cell? ⟨w.heap.size, 4, none⟩ = some (.slice t.PA t.Pn t.Pc)) ((w.alloc (.cells #[.int .i64 t.kind, .int .i64 t.field, .int .i64 t.value, .slice t.LA t.Ln t.Lc, .slice t.PA t.Pn t.Pc] 55)).alloc (.cells #[.int .i64 0, .int .i64 0, .int .i64 0, .slice none 0 0, .slice none 0 0] 55)).drew := ⟨x_0, x_1, x_2, x_3, x_4⟩
  clear x_0 x_1 x_2 x_3 x_4
  generalize ((w.alloc (.cells #[.int .i64 t.kind, .int .i64 t.field, .int .i64 t.value, .slice t.LA t.Ln t.Lc, .slice t.PA t.Pn t.Pc] 55)).alloc (.cells #[.int .i64 0, .int .i64 0, .int .i64 0, .slice none 0 0, .slice none 0 0] 55)) = w00 at *
  refine wp_region_held (S := fun w' => w'.cell? ⟨w.heap.size, 0, none⟩ = some (.int .i64 t.kind) ∧ w'.cell? ⟨w.heap.size, 1, none⟩ = some (.int .i64 t.field) ∧ w'.cell? ⟨w.heap.size, 2, none⟩ = some (.int .i64 t.value) ∧ w'.cell? ⟨w.heap.size, 3, none⟩ = some (.slice t.LA t.Ln t.Lc) ∧ w'.cell? ⟨w.heap.size, 4, none⟩ = some (.slice t.PA t.Pn t.Pc)) (by kernel_rfl) ?_
  change wpAnyH _ _ _ _ _ _ _ _ (World.drew _)
  generalize w00.drew = w0 at *
  refine takeY 3 (i := 0) (v := ?vt1) rfl rfl (by kernel_rfl) (by kernel_rfl) (by kernel_rfl) (fun _ _ _ h => h) (by kernel_rfl) ?yt1 hS0 ?_
  case yt1 =>
    intro w' hw'; (try dsimp only at hw'); obtain ⟨e0, e1, e2, e3, e4⟩ := hw'; go_simp; try with_reducible rfl
  simp only [Act.put, List.setIfInBounds_toArray, List.set_cons_zero, List.set_cons_succ]
  refine takeY 4 (i := 1) (v := ?vt2) rfl rfl (by kernel_rfl) (by kernel_rfl) (by kernel_rfl) (fun _ _ _ h => h) (by kernel_rfl) ?yt2 hS0 ?_
  case yt2 =>
    intro w' hw'; (try dsimp only at hw'); obtain ⟨e0, e1, e2, e3, e4⟩ := hw'; go_simp; try with_reducible rfl
  simp only [Act.put, List.setIfInBounds_toArray, List.set_cons_zero, List.set_cons_succ]
  refine takeY 5 (i := 2) (v := ?vt3) rfl rfl (by kernel_rfl) (by kernel_rfl) (by kernel_rfl) (fun _ _ _ h => h) (by kernel_rfl) ?yt3 hS0 ?_
  case yt3 =>
    intro w' hw'; (try dsimp only at hw'); obtain ⟨e0, e1, e2, e3, e4⟩ := hw'; go_simp; try with_reducible rfl
  simp only [Act.put, List.setIfInBounds_toArray, List.set_cons_zero, List.set_cons_succ]
  refine takeY 6 (i := 3) (v := ?vt4) rfl rfl (by kernel_rfl) (by kernel_rfl) (by kernel_rfl) (fun _ _ _ h => h) (by kernel_rfl) ?yt4 hS0 ?_
  case yt4 =>
    intro w' hw'; (try dsimp only at hw'); obtain ⟨e0, e1, e2, e3, e4⟩ := hw'; go_simp; try with_reducible rfl
  simp only [Act.put, List.setIfInBounds_toArray, List.set_cons_zero, List.set_cons_succ]
  refine takeY 7 (i := 4) (v := ?vt5) rfl rfl (by kernel_rfl) (by kernel_rfl) (by kernel_rfl) (fun _ _ _ h => h) (by kernel_rfl) ?yt5 hS0 ?_
  case yt5 =>
    intro w' hw'; (try dsimp only at hw'); obtain ⟨e0, e1, e2, e3, e4⟩ := hw'; go_simp; try with_reducible rfl
  simp only [Act.put, List.setIfInBounds_toArray, List.set_cons_zero, List.set_cons_succ]
  refine takeY 8 (i := 5) (v := ?vt6) rfl rfl (by kernel_rfl) (by kernel_rfl) (by kernel_rfl) (fun _ _ _ h => h) (by kernel_rfl) ?yt6 hS0 ?_
  case yt6 =>
    intro w' hw'; (try dsimp only at hw'); obtain ⟨e0, e1, e2, e3, e4⟩ := hw'; go_simp; try with_reducible rfl
  simp only [Act.put, List.setIfInBounds_toArray, List.set_cons_zero, List.set_cons_succ]
  refine takeY 10 (i := 7) (v := ?vt7) rfl rfl (by kernel_rfl) (by kernel_rfl) (by kernel_rfl) (fun _ _ _ h => h) (by kernel_rfl) ?yt7 hS0 ?_
  case yt7 =>
    intro w' hw'; (try dsimp only at hw'); obtain ⟨e0, e1, e2, e3, e4⟩ := hw'; go_simp; try with_reducible rfl
  simp only [Act.put, List.setIfInBounds_toArray, List.set_cons_zero, List.set_cons_succ]
  refine takeY 11 (i := 8) (v := ?vt8) rfl rfl (by kernel_rfl) (by kernel_rfl) (by kernel_rfl) (fun _ _ _ h => h) (by kernel_rfl) ?yt8 hS0 ?_
  case yt8 =>
    intro w' hw'; (try dsimp only at hw'); obtain ⟨e0, e1, e2, e3, e4⟩ := hw'; go_simp; try with_reducible rfl
  simp only [Act.put, List.setIfInBounds_toArray, List.set_cons_zero, List.set_cons_succ]
  refine takeY 14 (i := 11) (v := ?vt9) rfl rfl (by kernel_rfl) (by kernel_rfl) (by kernel_rfl) (fun _ _ _ h => h) (by kernel_rfl) ?yt9 hS0 ?_
  case yt9 =>
    intro w' hw'; (try dsimp only at hw'); obtain ⟨e0, e1, e2, e3, e4⟩ := hw'; go_simp; try with_reducible rfl
  simp only [Act.put, List.setIfInBounds_toArray, List.set_cons_zero, List.set_cons_succ]
  refine takeY 15 (i := 12) (v := ?vt10) rfl rfl (by kernel_rfl) (by kernel_rfl) (by kernel_rfl) (fun _ _ _ h => h) (by kernel_rfl) ?yt10 hS0 ?_
  case yt10 =>
    intro w' hw'; (try dsimp only at hw'); obtain ⟨e0, e1, e2, e3, e4⟩ := hw'; go_simp; try with_reducible rfl
  simp only [Act.put, List.setIfInBounds_toArray, List.set_cons_zero, List.set_cons_succ]
  refine wpAnyH_ready (rs := [6, 10]) (by kernel_rfl) (by simp) ?_
  refine AllReadyH.cons rfl (fun K hK => ?_) (AllReadyH.cons rfl (fun K hK => ?_) AllReadyH.nil)
  · go_simp
    have o1 := OwnI.empty w0 (w.heap.size + 2) hs0
    try simp only [World.size_alloc] at o1
    have k1 := HK0.alloc hs0 (.cells #[] 3)
    have hs1 : w.heap.size + 2 ≤ (w0.alloc (.cells #[] 3)).heap.size := Nat.le_trans hs0 (by simp)
    refine hK.out _ _ ⟨(k1.cell (p := ⟨w.heap.size, 0, none⟩) (by simp)).trans X0.out, (k1.cell (p := ⟨w.heap.size, 1, none⟩) (by simp)).trans X1.out, (k1.cell (p := ⟨w.heap.size, 2, none⟩) (by simp)).trans X2.out, (k1.cell (p := ⟨w.heap.size, 3, none⟩) (by simp)).trans X3.out, (k1.cell (p := ⟨w.heap.size, 4, none⟩) (by simp)).trans X4.out⟩ (fun hS1 => ?_)
    clear hK K
    try simp only [Act.put, List.setIfInBounds_toArray, List.set_cons_zero, List.set_cons_succ]
    refine wpAnyH_ready (rs := [9, 10]) (by kernel_rfl) (by simp) ?_
    refine AllReadyH.cons rfl (fun K hK => ?_) (AllReadyH.cons rfl (fun K hK => ?_) AllReadyH.nil)
    · obtain ⟨v9, wa, hr9, ho9, hg9, ha9⟩ := run_spreadI (ty := 52) (c := t.Lc) o1 (HI.out _ k1) (by simpa using hcapI) hs1
      refine step_run _ (by rfl) (.tmp 9) (.tmp 11) 52 (by rfl) _ _ (by rfl) (by rfl) hr9 ?_
      have ka := k1.grown hg9 hs1 (fun k hk => ownI_lows o1 k hk)
      have hsa : w.heap.size + 2 ≤ wa.heap.size := Nat.le_trans hs1 hg9.size
      rw [List.nil_append] at ho9
      refine hK.out _ _ ⟨(ka.cell (p := ⟨w.heap.size, 0, none⟩) (by simp)).trans X0.out, (ka.cell (p := ⟨w.heap.size, 1, none⟩) (by simp)).trans X1.out, (ka.cell (p := ⟨w.heap.size, 2, none⟩) (by simp)).trans X2.out, (ka.cell (p := ⟨w.heap.size, 3, none⟩) (by simp)).trans X3.out, (ka.cell (p := ⟨w.heap.size, 4, none⟩) (by simp)).trans X4.out⟩ (fun hS2 => ?_)
      clear hK K
      try simp only [Act.put, List.setIfInBounds_toArray, List.set_cons_zero, List.set_cons_succ]
      refine wpAnyH_ready (rs := [10]) (by kernel_rfl) (by simp) ?_
      refine AllReadyH.cons rfl (fun K hK => ?_) AllReadyH.nil
      have ho9o := ho9
      go_simp
      have o2 := OwnP.empty wa (w.heap.size + 2) hsa
      try simp only [World.size_alloc] at o2
      have k3 := ka.alloc hsa (.cells #[] 79)
      have hs3 : w.heap.size + 2 ≤ (wa.alloc (.cells #[] 79)).heap.size := Nat.le_trans hsa (by simp)
      have ho9 := ownI_below ho9 ((Below.refl _ _).alloc (Nat.le_refl _) (.cells #[] 79))
      refine hK.out _ _ ⟨(k3.cell (p := ⟨w.heap.size, 0, none⟩) (by simp)).trans X0.out, (k3.cell (p := ⟨w.heap.size, 1, none⟩) (by simp)).trans X1.out, (k3.cell (p := ⟨w.heap.size, 2, none⟩) (by simp)).trans X2.out, (k3.cell (p := ⟨w.heap.size, 3, none⟩) (by simp)).trans X3.out, (k3.cell (p := ⟨w.heap.size, 4, none⟩) (by simp)).trans X4.out⟩ (fun hS3 => ?_)
      clear hK K
      try simp only [Act.put, List.setIfInBounds_toArray, List.set_cons_zero, List.set_cons_succ]
      refine wpAnyH_ready (rs := [13]) (by kernel_rfl) (by simp) ?_
      refine AllReadyH.cons rfl (fun K hK => ?_) AllReadyH.nil
      obtain ⟨vp, wb, hrp, hop, hgp, hap⟩ := run_spreadP (ty := 53) (c := t.Pc) o2 (HP.out _ k3) (by simpa using hcapP) hs3
      refine step_run _ (by rfl) (.tmp 13) (.tmp 15) 53 (by rfl) _ _ (by rfl) (by rfl) hrp ?_
      have kb := k3.grown hgp hs3 (fun k hk => o2.lows k hk)
      have hsb : w.heap.size + 2 ≤ wb.heap.size := Nat.le_trans hs3 hgp.size
      rw [List.nil_append] at hop
      have ho9b : OwnI wb (w.heap.size + 2) v9 t.ls := ownI_blocks ho9 fun k hk => hgp.block k (ownI_tops ho9 k hk) (fun e => by have h1 := ownI_tops ho9o k hk; cases e; exact absurd h1 (Nat.lt_irrefl _))
      have hapart : ∀ b, v9.ownBlock = some b → vp.ownBlock ≠ some b := fun b h1 h2 => by
        have h3 := ownI_tops ho9o b h1
        rcases hap with q | q
        · rw [q] at h2; cases h2; exact absurd h3 (Nat.lt_irrefl _)
        · rw [q] at h2; have := Option.some.inj h2; simp at this; omega
      refine hK.out _ _ ⟨(kb.cell (p := ⟨w.heap.size, 0, none⟩) (by simp)).trans X0.out, (kb.cell (p := ⟨w.heap.size, 1, none⟩) (by simp)).trans X1.out, (kb.cell (p := ⟨w.heap.size, 2, none⟩) (by simp)).trans X2.out, (kb.cell (p := ⟨w.heap.size, 3, none⟩) (by simp)).trans X3.out, (kb.cell (p := ⟨w.heap.size, 4, none⟩) (by simp)).trans X4.out⟩ (fun hS5 => ?_)
      clear hK K
      try simp only [Act.put, List.setIfInBounds_toArray, List.set_cons_zero, List.set_cons_succ]
      obtain ⟨LA', Ln', Lc', rfl, -⟩ := ho9b.ints
      obtain ⟨PA', Pn', Pc', rfl⟩ := ownP_shapeW hop
      refine takeY 17 (i := 14) (v := ?vt11) rfl rfl (by kernel_rfl) (by kernel_rfl) (by kernel_rfl) (fun _ _ _ h => h) (by kernel_rfl) ?yt11 hS5 ?_
      case yt11 =>
        intro w' hw'; (try dsimp only at hw'); obtain ⟨e0, e1, e2, e3, e4⟩ := hw'; go_simp; try with_reducible rfl
      simp only [Act.put, List.setIfInBounds_toArray, List.set_cons_zero, List.set_cons_succ]
      have hrow : wb.heap[w.heap.size + 1]? = some (.cells #[.int .i64 0, .int .i64 0, .int .i64 0, .slice none 0 0, .slice none 0 0] 55 (0, 0)) := (kb.block _ (by omega)).trans HZr.out
      have z0 : wb.cell? ⟨w.heap.size + 1, 0, none⟩ = some (.int .i64 0) := cell_of_row wb _ 0 _ _ (0, 0) hrow
      have z1 : wb.cell? ⟨w.heap.size + 1, 1, none⟩ = some (.int .i64 0) := cell_of_row wb _ 1 _ _ (0, 0) hrow
      have z2 : wb.cell? ⟨w.heap.size + 1, 2, none⟩ = some (.int .i64 0) := cell_of_row wb _ 2 _ _ (0, 0) hrow
      have z3 : wb.cell? ⟨w.heap.size + 1, 3, none⟩ = some (.slice none 0 0) := cell_of_row wb _ 3 _ _ (0, 0) hrow
      have z4 : wb.cell? ⟨w.heap.size + 1, 4, none⟩ = some (.slice none 0 0) := cell_of_row wb _ 4 _ _ (0, 0) hrow
      have f0 : wb.frozen? ⟨w.heap.size + 1, 0, none⟩ = false := frozen_of_row wb _ 0 _ _ hrow
      have f1 : wb.frozen? ⟨w.heap.size + 1, 1, none⟩ = false := frozen_of_row wb _ 1 _ _ hrow
      have f2 : wb.frozen? ⟨w.heap.size + 1, 2, none⟩ = false := frozen_of_row wb _ 2 _ _ hrow
      have f3 : wb.frozen? ⟨w.heap.size + 1, 3, none⟩ = false := frozen_of_row wb _ 3 _ _ hrow
      have f4 : wb.frozen? ⟨w.heap.size + 1, 4, none⟩ = false := frozen_of_row wb _ 4 _ _ hrow
      have HRow := Lib.hid hrow
      clear hrow
      refine wpAnyH_ready (rs := [15]) (by kernel_rfl) (by simp) ?_
      refine AllReadyH.cons rfl (fun K hK => ?_) AllReadyH.nil
      go_simp
      refine hK.out _ _ (by
        refine ⟨?_, ?_, ?_, ?_, ?_⟩
        · repeat rw [World.cell?_setCell_other _ _ _ _ (by simp)]
          exact (kb.cell (p := ⟨w.heap.size, 0, none⟩) (by simp)).trans X0.out
        · repeat rw [World.cell?_setCell_other _ _ _ _ (by simp)]
          exact (kb.cell (p := ⟨w.heap.size, 1, none⟩) (by simp)).trans X1.out
        · repeat rw [World.cell?_setCell_other _ _ _ _ (by simp)]
          exact (kb.cell (p := ⟨w.heap.size, 2, none⟩) (by simp)).trans X2.out
        · repeat rw [World.cell?_setCell_other _ _ _ _ (by simp)]
          exact (kb.cell (p := ⟨w.heap.size, 3, none⟩) (by simp)).trans X3.out
        · repeat rw [World.cell?_setCell_other _ _ _ _ (by simp)]
          exact (kb.cell (p := ⟨w.heap.size, 4, none⟩) (by simp)).trans X4.out) (fun hS9 => ?_)
      clear hK K
      refine wpAnyH_done (by kernel_rfl) ?_ _
      have HEnd := Lib.hid (And.intro ho9b (And.intro hop (And.intro hapart kb)))
      clear z0 z1 z2 z3 z4 f0 f1 f2 f3 f4
      go_wp2
      refine bodyPost_ret_by (results_cell_row rfl _ _ (w.heap.size + 1) 55 _ (0, 0) _ rfl (five_set HRow.out) Tryz.underlying55 rfl (by kernel_rfl)) rfl ?_
      exact wishcp_end HWf.out HEnd.out.1 HEnd.out.2.1 HEnd.out.2.2.1 (HB0.out.trans (HEnd.out.2.2.2.mono (by omega)))
    · go_simp
      have o2 := OwnP.empty (w0.alloc (.cells #[] 3)) (w.heap.size + 2) hs1
      try simp only [World.size_alloc] at o2
      have k2 := k1.alloc hs1 (.cells #[] 79)
      have hs2 : w.heap.size + 2 ≤ ((w0.alloc (.cells #[] 3)).alloc (.cells #[] 79)).heap.size := Nat.le_trans hs1 (by simp)
      have o1 := ownI_below o1 ((Below.refl _ _).alloc (Nat.le_refl _) (.cells #[] 79))
      refine hK.out _ _ ⟨(k2.cell (p := ⟨w.heap.size, 0, none⟩) (by simp)).trans X0.out, (k2.cell (p := ⟨w.heap.size, 1, none⟩) (by simp)).trans X1.out, (k2.cell (p := ⟨w.heap.size, 2, none⟩) (by simp)).trans X2.out, (k2.cell (p := ⟨w.heap.size, 3, none⟩) (by simp)).trans X3.out, (k2.cell (p := ⟨w.heap.size, 4, none⟩) (by simp)).trans X4.out⟩ (fun hS2 => ?_)
      clear hK K
      try simp only [Act.put, List.setIfInBounds_toArray, List.set_cons_zero, List.set_cons_succ]
      refine wpAnyH_ready (rs := [9]) (by kernel_rfl) (by simp) ?_
      refine AllReadyH.cons rfl (fun K hK => ?_) AllReadyH.nil
      obtain ⟨v9, wa, hr9, ho9, hg9, ha9⟩ := run_spreadI (ty := 52) (c := t.Lc) o1 (HI.out _ k2) (by simpa using hcapI) hs2
      refine step_run _ (by rfl) (.tmp 9) (.tmp 11) 52 (by rfl) _ _ (by rfl) (by rfl) hr9 ?_
      have ka := k2.grown hg9 hs2 (fun k hk => ownI_lows o1 k hk)
      have hsa : w.heap.size + 2 ≤ wa.heap.size := Nat.le_trans hs2 hg9.size
      rw [List.nil_append] at ho9
      have o2 : OwnP wa (w.heap.size + 2) _ [] := o2.blocks fun k hk => hg9.block k (o2.tops k hk) (fun e => by have h1 := Option.some.inj hk; have h2 := Option.some.inj e; simp at h1 h2; omega)
      refine hK.out _ _ ⟨(ka.cell (p := ⟨w.heap.size, 0, none⟩) (by simp)).trans X0.out, (ka.cell (p := ⟨w.heap.size, 1, none⟩) (by simp)).trans X1.out, (ka.cell (p := ⟨w.heap.size, 2, none⟩) (by simp)).trans X2.out, (ka.cell (p := ⟨w.heap.size, 3, none⟩) (by simp)).trans X3.out, (ka.cell (p := ⟨w.heap.size, 4, none⟩) (by simp)).trans X4.out⟩ (fun hS3 => ?_)
      clear hK K
      try simp only [Act.put, List.setIfInBounds_toArray, List.set_cons_zero, List.set_cons_succ]
      refine wpAnyH_ready (rs := [13]) (by kernel_rfl) (by simp) ?_
      refine AllReadyH.cons rfl (fun K hK => ?_) AllReadyH.nil
      obtain ⟨vp, wb, hrp, hop, hgp, hap⟩ := run_spreadP (ty := 53) (c := t.Pc) o2 (HP.out _ ka) (by simpa using hcapP) hsa
      refine step_run _ (by rfl) (.tmp 13) (.tmp 15) 53 (by rfl) _ _ (by rfl) (by rfl) hrp ?_
      have kb := ka.grown hgp hsa (fun k hk => o2.lows k hk)
      have hsb : w.heap.size + 2 ≤ wb.heap.size := Nat.le_trans hsa hgp.size
      rw [List.nil_append] at hop
      have ho9b : OwnI wb (w.heap.size + 2) v9 t.ls := ownI_blocks ho9 fun k hk => hgp.block k (ownI_tops ho9 k hk) (fun e => by rcases ha9 with q | q <;> (rw [q] at hk; have h1 := Option.some.inj hk; have h2 := Option.some.inj e; (try simp at h1); (try simp at h2); omega))
      have hapart : ∀ b, v9.ownBlock = some b → vp.ownBlock ≠ some b := fun b h1 h2 => by
        have h3 := ownI_tops ho9 b h1
        rcases hap with q | q
        · rw [q] at h2; rcases ha9 with q' | q' <;> (rw [q'] at h1; have h4 := Option.some.inj h1; have h5 := Option.some.inj h2; (try simp at h4); (try simp at h5); omega)
        · rw [q] at h2; have := Option.some.inj h2; omega
      refine hK.out _ _ ⟨(kb.cell (p := ⟨w.heap.size, 0, none⟩) (by simp)).trans X0.out, (kb.cell (p := ⟨w.heap.size, 1, none⟩) (by simp)).trans X1.out, (kb.cell (p := ⟨w.heap.size, 2, none⟩) (by simp)).trans X2.out, (kb.cell (p := ⟨w.heap.size, 3, none⟩) (by simp)).trans X3.out, (kb.cell (p := ⟨w.heap.size, 4, none⟩) (by simp)).trans X4.out⟩ (fun hS5 => ?_)
      clear hK K
      try simp only [Act.put, List.setIfInBounds_toArray, List.set_cons_zero, List.set_cons_succ]
      obtain ⟨LA', Ln', Lc', rfl, -⟩ := ho9b.ints
      obtain ⟨PA', Pn', Pc', rfl⟩ := ownP_shapeW hop
      refine takeY 17 (i := 14) (v := ?vt12) rfl rfl (by kernel_rfl) (by kernel_rfl) (by kernel_rfl) (fun _ _ _ h => h) (by kernel_rfl) ?yt12 hS5 ?_
      case yt12 =>
        intro w' hw'; (try dsimp only at hw'); obtain ⟨e0, e1, e2, e3, e4⟩ := hw'; go_simp; try with_reducible rfl
      simp only [Act.put, List.setIfInBounds_toArray, List.set_cons_zero, List.set_cons_succ]
      have hrow : wb.heap[w.heap.size + 1]? = some (.cells #[.int .i64 0, .int .i64 0, .int .i64 0, .slice none 0 0, .slice none 0 0] 55 (0, 0)) := (kb.block _ (by omega)).trans HZr.out
      have z0 : wb.cell? ⟨w.heap.size + 1, 0, none⟩ = some (.int .i64 0) := cell_of_row wb _ 0 _ _ (0, 0) hrow
      have z1 : wb.cell? ⟨w.heap.size + 1, 1, none⟩ = some (.int .i64 0) := cell_of_row wb _ 1 _ _ (0, 0) hrow
      have z2 : wb.cell? ⟨w.heap.size + 1, 2, none⟩ = some (.int .i64 0) := cell_of_row wb _ 2 _ _ (0, 0) hrow
      have z3 : wb.cell? ⟨w.heap.size + 1, 3, none⟩ = some (.slice none 0 0) := cell_of_row wb _ 3 _ _ (0, 0) hrow
      have z4 : wb.cell? ⟨w.heap.size + 1, 4, none⟩ = some (.slice none 0 0) := cell_of_row wb _ 4 _ _ (0, 0) hrow
      have f0 : wb.frozen? ⟨w.heap.size + 1, 0, none⟩ = false := frozen_of_row wb _ 0 _ _ hrow
      have f1 : wb.frozen? ⟨w.heap.size + 1, 1, none⟩ = false := frozen_of_row wb _ 1 _ _ hrow
      have f2 : wb.frozen? ⟨w.heap.size + 1, 2, none⟩ = false := frozen_of_row wb _ 2 _ _ hrow
      have f3 : wb.frozen? ⟨w.heap.size + 1, 3, none⟩ = false := frozen_of_row wb _ 3 _ _ hrow
      have f4 : wb.frozen? ⟨w.heap.size + 1, 4, none⟩ = false := frozen_of_row wb _ 4 _ _ hrow
      have HRow := Lib.hid hrow
      clear hrow
      refine wpAnyH_ready (rs := [15]) (by kernel_rfl) (by simp) ?_
      refine AllReadyH.cons rfl (fun K hK => ?_) AllReadyH.nil
      go_simp
      refine hK.out _ _ (by
        refine ⟨?_, ?_, ?_, ?_, ?_⟩
        · repeat rw [World.cell?_setCell_other _ _ _ _ (by simp)]
          exact (kb.cell (p := ⟨w.heap.size, 0, none⟩) (by simp)).trans X0.out
        · repeat rw [World.cell?_setCell_other _ _ _ _ (by simp)]
          exact (kb.cell (p := ⟨w.heap.size, 1, none⟩) (by simp)).trans X1.out
        · repeat rw [World.cell?_setCell_other _ _ _ _ (by simp)]
          exact (kb.cell (p := ⟨w.heap.size, 2, none⟩) (by simp)).trans X2.out
        · repeat rw [World.cell?_setCell_other _ _ _ _ (by simp)]
          exact (kb.cell (p := ⟨w.heap.size, 3, none⟩) (by simp)).trans X3.out
        · repeat rw [World.cell?_setCell_other _ _ _ _ (by simp)]
          exact (kb.cell (p := ⟨w.heap.size, 4, none⟩) (by simp)).trans X4.out) (fun hS9 => ?_)
      clear hK K
      refine wpAnyH_done (by kernel_rfl) ?_ _
      have HEnd := Lib.hid (And.intro ho9b (And.intro hop (And.intro hapart kb)))
      clear z0 z1 z2 z3 z4 f0 f1 f2 f3 f4
      go_wp2
      refine bodyPost_ret_by (results_cell_row rfl _ _ (w.heap.size + 1) 55 _ (0, 0) _ rfl (five_set HRow.out) Tryz.underlying55 rfl (by kernel_rfl)) rfl ?_
      exact wishcp_end HWf.out HEnd.out.1 HEnd.out.2.1 HEnd.out.2.2.1 (HB0.out.trans (HEnd.out.2.2.2.mono (by omega)))
  · go_simp
    have o2 := OwnP.empty w0 (w.heap.size + 2) hs0
    try simp only [World.size_alloc] at o2
    have k1 := HK0.alloc hs0 (.cells #[] 79)
    have hs1 : w.heap.size + 2 ≤ (w0.alloc (.cells #[] 79)).heap.size := Nat.le_trans hs0 (by simp)
    refine hK.out _ _ ⟨(k1.cell (p := ⟨w.heap.size, 0, none⟩) (by simp)).trans X0.out, (k1.cell (p := ⟨w.heap.size, 1, none⟩) (by simp)).trans X1.out, (k1.cell (p := ⟨w.heap.size, 2, none⟩) (by simp)).trans X2.out, (k1.cell (p := ⟨w.heap.size, 3, none⟩) (by simp)).trans X3.out, (k1.cell (p := ⟨w.heap.size, 4, none⟩) (by simp)).trans X4.out⟩ (fun hS1 => ?_)
    clear hK K
    try simp only [Act.put, List.setIfInBounds_toArray, List.set_cons_zero, List.set_cons_succ]
    refine wpAnyH_ready (rs := [6]) (by kernel_rfl) (by simp) ?_
    refine AllReadyH.cons rfl (fun K hK => ?_) AllReadyH.nil
    go_simp
    have o1 := OwnI.empty (w0.alloc (.cells #[] 79)) (w.heap.size + 2) hs1
    try simp only [World.size_alloc] at o1
    have k2 := k1.alloc hs1 (.cells #[] 3)
    have hs2 : w.heap.size + 2 ≤ ((w0.alloc (.cells #[] 79)).alloc (.cells #[] 3)).heap.size := Nat.le_trans hs1 (by simp)
    have o2 := o2.below ((Below.refl _ _).alloc (Nat.le_refl _) (.cells #[] 3))
    refine hK.out _ _ ⟨(k2.cell (p := ⟨w.heap.size, 0, none⟩) (by simp)).trans X0.out, (k2.cell (p := ⟨w.heap.size, 1, none⟩) (by simp)).trans X1.out, (k2.cell (p := ⟨w.heap.size, 2, none⟩) (by simp)).trans X2.out, (k2.cell (p := ⟨w.heap.size, 3, none⟩) (by simp)).trans X3.out, (k2.cell (p := ⟨w.heap.size, 4, none⟩) (by simp)).trans X4.out⟩ (fun hS2 => ?_)
    clear hK K
    try simp only [Act.put, List.setIfInBounds_toArray, List.set_cons_zero, List.set_cons_succ]
    refine wpAnyH_ready (rs := [9]) (by kernel_rfl) (by simp) ?_
    refine AllReadyH.cons rfl (fun K hK => ?_) AllReadyH.nil
    obtain ⟨v9, wa, hr9, ho9, hg9, ha9⟩ := run_spreadI (ty := 52) (c := t.Lc) o1 (HI.out _ k2) (by simpa using hcapI) hs2
    refine step_run _ (by rfl) (.tmp 9) (.tmp 11) 52 (by rfl) _ _ (by rfl) (by rfl) hr9 ?_
    have ka := k2.grown hg9 hs2 (fun k hk => ownI_lows o1 k hk)
    have hsa : w.heap.size + 2 ≤ wa.heap.size := Nat.le_trans hs2 hg9.size
    rw [List.nil_append] at ho9
    have o2 : OwnP wa (w.heap.size + 2) _ [] := o2.blocks fun k hk => hg9.block k (o2.tops k hk) (fun e => by have h1 := Option.some.inj hk; have h2 := Option.some.inj e; simp at h1 h2; omega)
    refine hK.out _ _ ⟨(ka.cell (p := ⟨w.heap.size, 0, none⟩) (by simp)).trans X0.out, (ka.cell (p := ⟨w.heap.size, 1, none⟩) (by simp)).trans X1.out, (ka.cell (p := ⟨w.heap.size, 2, none⟩) (by simp)).trans X2.out, (ka.cell (p := ⟨w.heap.size, 3, none⟩) (by simp)).trans X3.out, (ka.cell (p := ⟨w.heap.size, 4, none⟩) (by simp)).trans X4.out⟩ (fun hS3 => ?_)
    clear hK K
    try simp only [Act.put, List.setIfInBounds_toArray, List.set_cons_zero, List.set_cons_succ]
    refine wpAnyH_ready (rs := [13]) (by kernel_rfl) (by simp) ?_
    refine AllReadyH.cons rfl (fun K hK => ?_) AllReadyH.nil
    obtain ⟨vp, wb, hrp, hop, hgp, hap⟩ := run_spreadP (ty := 53) (c := t.Pc) o2 (HP.out _ ka) (by simpa using hcapP) hsa
    refine step_run _ (by rfl) (.tmp 13) (.tmp 15) 53 (by rfl) _ _ (by rfl) (by rfl) hrp ?_
    have kb := ka.grown hgp hsa (fun k hk => o2.lows k hk)
    have hsb : w.heap.size + 2 ≤ wb.heap.size := Nat.le_trans hsa hgp.size
    rw [List.nil_append] at hop
    have ho9b : OwnI wb (w.heap.size + 2) v9 t.ls := ownI_blocks ho9 fun k hk => hgp.block k (ownI_tops ho9 k hk) (fun e => by rcases ha9 with q | q <;> (rw [q] at hk; have h1 := Option.some.inj hk; have h2 := Option.some.inj e; (try simp at h1); (try simp at h2); omega))
    have hapart : ∀ b, v9.ownBlock = some b → vp.ownBlock ≠ some b := fun b h1 h2 => by
      have h3 := ownI_tops ho9 b h1
      rcases hap with q | q
      · rw [q] at h2; rcases ha9 with q' | q' <;> (rw [q'] at h1; have h4 := Option.some.inj h1; have h5 := Option.some.inj h2; (try simp at h4); (try simp at h5); omega)
      · rw [q] at h2; have := Option.some.inj h2; omega
    refine hK.out _ _ ⟨(kb.cell (p := ⟨w.heap.size, 0, none⟩) (by simp)).trans X0.out, (kb.cell (p := ⟨w.heap.size, 1, none⟩) (by simp)).trans X1.out, (kb.cell (p := ⟨w.heap.size, 2, none⟩) (by simp)).trans X2.out, (kb.cell (p := ⟨w.heap.size, 3, none⟩) (by simp)).trans X3.out, (kb.cell (p := ⟨w.heap.size, 4, none⟩) (by simp)).trans X4.out⟩ (fun hS5 => ?_)
    clear hK K
    try simp only [Act.put, List.setIfInBounds_toArray, List.set_cons_zero, List.set_cons_succ]
    obtain ⟨LA', Ln', Lc', rfl, -⟩ := ho9b.ints
    obtain ⟨PA', Pn', Pc', rfl⟩ := ownP_shapeW hop
    refine takeY 17 (i := 14) (v := ?vt13) rfl rfl (by kernel_rfl) (by kernel_rfl) (by kernel_rfl) (fun _ _ _ h => h) (by kernel_rfl) ?yt13 hS5 ?_
    case yt13 =>
      intro w' hw'; (try dsimp only at hw'); obtain ⟨e0, e1, e2, e3, e4⟩ := hw'; go_simp; try with_reducible rfl
    simp only [Act.put, List.setIfInBounds_toArray, List.set_cons_zero, List.set_cons_succ]
    have hrow : wb.heap[w.heap.size + 1]? = some (.cells #[.int .i64 0, .int .i64 0, .int .i64 0, .slice none 0 0, .slice none 0 0] 55 (0, 0)) := (kb.block _ (by omega)).trans HZr.out
    have z0 : wb.cell? ⟨w.heap.size + 1, 0, none⟩ = some (.int .i64 0) := cell_of_row wb _ 0 _ _ (0, 0) hrow
    have z1 : wb.cell? ⟨w.heap.size + 1, 1, none⟩ = some (.int .i64 0) := cell_of_row wb _ 1 _ _ (0, 0) hrow
    have z2 : wb.cell? ⟨w.heap.size + 1, 2, none⟩ = some (.int .i64 0) := cell_of_row wb _ 2 _ _ (0, 0) hrow
    have z3 : wb.cell? ⟨w.heap.size + 1, 3, none⟩ = some (.slice none 0 0) := cell_of_row wb _ 3 _ _ (0, 0) hrow
    have z4 : wb.cell? ⟨w.heap.size + 1, 4, none⟩ = some (.slice none 0 0) := cell_of_row wb _ 4 _ _ (0, 0) hrow
    have f0 : wb.frozen? ⟨w.heap.size + 1, 0, none⟩ = false := frozen_of_row wb _ 0 _ _ hrow
    have f1 : wb.frozen? ⟨w.heap.size + 1, 1, none⟩ = false := frozen_of_row wb _ 1 _ _ hrow
    have f2 : wb.frozen? ⟨w.heap.size + 1, 2, none⟩ = false := frozen_of_row wb _ 2 _ _ hrow
    have f3 : wb.frozen? ⟨w.heap.size + 1, 3, none⟩ = false := frozen_of_row wb _ 3 _ _ hrow
    have f4 : wb.frozen? ⟨w.heap.size + 1, 4, none⟩ = false := frozen_of_row wb _ 4 _ _ hrow
    have HRow := Lib.hid hrow
    clear hrow
    refine wpAnyH_ready (rs := [15]) (by kernel_rfl) (by simp) ?_
    refine AllReadyH.cons rfl (fun K hK => ?_) AllReadyH.nil
    go_simp
    refine hK.out _ _ (by
      refine ⟨?_, ?_, ?_, ?_, ?_⟩
      · repeat rw [World.cell?_setCell_other _ _ _ _ (by simp)]
        exact (kb.cell (p := ⟨w.heap.size, 0, none⟩) (by simp)).trans X0.out
      · repeat rw [World.cell?_setCell_other _ _ _ _ (by simp)]
        exact (kb.cell (p := ⟨w.heap.size, 1, none⟩) (by simp)).trans X1.out
      · repeat rw [World.cell?_setCell_other _ _ _ _ (by simp)]
        exact (kb.cell (p := ⟨w.heap.size, 2, none⟩) (by simp)).trans X2.out
      · repeat rw [World.cell?_setCell_other _ _ _ _ (by simp)]
        exact (kb.cell (p := ⟨w.heap.size, 3, none⟩) (by simp)).trans X3.out
      · repeat rw [World.cell?_setCell_other _ _ _ _ (by simp)]
        exact (kb.cell (p := ⟨w.heap.size, 4, none⟩) (by simp)).trans X4.out) (fun hS9 => ?_)
    clear hK K
    refine wpAnyH_done (by kernel_rfl) ?_ _
    have HEnd := Lib.hid (And.intro ho9b (And.intro hop (And.intro hapart kb)))
    clear z0 z1 z2 z3 z4 f0 f1 f2 f3 f4
    go_wp2
    refine bodyPost_ret_by (results_cell_row rfl _ _ (w.heap.size + 1) 55 _ (0, 0) _ rfl (five_set HRow.out) Tryz.underlying55 rfl (by kernel_rfl)) rfl ?_
    exact wishcp_end HWf.out HEnd.out.1 HEnd.out.2.1 HEnd.out.2.2.1 (HB0.out.trans (HEnd.out.2.2.2.mono (by omega)))
end Go.Proofs.YtaijajajpnekbaaGreat.num
namespace Go.Proofs.YtaijajajpnekbaaGreat.num
set_option maxRecDepth 20000
open Go.RowKit
set_option linter.unusedVariables false
set_option linter.unusedSimpArgs false

theorem cloneI (w : World) (B : Nat) (A : Option Addr) (n c : Nat) (xs : List Int) (hi : Ints w B A n xs) (hB : B ≤ w.heap.size) (hn : n ≤ 1048576) :
    Calls Tryz.prog 46 #[.slice A n c] w fun e w' => ∃ v, e = .returned v ∧ OwnI w' w.heap.size v xs ∧ Below w.heap.size w w' := by
  have hq : ∀ (w : World) (a : Option Addr) (n c n' c' : Nat), (binOp .eql 52 (.slice a n c) (.slice none n' c')).run Tryz.prog w = .ok (.bool a.isNone) w := fun w a n c n' c' => Lib.run_eql_slice_nil w _ _ a n c n' c' Tryz.underlying52
  have HB1 : Hid (Below B w (w.alloc (.cells #[] 3))) := Lib.hid ((Below.refl B w).alloc hB _)
  have HX := Lib.hid hi
  cases A with
  | none =>
    obtain rfl : xs = [] := by
      obtain ⟨h1, h2⟩ := hi
      rcases Nat.eq_zero_or_pos n with e | e
      · exact List.eq_nil_of_length_eq_zero (by omega)
      · obtain ⟨_, _, h, _⟩ := h2 0 e; cases h
    clear hi HB1
    go_enter Tryz.func46, Tryz.ntmps46
    go_wp2
    go_ret
    exact ⟨_, rfl, ownI_nil _ _, Below.refl _ _⟩
  | some a =>
    clear hi
    obtain ⟨v', w', hr, ho, hg, ha⟩ := run_spreadI (ty := 52) (c := c) (OwnI.empty w w.heap.size (Nat.le_refl _)) (HX.out.below HB1.out) (by simp; omega) (by simp)
    have HO := Lib.hid ho
    have HG := Lib.hid hg
    clear ho hg ha
    go_enter Tryz.func46, Tryz.ntmps46
    go_wp2_with (at_builtin; refine Go.Lib.wpList_append_run_sl _ (by rfl) (.tmp 5) (.tmp 6) 52 (by rfl) _ _ (by rfl) (by rfl) hr ?_)
    clear hr
    go_wp2
    go_ret
    exact ⟨_, rfl, by simpa using HO.out, ((Below.refl _ w).alloc (Nat.le_refl _) _).grown HG.out (by simp) (by intro k hk; simp [Value.ownBlock] at hk; omega)⟩
theorem cloneP (w : World) (B : Nat) (A : Option Addr) (n c : Nat) (xs : List (Int × Int)) (hi : Pairs w B A n xs) (hB : B ≤ w.heap.size) (hn : n ≤ 1048576) :
    Calls Tryz.prog 47 #[.slice A n c] w fun e w' => ∃ v, e = .returned v ∧ OwnP w' w.heap.size v xs ∧ Below w.heap.size w w' := by
  have hq : ∀ (w : World) (a : Option Addr) (n c n' c' : Nat), (binOp .eql 53 (.slice a n c) (.slice none n' c')).run Tryz.prog w = .ok (.bool a.isNone) w := fun w a n c n' c' => Lib.run_eql_slice_nil w _ _ a n c n' c' Tryz.underlying53
  have HB1 : Hid (Below B w (w.alloc (.cells #[] 79))) := Lib.hid ((Below.refl B w).alloc hB _)
  have HX := Lib.hid hi
  cases A with
  | none =>
    obtain rfl : xs = [] := by
      obtain ⟨h1, h2⟩ := hi
      cases xs with
      | nil => rfl
      | cons p r => obtain ⟨_, _, h, _⟩ := h2 0 p rfl; cases h
    clear hi HB1
    go_enter Tryz.func47, Tryz.ntmps47
    go_wp2
    go_ret
    exact ⟨_, rfl, OwnP.nil _ _, Below.refl _ _⟩
  | some a =>
    clear hi
    obtain ⟨v', w', hr, ho, hg, ha⟩ := run_spreadP (ty := 53) (c := c) (OwnP.empty w w.heap.size (Nat.le_refl _)) (HX.out.below HB1.out) (by simp; omega) (by simp)
    have HO := Lib.hid ho
    have HG := Lib.hid hg
    clear ho hg ha
    go_enter Tryz.func47, Tryz.ntmps47
    go_wp2_with (at_builtin; refine Go.Lib.wpList_append_run_sl _ (by rfl) (.tmp 5) (.tmp 6) 53 (by rfl) _ _ (by rfl) (by rfl) hr ?_)
    clear hr
    go_wp2
    go_ret
    exact ⟨_, rfl, by simpa using HO.out, ((Below.refl _ w).alloc (Nat.le_refl _) _).grown HG.out (by simp) (by intro k hk; simp [Value.ownBlock] at hk; omega)⟩
theorem cloneN (w : World) (B : Nat) (A : Option Addr) (n c : Nat) (xs : List Nd) (hi : Nodes w B A n xs) (hB : B ≤ w.heap.size) (hn : n ≤ 1048576) :
    Calls Tryz.prog 45 #[.slice A n c] w fun e w' => ∃ v, e = .returned v ∧ OwnG 57 nodeCells 6 w' w.heap.size v xs ∧ Below w.heap.size w w' := by
  have hq : ∀ (w : World) (a : Option Addr) (n c n' c' : Nat), (binOp .eql 24 (.slice a n c) (.slice none n' c')).run Tryz.prog w = .ok (.bool a.isNone) w := fun w a n c n' c' => Lib.run_eql_slice_nil w _ _ a n c n' c' Tryz.underlying24
  have HB1 : Hid (Below B w (w.alloc (.cells #[] 57))) := Lib.hid ((Below.refl B w).alloc hB _)
  have HX := Lib.hid hi
  cases A with
  | none =>
    obtain rfl : xs = [] := by
      cases xs with
      | nil => rfl
      | cons p r => obtain ⟨_, _, h, _⟩ := hi.r.at' 0 p rfl; cases h
    clear hi HB1
    go_enter Tryz.func45, Tryz.ntmps45
    go_wp2
    go_ret
    exact ⟨_, rfl, .nil _ _, Below.refl _ _⟩
  | some a =>
    clear hi
    obtain ⟨v', w', hr, ho, hg, ha⟩ := run_spreadG nodeCells_len nodeCells_one (ty := 24) (c := c) Tryz.underlying24 info_node rfl (by decide) (by decide) (OwnG.empty (T := 57) (f := nodeCells) (s := 6) w w.heap.size (Nat.le_refl _)) (HX.out.below HB1.out).r (by simp; omega) (by simp)
    have HO := Lib.hid ho
    have HG := Lib.hid hg
    clear ho hg ha
    go_enter Tryz.func45, Tryz.ntmps45
    go_wp2_with (at_builtin; refine Go.Lib.wpList_append_run_sl _ (by rfl) (.tmp 5) (.tmp 6) 24 (by rfl) _ _ (by rfl) (by rfl) hr ?_)
    clear hr
    go_wp2
    go_ret
    exact ⟨_, rfl, by simpa using HO.out, ((Below.refl _ w).alloc (Nat.le_refl _) _).grown HG.out (by simp) (by intro k hk; simp [Value.ownBlock] at hk; omega)⟩
theorem ownP_shape {w : World} {B : Nat} {v : Value} {l : List (Int × Int)} (h : OwnP w B v l) : ∃ A n c, v = .slice A n c := by
  rcases h.2 with ⟨rfl, _⟩ | ⟨g, cap, cur, rfl, _⟩
  · exact ⟨_, _, _, rfl⟩
  · exact ⟨_, _, _, rfl⟩
theorem OwnI.slen {w : World} {B : Nat} {A : Option Addr} {n c : Nat} {l : List Int} (h : OwnI w B (.slice A n c) l) : n = l.length := by
  rcases h.2 with ⟨e, hl⟩ | ⟨g, cap, cur, e, _⟩ <;> (injection e with e1 e2 e3 <;> omega)
theorem ownP_slen {w : World} {B : Nat} {A : Option Addr} {n c : Nat} {l : List (Int × Int)} (h : OwnP w B (.slice A n c) l) : n = l.length := by
  rcases h.2 with ⟨e, hl⟩ | ⟨g, cap, cur, e, _⟩ <;> (injection e with e1 e2 e3 <;> omega)
theorem OwnG.set2 {α : Type} {f : α → List Value} {s : Nat} (hf : ∀ x, (f x).length = s) {T : TypeId} {w : World} {B g n c k i1 i2 : Nat} {v1 v2 : Value} {l : List α} {x y : α} (h : OwnG T f s w B (.slice (some ⟨g, 0, none⟩) n c) l) (hk : l[k]? = some x) (hy : ∀ j, j < s → (f y)[j]? = if j = i2 then some v2 else if j = i1 then some v1 else (f x)[j]?) (h1 : i1 < s) (h2 : i2 < s) :
    OwnG T f s ((w.setCell ⟨g, k * s + i1, none⟩ v1).setCell ⟨g, k * s + i2, none⟩ v2) B (.slice (some ⟨g, 0, none⟩) n c) (l.set k y) := by
  have hlt : k < l.length := by
    rcases Nat.lt_or_ge k l.length with q | q
    · exact q
    · rw [List.getElem?_eq_none q] at hk; cases hk
  have hs : 0 < s := by omega
  rcases h.row with ⟨e, _⟩ | ⟨g', cap, F, e, hB, hle, hcap, hrow, hF⟩
  · cases e
  · injection e with e1 e2 e3
    injection e1 with e1
    injection e1 with e1
    subst e1 e2 e3
    refine OwnG.of_row hf hB (by simp) hle hcap (World.rowIs.set (World.rowIs.set hrow (k * s + i1) v1) (k * s + i2) v2) fun j hj => ?_
    rw [fm_set hf l k _ hlt j hj]
    have hd : j / s * s + j % s = j := by rw [Nat.mul_comm]; exact Nat.div_add_mod j s
    by_cases e : j / s = k
    · obtain ⟨r, hr, rfl⟩ : ∃ r, r < s ∧ j = k * s + r := ⟨j % s, Nat.mod_lt _ hs, by rw [← e]; exact hd.symm⟩
      have hm : (k * s + r) % s = r := by rw [Nat.mul_comm, Nat.mul_add_mod, Nat.mod_eq_of_lt hr]
      rw [if_pos e, hm, hy r hr]
      have hold := hF _ hj
      rw [fm_at hf l k r x hk hr] at hold
      by_cases q2 : r = i2
      · rw [if_pos q2, if_pos (show k * s + r = k * s + i2 by rw [q2])]
      · have n2 : ¬ (k * s + r = k * s + i2) := by omega
        by_cases q1 : r = i1
        · rw [if_neg q2, if_pos q1, if_neg n2, if_pos (show k * s + r = k * s + i1 by rw [q1])]
        · rw [if_neg q2, if_neg q1, if_neg n2, if_neg (show ¬ (k * s + r = k * s + i1) by omega), hold]
    · rw [if_neg e, hF j hj]
      have hm := Nat.mod_lt j hs
      have ne : ∀ i, i < s → j ≠ k * s + i := fun i hi hji => e (by rw [hji, Nat.mul_comm, Nat.mul_add_div hs, Nat.div_eq_of_lt hi, Nat.add_zero])
      rw [if_neg (ne i2 h2), if_neg (ne i1 h1)]
theorem set_mid {α : Type} {cs ns : List α} {k : Nat} {x y : α} (hl : cs.length = k) (h : ns[k]? = some x) : (cs ++ ns.drop k)[k]? = some x ∧ (cs ++ ns.drop k).set k y = (cs ++ [y]) ++ ns.drop (k + 1) := by
  have hlt : k < ns.length := by
    rcases Nat.lt_or_ge k ns.length with g | g
    · exact g
    · rw [List.getElem?_eq_none g] at h; cases h
  have hd : ns.drop k = x :: ns.drop (k + 1) := by
    rw [List.drop_eq_getElem_cons hlt]
    rw [List.getElem?_eq_getElem hlt] at h
    rw [Option.some.inj h]
  refine ⟨by rw [List.getElem?_append_right (by omega), hl, hd]; simp, ?_⟩
  rw [hd, List.set_append_right _ _ (by omega), hl, Nat.sub_self, List.set_cons_zero, List.append_assoc, List.singleton_append]

/-- As far as k, the elements hold copies of their own. -/
structure CopyInv (w w1 : World) (g n cap : Nat) (ns : List Nd) (k : Nat) (cs : List Nd) (wr : World) : Prop where
  len : cs.length = k
  own : OwnG 57 nodeCells 6 wr w.heap.size (.slice (some ⟨g, 0, none⟩) n cap) (cs ++ ns.drop k)
  dat : datN cs = datN (ns.take k)
  sh : ShortN cs
  x : ∀ (i : Nat) (x : Nd), cs[i]? = some x → (Lit.int .i64 x.op).wf = true ∧ WiO wr w1.heap.size x.t
  d : ∀ (i j : Nat) (x y : Nd) (b : Nat), i < j → cs[i]? = some x → cs[j]? = some y → x.t.has b → ¬ y.t.has b
  bel : Below w.heap.size w wr
  s1 : w1.heap.size ≤ wr.heap.size
set_option maxRecDepth 20000 in
theorem CopyInv.next {w w1 wr w2 w3 : World} {g n cap k : Nat} {ns cs : List Nd} {x : Nd} {LA' PA' : Option Addr} {Ln' Lc' Pn' Pc' : Nat} (h : CopyInv w w1 g n cap ns k cs wr) (hG : w.heap.size ≤ g ∧ g < w1.heap.size) (hat : ns[k]? = some x) (hls : x.t.ls.length ≤ 1048576 ∧ x.t.ps.length ≤ 1048576)
    (hwf : (Lit.int .i64 x.op).wf = true ∧ (Lit.int .i64 x.t.kind).wf = true ∧ (Lit.int .i64 x.t.field).wf = true ∧ (Lit.int .i64 x.t.value).wf = true)
    (hoa : OwnI w2 wr.heap.size (.slice LA' Ln' Lc') x.t.ls) (hb2 : Below wr.heap.size wr w2) (hob : OwnP w3 w2.heap.size (.slice PA' Pn' Pc') x.t.ps) (hb23 : Below w2.heap.size w2 w3) :
    CopyInv w w1 g n cap ns (k + 1) (cs ++ [⟨x.op, x.t.kind, x.t.field, x.t.value, LA', Ln', Lc', x.t.ls, PA', Pn', Pc', x.t.ps⟩]) ((w3.setCell ⟨g, k * 6 + 4, none⟩ (.slice LA' Ln' Lc')).setCell ⟨g, k * 6 + 5, none⟩ (.slice PA' Pn' Pc')) := by
  obtain ⟨y, hy⟩ : ∃ y : Nd, y = ⟨x.op, x.t.kind, x.t.field, x.t.value, LA', Ln', Lc', x.t.ls, PA', Pn', Pc', x.t.ps⟩ := ⟨_, rfl⟩
  rw [← hy]
  have hb3 : Below wr.heap.size wr w3 := below_on hb2 hb23
  have hgw : g < wr.heap.size := Nat.lt_of_lt_of_le hG.2 h.s1
  obtain ⟨hm1, hm2⟩ := set_mid (y := y) h.len hat
  have hoth : ∀ b, b ≠ g → ((w3.setCell ⟨g, k * 6 + 4, none⟩ (.slice LA' Ln' Lc')).setCell ⟨g, k * 6 + 5, none⟩ (.slice PA' Pn' Pc')).heap[b]? = w3.heap[b]? := fun b hb => by
    rw [heap_setCell_other _ _ _ _ (by simpa using hb), heap_setCell_other _ _ _ _ (by simpa using hb)]
  have hs1 := h.s1
  have hwy : WiO w3 wr.heap.size y.t := by
    rw [hy]
    refine ⟨hwf.2.1, hwf.2.2.1, hwf.2.2.2, ownI_blocks hoa fun b hb => hb23.block b (ownI_tops hoa b hb), ownP_lowE hob hb2.size, fun b h1 h2 => ?_⟩
    have q1 := ownI_tops hoa b h1
    have q2 := hob.lows b h2
    omega
  refine ⟨by rw [List.length_append, h.len]; rfl, ?_, ?_, ?_, ?_, ?_, ?_, ?_⟩
  · have h3 : OwnG 57 nodeCells 6 w3 w.heap.size (.slice (some ⟨g, 0, none⟩) n cap) (cs ++ ns.drop k) := h.own.blocks fun b hb => by
      have e : g = b := Option.some.inj hb
      rw [← e]; exact hb3.block g hgw
    have h4 := OwnG.set2 (k := k) (i1 := 4) (i2 := 5) (v1 := .slice LA' Ln' Lc') (v2 := .slice PA' Pn' Pc') (y := y) nodeCells_len h3 hm1 (fun j hj => by
      rw [hy]
      have hj' : j = 0 ∨ j = 1 ∨ j = 2 ∨ j = 3 ∨ j = 4 ∨ j = 5 := by omega
      rcases hj' with rfl | rfl | rfl | rfl | rfl | rfl <;> simp [nodeCells]) (by decide) (by decide)
    rw [← hm2]
    exact h4
  · rw [datN_at hat, ← h.dat]
    unfold datN
    rw [List.map_append, List.map_singleton, hy]
    rfl
  · intro u hu
    rcases List.mem_append.1 hu with hu | hu
    · exact h.sh u hu
    · rw [List.mem_singleton.1 hu, hy]
      have e1 := OwnI.slen hoa
      have e2 := ownP_slen hob
      exact ⟨by show Ln' ≤ _; rw [e1]; exact hls.1, by show Pn' ≤ _; rw [e2]; exact hls.2⟩
  · intro i u hu
    rcases get_snoc h.len hu with ⟨_, hu⟩ | ⟨_, rfl⟩
    · obtain ⟨e1, e2⟩ := h.x i u hu
      exact ⟨e1, (e2.below (hb3)).blocks fun b hb => hoth b (by have := (e2.has_in hb).1; omega)⟩
    · exact ⟨by rw [hy]; exact hwf.1, (hwy.blocks fun b hb => hoth b (by have := (hwy.has_in hb).1; omega)).low hs1⟩
  · intro i j u z b hij hu hz hb hb'
    rcases get_snoc h.len hz with ⟨hj, hz⟩ | ⟨_, rfl⟩
    · rcases get_snoc h.len hu with ⟨_, hu⟩ | ⟨e, _⟩
      · exact h.d i j u z b hij hu hz hb hb'
      · omega
    · rcases get_snoc h.len hu with ⟨_, hu⟩ | ⟨e, _⟩
      · have g1 := ((h.x i u hu).2.has_in hb).2
        have g2 := (hwy.has_in hb').1
        omega
      · omega
  · have hgl := hG.1
    exact ((below_on h.bel hb3).setCell (by show w.heap.size ≤ g; omega) _).setCell (by show w.heap.size ≤ g; omega) _
  · have := hb3.size
    simp
    omega
theorem CopyInv.done {w w1 wr : World} {g n cap k : Nat} {ns cs : List Nd} (h : CopyInv w w1 g n cap ns k cs wr) (hG : w.heap.size ≤ g ∧ g < w1.heap.size) (hk : ns.length = k) : datN cs = datN ns ∧ OwnN wr w.heap.size (.slice (some ⟨g, 0, none⟩) n cap) cs := by
  have hd : ns.drop k = [] := List.drop_eq_nil_of_le (by rw [hk]; exact Nat.le_refl _)
  have ht : ns.take k = ns := List.take_of_length_le (by rw [hk]; exact Nat.le_refl _)
  have h1 := h.own
  have h2 := h.dat
  rw [hd, List.append_nil] at h1
  rw [ht] at h2
  refine ⟨h2, h1, fun i x hi => ⟨(h.x i x hi).1, (h.x i x hi).2.low (Nat.le_of_lt (Nat.lt_of_le_of_lt hG.1 hG.2))⟩, fun i x b hi hb e => ?_, h.d⟩
  have h1 := ((h.x i x hi).2.has_in hb).1
  have h2 := hG.2
  have h3 : g = b := Option.some.inj e
  omega
set_option maxRecDepth 20000 in
set_option maxHeartbeats 3200000 in
theorem copyNodes_c (w : World) (B : Nat) (A : Option Addr) (n c : Nat) (ns : List Nd) (hi : Nodes w B A n ns) (hB : B ≤ w.heap.size) (hn : n ≤ 1048576) (hN : ShortN ns) :
    Calls Tryz.prog 27 #[.slice A n c] w fun e w' => ∃ v ns', e = .returned v ∧ datN ns' = datN ns ∧ ShortN ns' ∧ OwnN w' w.heap.size v ns' ∧ Below w.heap.size w w' := by
  have HX := Lib.hid hi
  have HN := Lib.hid hN
  have HC := Lib.hid (cloneN w B A n c ns hi hB hn)
  have HL : Hid (ns.length = n) := Lib.hid hi.len
  clear hi hN
  go_enter Tryz.func27, Tryz.ntmps27
  go_wp2_with fail
  refine HC.out.mono ?_
  rintro e w1 ⟨v, rfl, ho, hb1⟩
  have HO1 := Lib.hid ho
  have HB1 := Lib.hid hb1
  clear hb1 HC
  rcases ho.row with ⟨rfl, rfl⟩ | ⟨g, cap, F, rfl, hgl, hle, hcap, hrow, -⟩
  · obtain rfl : n = 0 := HL.out.symm
    go_wp2
    go_loopw [10] (fun i wr => i = .int .i64 0 ∧ wr = w1) (fun _ _ => 0)
    case atStart => exact ⟨rfl, rfl⟩
    case round =>
      obtain ⟨rfl, rfl⟩ := hrel
      go_wp2
      go_ret
      exact ⟨_, [], rfl, rfl, HN.out, .nil _ _, HB1.out⟩
  · have hcap' : cap ≤ 9223372036854775807 := by unfold maxLen at hcap; omega
    have HG : Hid (w.heap.size ≤ g ∧ g < w1.heap.size) := Lib.hid ⟨hgl, hrow.lt⟩
    rw [HL.out] at hle HO1 ⊢
    clear ho hrow hgl hcap
    go_wp2
    go_loopw [10] (fun i wr => ∃ (k : Nat) (cs : List Nd), k ≤ n ∧ i = .int .i64 k ∧ CopyInv w w1 g n cap ns k cs wr) (fun i _ => n - (intOf i).toNat)
    case atStart => exact ⟨0, [], Nat.zero_le _, rfl, ⟨rfl, by simpa using HO1.out, rfl, by simp [ShortN], by simp, by simp, HB1.out, Nat.le_refl _⟩⟩
    case round =>
      obtain ⟨k, cs, hk, rfl, hinv⟩ := hrel
      have HInv := Lib.hid hinv
      by_cases hlt : k < n
      · obtain ⟨x, hat⟩ : ∃ x, ns[k]? = some x := ⟨_, List.getElem?_eq_getElem (by rw [HL.out]; exact hlt)⟩
        have hmem := List.mem_of_getElem? hat
        obtain ⟨hwf, hwi⟩ := HX.out.x x hmem
        have hsx := HN.out x hmem
        have hown := hinv.own
        have hbel := hinv.bel
        obtain ⟨hm1, -⟩ := set_mid (y := x) hinv.len hat
        have hcell : ∀ (j : Nat) (v : Value), (nodeCells x)[j]? = some v → wr.cell? ⟨g, k * 6 + j, none⟩ = some v := fun j v hv => by
          obtain ⟨b, off, e, _, hc⟩ := (hown.read nodeCells_len).at' k x hm1
          injection e with e
          injection e with e1 e2
          subst e1 e2
          have := hc j v hv
          rwa [Nat.zero_add] at this
        have hfz : ∀ j, wr.frozen? ⟨g, j, none⟩ = false := fun j => by
          rcases hown.row with ⟨e, _⟩ | ⟨g', cap', f, e, _, _, _, hrow, _⟩
          · cases e
          · injection e with e _ _
            injection e with e
            injection e with e
            subst e
            exact World.rowIs.frozen hrow j
        have hgw : g < wr.heap.size := Nat.lt_of_lt_of_le HG.out.2 hinv.s1
        have z4 : wr.cell? ⟨g, k * 6 + 4, none⟩ = some (.slice x.t.LA x.t.Ln x.t.Lc) := hcell 4 _ rfl
        have z5 : wr.cell? ⟨g, k * 6 + 5, none⟩ = some (.slice x.t.PA x.t.Pn x.t.Pc) := hcell 5 _ rfl
        have HF4 := Lib.hid (hfz (k * 6 + 4))
        have HF5 := Lib.hid (hfz (k * 6 + 5))
        have HZ4 := Lib.hid z4
        have HZ5 := Lib.hid z5
        have HGw := Lib.hid hgw
        have HI : Hid (∀ W, Below wr.heap.size wr W → Calls Tryz.prog 46 #[.slice x.t.LA x.t.Ln x.t.Lc] W fun e w' => ∃ v, e = .returned v ∧ OwnI w' W.heap.size v x.t.ls ∧ Below W.heap.size W w') := Lib.hid fun W h => cloneI W B _ _ _ _ (hwi.l.below ((hbel.mono hB).trans (h.mono (Nat.le_trans hB hbel.size)))) (Nat.le_trans (Nat.le_trans hB hbel.size) h.size) hsx.1
        have HP : Hid (∀ W, Below wr.heap.size wr W → Calls Tryz.prog 47 #[.slice x.t.PA x.t.Pn x.t.Pc] W fun e w' => ∃ v, e = .returned v ∧ OwnP w' W.heap.size v x.t.ps ∧ Below W.heap.size W w') := Lib.hid fun W h => cloneP W B _ _ _ _ (hwi.p.below ((hbel.mono hB).trans (h.mono (Nat.le_trans hB hbel.size)))) (Nat.le_trans (Nat.le_trans hB hbel.size) h.size) hsx.2
        have HAt := Lib.hid hat
        have HWf : Hid ((Lit.int .i64 x.op).wf = true ∧ (Lit.int .i64 x.t.kind).wf = true ∧ (Lit.int .i64 x.t.field).wf = true ∧ (Lit.int .i64 x.t.value).wf = true) := Lib.hid ⟨hwf, hwi.k, hwi.f, hwi.v⟩
        have HLs : Hid (x.t.ls.length ≤ 1048576 ∧ x.t.ps.length ≤ 1048576) := Lib.hid ⟨by rw [hwi.l.1]; exact hsx.1, by rw [hwi.p.1]; exact hsx.2⟩
        clear hown hbel hinv hat hmem hwf hwi hsx hm1 hcell hfz hgw
        go_wp2
        go_region_law (first
          | (go_simp; go_at_call 46; refine (HI.out _ (Below.refl wr.heap.size wr).drew).mono ?_; rintro e w2 ⟨va, rfl, hoa, hb2⟩; obtain ⟨LA', Ln', Lc', rfl, -⟩ := hoa.ints; have hb2' : Below wr.heap.size wr w2 := (Below.refl wr.heap.size wr).drew.trans (hb2.mono (Nat.le_refl _)); have HOa : Hid (OwnI w2 wr.heap.size (.slice LA' Ln' Lc') x.t.ls) := Lib.hid hoa; have HB2 := Lib.hid hb2'; have y5 := (hb2'.cell (p := ⟨g, k * 6 + 5, none⟩) HGw.out).trans HZ5.out; clear hoa hb2 hb2')
          | (go_simp; go_at_call 47; refine (HP.out _ HB2.out).mono ?_; rintro e w3 ⟨vb, rfl, hob, hb3⟩; obtain ⟨PA', Pn', Pc', rfl⟩ := ownP_shape hob; have hb3' : Below wr.heap.size wr w3 := below_on HB2.out hb3; have HOb := Lib.hid hob; have HB23 := Lib.hid hb3; have x4 := (hb3'.cell (p := ⟨g, k * 6 + 4, none⟩) HGw.out).trans HZ4.out; have x5 := (hb3'.cell (p := ⟨g, k * 6 + 5, none⟩) HGw.out).trans HZ5.out; have f4 := (World.frozen?_of_block (a := ⟨g, k * 6 + 4, none⟩) (hb3'.block g HGw.out)).trans HF4.out; have f5 := (World.frozen?_of_block (a := ⟨g, k * 6 + 5, none⟩) (hb3'.block g HGw.out)).trans HF5.out; clear hob hb3 hb3'))
        all_goals
          have HNx := Lib.hid (HInv.out.next HG.out HAt.out HLs.out HWf.out HOa.out HB2.out HOb.out HB23.out)
          clear x4 x5 f4 f5 z4 z5
          go_wp2
          go_roundw
          case rel => exact ⟨k + 1, _, by omega, by go_num, HNx.out⟩
          case measure => simp [intOf]; omega
      · obtain rfl : k = n := by omega
        have HDn := Lib.hid (hinv.done HG.out HL.out)
        have HSh := Lib.hid hinv.sh
        have HBl := Lib.hid hinv.bel
        clear hinv
        go_wp2
        go_ret
        exact ⟨_, cs, rfl, HDn.out.1, HSh.out, HDn.out.2, HBl.out⟩
end Go.Proofs.YtaijajajpnekbaaGreat.num
namespace Go.Proofs.YtaijajajpnekbaaGreat.num
set_option maxRecDepth 20000
open Go.RowKit

def bv (b : UInt8) : Value := .int .u8 (b.toNat : Int)
/-- The slice value v is the call's own (blocks from B on) and holds the bytes l. -/
def Own (w : World) (B : Nat) (v : Value) (l : List UInt8) : Prop := w.ownsRow B 5 1 v l.length (l.map bv)

theorem info_u8 : (Tryz.prog.info? 5).map (fun i => (i.zero, i.size, i.bytes)) = some (some (.int .u8 0), 1, 1) := by kernel_rfl

theorem Own.nil (w : World) (B : Nat) : Own w B (.slice none 0 0) [] := World.ownsRow_nil _ _ _ _
theorem Own.empty (w : World) (B : Nat) (hB : B ≤ w.heap.size) : Own (w.alloc (.cells #[] 5)) B (.slice (some ⟨w.heap.size, 0, none⟩) 0 0) [] :=
  World.ownsRow_made w #[] 0 hB (Nat.zero_le _) (by simp)
theorem Own.alloc {w : World} {B : Nat} {v : Value} {l : List UInt8} (h : Own w B v l) (o : Obj) : Own (w.alloc o) B v l := World.ownsRow.alloc h o
theorem Own.drew {w : World} {B : Nat} {v : Value} {l : List UInt8} (h : Own w B v l) : Own w.drew B v l := h
theorem add_zero (g j : Nat) : (⟨g, 0, none⟩ : Addr).add j = ⟨g, j, none⟩ := by unfold Addr.add; split <;> simp_all

/-- The string of an owned slice. -/
theorem own_string {w : World} {B : Nat} {v : Value} {l : List UInt8} (h : Own w B v l) : (convert 22 9 v).run Tryz.prog w = .ok (.string ⟨l.toArray⟩) w := by
  have h0 := h
  rcases h.2 with ⟨rfl, hl⟩ | ⟨g, cap, cur, rfl, _, _, _, _, _, _⟩
  · have hn : l = [] := List.eq_nil_of_length_eq_zero hl
    subst hn
    exact run_convert_bytes_nil w _ _ Tryz.underlying22 Tryz.underlying5 0 0 _ Tryz.underlying9
  · refine run_convert_bytes_back w 22 9 5 ⟨g, 0, none⟩ cap l Tryz.underlying22 Tryz.underlying5 Tryz.underlying9 (fun j hj => ?_)
    rw [add_zero, World.ownsRow.cellAt h0 j (by omega)]
    simp [hj, bv]

/-- append of bytes that the statement itself lists. -/
theorem wp_app {ops : Array Oper} {rest : List Oper} {o : Oper} {a : Act} {Q : Exit → Act → World → Prop} (w : World) (hgd : o.guard = none) (s x : Operand)
    (ho : o.op = .call { callee := .builtin .append, args := #[s, x], argTypes := #[22, 22] })
    (B : Nat) (v : Value) (l : List UInt8) (hs : a.eval s = v) (hown : Own w B v l) (cs : Array Value) (new : List UInt8) (hcs : cs = (new.map bv).toArray) (n c : Nat) (hn : n = new.length)
    (hx : a.eval x = .slice (some ⟨w.heap.size, 0, none⟩) n c) (hlen : l.length + new.length ≤ 140737488355328) (hB : B ≤ w.heap.size)
    (h : ∀ v' w', Own w' B v' (l ++ new) → Below B w w' → wpList Tryz.prog ops Q rest (a.put o.dst v') w') :
    wpList Tryz.prog ops Q (o :: rest) a (w.alloc (.cells cs 5)) := by
  obtain ⟨i0, hi, hz0, hz1, hz2⟩ := info_parts info_u8
  subst hcs hn
  refine wpList_append_own _ hgd s x 22 ho B 5 i0 (.int .u8 0) 1 1 Tryz.underlying22 hi hz0 hz1 hz2 rfl (by decide) v l.length (l.map bv) hs (World.ownsRow.alloc hown _) ⟨w.heap.size, 0, none⟩ new.length c (new.map bv) hx (by simp) ?_ ?_ (by unfold maxLen; omega) (by omega) (by simp; omega) ?_
  · intro j u hj
    rw [add_zero, World.cell?_alloc_mark]
    simpa using hj
  · intro u hu
    obtain ⟨b, _, rfl⟩ := List.mem_map.1 hu
    rfl
  · intro v' w' hown' hg _
    refine h v' w' ?_ (((Below.refl B w).alloc hB _).grown hg (by simp; omega) (fun k hk => ?_))
    · have e : (l ++ new).length = l.length + new.length := by simp
      unfold Own
      rw [e, List.map_append]
      exact hown'
    · exact (World.ownsRow.lt hown k hk).1
end Go.Proofs.YtaijajajpnekbaaGreat.num
namespace Go.Proofs.YtaijajajpnekbaaGreat.num
set_option maxRecDepth 20000
open Go.RowKit

/-- The bytes of a slice that came in, below block B. -/
def Row (w : World) (B : Nat) (a : Option Addr) (len : Nat) : Prop :=
  ∀ k, k < len → ∃ (b off : Nat) (z : Int), a = some ⟨b, off, none⟩ ∧ b < B ∧ w.cell? ⟨b, off + k, none⟩ = some (.int .u8 z) ∧ 0 ≤ z ∧ z ≤ 255
theorem Row.below {w w' : World} {B : Nat} {a : Option Addr} {len : Nat} (h : Row w B a len) (hb : Below B w w') : Row w' B a len := fun k hk => by
  obtain ⟨b, off, z, ha, hB, hc, h0, h1⟩ := h k hk
  exact ⟨b, off, z, ha, hB, (hb.cell (p := ⟨b, off + k, none⟩) hB).trans hc, h0, h1⟩
/-- The cursor's block. -/
def Cur (w : World) (g : Nat) (a : Option Addr) (len cap : Nat) : Prop :=
  ∃ (i : Nat) (h : Int), i ≤ len ∧ w.heap[g]? = some (.cells #[.slice a len cap, .int .i64 i, .int .i64 h] 71 (0, 0))
theorem Cur.lt {w : World} {g : Nat} {a : Option Addr} {len cap : Nat} (h : Cur w g a len cap) : g < w.heap.size := by
  obtain ⟨i, x, _, h⟩ := h
  rcases Nat.lt_or_ge g w.heap.size with h' | h'
  · exact h'
  · rw [Array.getElem?_eq_none h'] at h; cases h
theorem Cur.kept {w w' : World} {g : Nat} {a : Option Addr} {len cap : Nat} (h : Cur w g a len cap) (hk : w'.heap[g]? = w.heap[g]?) : Cur w' g a len cap := by
  obtain ⟨i, x, hi, h⟩ := h
  exact ⟨i, x, hi, hk.trans h⟩
def Out (P : Int → Prop) (w : World) (g : Nat) (a : Option Addr) (len cap : Nat) (e : Ending) (w' : World) : Prop :=
  ∃ n : Int, e = .returned (.int .i64 n) ∧ P n ∧ Cur w' g a len cap ∧ w.grownBy w' (some g)

theorem and_range (y : Int) (m : Nat) (hm : m < 9223372036854775808) : 0 ≤ bits .and .i64 y (m : Int) ∧ bits .and .i64 y (m : Int) ≤ m := by
  have e : bits .and .i64 y (m : Int) = IntKind.i64.wrap ((BitVec.ofInt 64 y &&& BitVec.ofInt 64 (m : Int)).toNat : Int) := rfl
  have h : (BitVec.ofInt 64 y &&& BitVec.ofInt 64 (m : Int)).toNat ≤ m := by
    rw [BitVec.toNat_and, ofInt_u64 m (by omega)]
    exact Nat.and_le_right
  rw [e, IntWalk.i64_in _ ⟨by omega, by omega⟩]
  omega
theorem and255 (y : Int) : 0 ≤ bits .and .i64 y 255 ∧ bits .and .i64 y 255 ≤ 255 := and_range y 255 (by decide)
theorem and30 (y : Int) : 0 ≤ bits .and .i64 y 1073741823 ∧ bits .and .i64 y 1073741823 ≤ 1073741823 := and_range y 1073741823 (by decide)

theorem grown_refl (w : World) (r : Option Nat) : w.grownBy w r := ⟨rfl, rfl, rfl, Nat.le_refl _, fun _ _ _ => rfl⟩
theorem grown_trans {a b c : World} {r : Option Nat} (h : a.grownBy b r) (k : b.grownBy c r) : a.grownBy c r :=
  ⟨k.os.trans h.os, k.tape.trans h.tape, k.output.trans h.output, Nat.le_trans h.size k.size, fun i hi hne => (k.block i (Nat.lt_of_lt_of_le hi h.size) hne).trans (h.block i hi hne)⟩
theorem grown_set {a b : World} {g : Nat} (h : a.grownBy b (some g)) (j : Nat) (v : Value) : a.grownBy (b.setCell ⟨g, j, none⟩ v) (some g) :=
  ⟨h.os, h.tape, h.output, Nat.le_trans h.size (by simp [World.setCell]), fun i hi hne => (Below.heap_setCell b ⟨g, j, none⟩ v i (fun e => hne (by rw [e]))).trans (h.block i hi hne)⟩
theorem grown_drew {a b : World} {r : Option Nat} (h : a.grownBy b r) : a.grownBy b.drew r := ⟨h.os, h.tape, h.output, h.size, h.block⟩
theorem grown_alloc {a b : World} {r : Option Nat} (h : a.grownBy b r) (o : Obj) : a.grownBy (b.alloc o) r := grown_trans h (World.grownBy_alloc b o r)
theorem grown_below {a b : World} {g B : Nat} (h : a.grownBy b (some g)) (hB : B ≤ g) (hs : B ≤ a.heap.size) : Below B a b :=
  (Below.refl B a).grown h hs (fun k hk => by injection hk with hk; omega)

set_option maxRecDepth 20000 in
theorem byte_any (w : World) (g : Nat) (a : Option Addr) (len cap : Nat) (hlen : len ≤ 1048576) (hc : Cur w g a len cap) (B : Nat) (hB : B ≤ g) (hrow : Row w B a len) :
    Calls Tryz.prog 42 #[.pointer (some ⟨g, 0, none⟩)] w (Out (fun n => 0 ≤ n ∧ n ≤ 255) w g a len cap) := by
  obtain ⟨i, h, hi, hblk⟩ := hc
  have c0 : w.cell? ⟨g, 0, none⟩ = some (.slice a len cap) := cell_of_row w g 0 _ _ (0, 0) hblk
  have c1 : w.cell? ⟨g, 1, none⟩ = some (.int .i64 i) := cell_of_row w g 1 _ _ (0, 0) hblk
  have c2 : w.cell? ⟨g, 2, none⟩ = some (.int .i64 h) := cell_of_row w g 2 _ _ (0, 0) hblk
  have f1 : w.frozen? ⟨g, 1, none⟩ = false := by simp [World.frozen?, hblk]
  have f2 : w.frozen? ⟨g, 2, none⟩ = false := by simp [World.frozen?, hblk]
  have HB := Lib.hid hblk
  clear hblk
  by_cases hlt : i < len
  · obtain ⟨b, off, z, rfl, hbB, hz, hz0, hz1⟩ := hrow i hlt
    have hz' : ∀ v, (w.setCell ⟨g, 2, none⟩ v).cell? ⟨b, off + i, none⟩ = some (.int .u8 z) := fun v => by
      rw [World.cell?_setCell_other w _ _ v (fun e => by injection e; omega)]; exact hz
    go_enter Tryz.func42, Tryz.ntmps42
    go_wp2
    generalize wrap64 (wrap64 (h * 6364136223846793005) + 1442695040888963407) = h1 at *
    go_region
    go_wp2
    go_region
    all_goals go_wp2
    all_goals go_region
    all_goals go_wp2
    all_goals
      go_ret
      have hb2 := heap_setCell_same w g 2 _ _ (.int .i64 h1) HB.out
      have hb3 := heap_setCell_same _ g 1 _ _ (.int .i64 ((i : Int) + 1)) hb2
      exact ⟨_, rfl, and255 _, ⟨i + 1, h1, by omega, hb3⟩, by repeat (first | exact grown_refl _ _ | apply grown_drew | apply grown_set)⟩
  · obtain rfl : i = len := by omega
    go_enter Tryz.func42, Tryz.ntmps42
    go_wp2
    generalize wrap64 (wrap64 (h * 6364136223846793005) + 1442695040888963407) = h1 at *
    go_region
    go_wp2
    go_region
    all_goals go_wp2
    all_goals
      go_ret
      have hb2 := heap_setCell_same w g 2 _ _ (.int .i64 h1) HB.out
      exact ⟨_, rfl, and255 _, ⟨i, h1, Nat.le_refl _, hb2⟩, by repeat (first | exact grown_refl _ _ | apply grown_drew | apply grown_set)⟩

def InRange (n r : Int) : Prop := (n ≤ 0 → r = 0) ∧ (0 < n → 0 ≤ r ∧ r < n)
theorem mod_range (x n : Int) (_hx : 0 ≤ x) (hn : 0 < n) : InRange n (x % n) := ⟨fun h => by omega, fun _ => ⟨Int.emod_nonneg _ (by omega), Int.emod_lt_of_pos _ hn⟩⟩
theorem tmod_range (x n : Int) (hx : 0 ≤ x) (hn : 0 < n) : InRange n (x.tmod n) := by rw [Int.tmod_eq_emod_of_nonneg hx]; exact mod_range x n hx hn

set_option maxRecDepth 20000 in
theorem below_any (n : Int) (hn : n ≤ 2147483648) (w : World) (g : Nat) (a : Option Addr) (len cap : Nat) (hlen : len ≤ 1048576) (hc : Cur w g a len cap) (B : Nat) (hB : B ≤ g) (hrow : Row w B a len) :
    Calls Tryz.prog 24 #[.pointer (some ⟨g, 0, none⟩), .int .i64 n] w (Out (InRange n) w g a len cap) := by
  have HC0 := Lib.hid hc
  have HR0 := Lib.hid hrow
  clear hc hrow
  by_cases h0 : n ≤ 0
  · go_enter Tryz.func24, Tryz.ntmps24
    go_wp2
    go_ret
    exact ⟨0, rfl, ⟨fun _ => rfl, fun h => by omega⟩, HC0.out, grown_refl _ _⟩
  by_cases h1 : n ≤ 256
  · go_enter Tryz.func24, Tryz.ntmps24
    go_wp2_with fail
    refine (byte_any _ g a len cap hlen HC0.out B hB HR0.out).mono ?_
    rintro e w1 ⟨x1, rfl, ⟨hx10, hx11⟩, hc1, hg1⟩
    have HC1 := Lib.hid hc1
    have HR1 := Lib.hid (HR0.out.below (grown_below hg1 hB (by have := HC0.out.lt; omega)))
    have HG1 := Lib.hid hg1
    clear hc1 hg1
    go_wp2
    go_ret
    exact ⟨_, rfl, by first | exact mod_range _ _ (by omega) (by omega) | exact tmod_range _ _ (by omega) (by omega), HC1.out, HG1.out⟩
  go_enter Tryz.func24, Tryz.ntmps24
  go_wp2_with fail
  refine (byte_any _ g a len cap hlen HC0.out B hB HR0.out).mono ?_
  rintro e w1 ⟨x1, rfl, ⟨hx10, hx11⟩, hc1, hg1⟩
  have HC1 := Lib.hid hc1
  have HR1 := Lib.hid (HR0.out.below (grown_below hg1 hB (by have := HC0.out.lt; omega)))
  have HG1 := Lib.hid hg1
  clear hc1 hg1
  go_wp2_with fail
  refine (byte_any _ g a len cap hlen HC1.out B hB HR1.out).mono ?_
  rintro e w2 ⟨x2, rfl, ⟨hx20, hx21⟩, hc2, hg2⟩
  have HC2 := Lib.hid hc2
  have HR2 := Lib.hid (HR1.out.below (grown_below hg2 hB (by have := HC1.out.lt; omega)))
  have HG2 := Lib.hid hg2
  clear hc2 hg2
  go_wp2_with fail
  refine (byte_any _ g a len cap hlen HC2.out B hB HR2.out).mono ?_
  rintro e w3 ⟨x3, rfl, ⟨hx30, hx31⟩, hc3, hg3⟩
  have HC3 := Lib.hid hc3
  have HR3 := Lib.hid (HR2.out.below (grown_below hg3 hB (by have := HC2.out.lt; omega)))
  have HG3 := Lib.hid hg3
  clear hc3 hg3
  go_wp2_with fail
  refine (byte_any _ g a len cap hlen HC3.out B hB HR3.out).mono ?_
  rintro e w4 ⟨x4, rfl, ⟨hx40, hx41⟩, hc4, hg4⟩
  have HC4 := Lib.hid hc4
  have HR4 := Lib.hid (HR3.out.below (grown_below hg4 hB (by have := HC3.out.lt; omega)))
  have HG4 := Lib.hid hg4
  clear hc4 hg4
  go_wp2
  go_ret
  exact ⟨_, rfl, by first | exact mod_range _ _ (by omega) (by omega) | exact tmod_range _ _ (by omega) (by omega), HC4.out, grown_trans HG1.out (grown_trans HG2.out (grown_trans HG3.out HG4.out))⟩
end Go.Proofs.YtaijajajpnekbaaGreat.num
namespace Go.Proofs.YtaijajajpnekbaaGreat.num
set_option maxRecDepth 20000
open Go.RowKit

def I64 (n : Int) : Prop := -9223372036854775808 ≤ n ∧ n ≤ 9223372036854775807
theorem I64.wrap (x : Int) : I64 (wrap64 x) := by unfold I64 wrap64; omega
/-- A row of seventeen or so numbers, each an int. -/
def Nums (w : World) (gl N : Nat) : Prop := ∀ k, k < N → ∃ z : Int, w.cell? ⟨gl, k, none⟩ = some (.int .i64 z) ∧ I64 z

set_option maxRecDepth 20000 in
theorem pick_any (gl N : Nat) (hN : 0 < N) (hN2 : N ≤ 100) (w : World) (g : Nat) (a : Option Addr) (len cap : Nat) (hlen : len ≤ 1048576) (hc : Cur w g a len cap) (B : Nat) (hB : B ≤ g) (hrow : Row w B a len) (hl : Nums w gl N) (hne : gl ≠ g) :
    Calls Tryz.prog 67 #[.pointer (some ⟨g, 0, none⟩), .slice (some ⟨gl, 0, none⟩) N N] w (Out I64 w g a len cap) := by
  have HC := Lib.hid hc
  have HR := Lib.hid hrow
  have HL := Lib.hid hl
  clear hc hrow hl
  go_enter Tryz.func67, Tryz.ntmps67
  go_wp2_with fail
  refine (below_any _ (by omega) _ g a len cap hlen HC.out B hB HR.out).mono ?_
  rintro e w1 ⟨x1, rfl, hx, hc1, hg1⟩
  have hx2 := hx.2 (by omega)
  obtain ⟨r, rfl⟩ := Int.eq_ofNat_of_zero_le hx2.1
  have hrN : r < N := by omega
  obtain ⟨z, hz, hzI⟩ := HL.out r hrN
  have hz1 : w1.cell? ⟨gl, r, none⟩ = some (.int .i64 z) := by
    have hlt := World.block_lt_of_cell? w _ hz
    exact (World.cell?_of_block (hg1.block gl hlt (fun e => by injection e; omega))).trans hz
  have HC1 := Lib.hid hc1
  have HG1 := Lib.hid hg1
  have HZ := Lib.hid hzI
  clear hc1 hg1 hzI hz hx hx2
  go_wp2
  go_ret
  exact ⟨z, rfl, HZ.out, HC1.out, HG1.out⟩

/-- What a text's draw leaves. -/
def OutText (w : World) (g : Nat) (a : Option Addr) (len cap : Nat) (e : Ending) (w' : World) : Prop :=
  ∃ l : List UInt8, e = .returned (.string ⟨l.toArray⟩) ∧ l.length ≤ 40 ∧ Cur w' g a len cap ∧ Below g w w'
theorem Own.keptg {w w' : World} {B g : Nat} {v : Value} {l : List UInt8} (h : Own w B v l) (hg : w.grownBy w' (some g)) (hB : g < B) : Own w' B v l :=
  World.ownsRow.kept h hg (by
    by_cases hv : v.ownBlock = none
    · exact .inl hv
    · right
      intro e
      have := (World.ownsRow.lt h g e).1
      omega)
theorem byte_list (x : Int) (h0 : 0 ≤ x) (h1 : x ≤ 255) : #[Value.int .u8 x] = (List.map bv [UInt8.ofNat x.toNat]).toArray := by
  have h : (UInt8.ofNat x.toNat).toNat = x.toNat := by simp; omega
  simp only [List.map_cons, List.map_nil, bv, h]
  congr 3
  omega

end Go.Proofs.YtaijajajpnekbaaGreat.num
namespace Go.Proofs.YtaijajajpnekbaaGreat.num
set_option maxRecDepth 20000
open Go.RowKit

theorem Row.wide {w : World} {B : Nat} {a : Option Addr} {len : Nat} (h : Row w B a len) : Row w w.heap.size a len := fun k hk => by
  obtain ⟨b, off, z, ha, _, hc, h0, h1⟩ := h k hk
  exact ⟨b, off, z, ha, World.block_lt_of_cell? w _ hc, hc, h0, h1⟩
theorem big_any (a : Option Addr) (len cap : Nat) (b : Bool) (hb : b = true ↔ 1048576 < len) (hl : len ≤ 9223372036854775807) (w : World) :
    Calls Tryz.prog 4 #[.slice a len cap] w fun e w' => e = .returned (.bool b) ∧ w = w' := by
  obtain rfl : b = decide (1048576 < len) := by rw [Bool.eq_iff_iff]; simpa using hb
  clear hb
  by_cases h : 1048576 < len
  · go_enter Tryz.func4, Tryz.ntmps4
    go_wp2
    go_ret
    exact ⟨by simp; omega, rfl⟩
  · go_enter Tryz.func4, Tryz.ntmps4
    go_wp2
    go_ret
    exact ⟨by simp; omega, rfl⟩

def OutNew (w : World) (a : Option Addr) (len cap : Nat) (e : Ending) (w' : World) : Prop :=
  ∃ g : Nat, e = .returned (.pointer (some ⟨g, 0, none⟩)) ∧ w.heap.size ≤ g ∧ Cur w' g a len cap ∧ Below w.heap.size w w'

set_option maxRecDepth 20000 in
theorem new_any (w : World) (a : Option Addr) (len cap : Nat) (hlen : len ≤ 1048576) (B : Nat) (hrow : Row w B a len) :
    Calls Tryz.prog 22 #[.slice a len cap] w (OutNew w a len cap) := by
  have HR := Lib.hid hrow
  clear hrow
  go_enter Tryz.func22, Tryz.ntmps22
  go_wp2
  go_loop [3, 4] (fun h i => ∃ (k : Nat) (x : Int), k ≤ len ∧ k ≤ 4000 ∧ i = .int .i64 k ∧ h = .int .i64 x ∧ 0 ≤ x ∧ x ≤ 1073741823) (fun _ i => len - (intOf i).toNat)
  case atStart => exact ⟨0, _, Nat.zero_le _, by omega, rfl, rfl, by omega, by omega⟩
  case round =>
    obtain ⟨k, x, hk, hk4, rfl, rfl, hx0, hx1⟩ := hrel
    by_cases hlt : k < len ∧ k < 4000
    · obtain ⟨h1, h2⟩ := hlt
      obtain ⟨b, off, z, rfl, hbB, hz, hz0, hz1⟩ := HR.out k h1
      have hd : decide ((k : Int) < 4000) = true := by simp; omega
      go_wp2
      go_round
      case rel => exact ⟨k + 1, _, by omega, by omega, by go_num, rfl, (and30 _).1, (and30 _).2⟩
      case measure => simp [intOf]; omega
    · go_wp2
      all_goals
        go_ret
        exact ⟨w.heap.size, rfl, Nat.le_refl _, ⟨0, x, Nat.zero_le _, heap_alloc_new w _⟩, (Below.refl _ _).alloc (Nat.le_refl _) _⟩

def OutNum (P : Int → Prop) (w : World) (e : Ending) (w' : World) : Prop := ∃ n : Int, e = .returned (.int .i64 n) ∧ P n ∧ Below w.heap.size w w'
def OutStr (w : World) (e : Ending) (w' : World) : Prop := ∃ l : List UInt8, e = .returned (.string ⟨l.toArray⟩) ∧ l.length ≤ 40 ∧ Below w.heap.size w w'
def OutTwo (w : World) (e : Ending) (w' : World) : Prop := ∃ n x : Int, e = .returned (.tuple #[.int .i64 n, .int .i64 x]) ∧ I64 n ∧ -1 ≤ x ∧ x ≤ 8 ∧ Below w.heap.size w w'

end Go.Proofs.YtaijajajpnekbaaGreat.num
namespace Go.Proofs.YtaijajajpnekbaaGreat.num
set_option maxRecDepth 20000
open Go.RowKit
set_option linter.unusedVariables false

def OutBool (w : World) (g : Nat) (a : Option Addr) (len cap : Nat) (e : Ending) (w' : World) : Prop :=
  ∃ b : Bool, e = .returned (.bool b) ∧ Cur w' g a len cap ∧ w.grownBy w' (some g)
theorem once_any (n : Int) (hn : n ≤ 2147483648) (w : World) (g : Nat) (a : Option Addr) (len cap : Nat) (hlen : len ≤ 1048576) (hc : Cur w g a len cap) (B : Nat) (hB : B ≤ g) (hrow : Row w B a len) :
    Calls Tryz.prog 25 #[.pointer (some ⟨g, 0, none⟩), .int .i64 n] w (OutBool w g a len cap) := by
  go_enter Tryz.func25, Tryz.ntmps25
  go_wp2_with fail
  refine (below_any n hn _ g a len cap hlen hc B hB hrow).mono ?_
  rintro e w1 ⟨x, rfl, _, hc1, hg1⟩
  clear hc hrow
  by_cases h0 : x = 0
  · go_wp2
    go_ret
    exact ⟨_, rfl, hc1, hg1⟩
  · go_wp2
    go_ret
    exact ⟨_, rfl, hc1, hg1⟩

theorem OwnP.keptg {w w' : World} {B g : Nat} {v : Value} {l : List (Int × Int)} (h : OwnP w B v l) (hg : w.grownBy w' (some g)) (hB : g < B) : OwnP w' B v l :=
  h.blocks fun k hk => hg.block k (h.tops k hk) fun e => by have := h.lows k hk; have := Option.some.inj e; omega
theorem grown_tail {a b c : World} {r : Option Nat} (h : a.grownBy b r) (k : Below a.heap.size b c) : a.grownBy c r :=
  ⟨k.os.trans h.os, k.tape.trans h.tape, k.output.trans h.output, Nat.le_trans h.size k.size, fun i hi hne => (k.block i hi).trans (h.block i hi hne)⟩
/-- Pairs of the call's own, n of them at most; the cursor has moved on. -/
def OutPairs (n : Nat) (w : World) (g : Nat) (a : Option Addr) (len cap : Nat) (e : Ending) (w' : World) : Prop :=
  ∃ v ps, e = .returned v ∧ OwnP w' w.heap.size v ps ∧ ps.length ≤ n ∧ Cur w' g a len cap ∧ w.grownBy w' (some g)
set_option maxHeartbeats 1000000 in
theorem pairs_any (w : World) (g : Nat) (a : Option Addr) (len cap : Nat) (hlen : len ≤ 1048576) (hc : Cur w g a len cap) (B : Nat) (hB : B ≤ g) (hrow : Row w B a len) :
    Calls Tryz.prog 94 #[.pointer (some ⟨g, 0, none⟩)] w (OutPairs 4 w g a len cap) := by
  have HC := Lib.hid hc
  have HR := Lib.hid hrow
  have hgl := hc.lt
  have HC1 := Lib.hid (hc.kept (w' := w.alloc (.cells #[] 79)) (Below.heap_alloc _ _ _ hc.lt))
  have HG1 : Hid (w.grownBy (w.alloc (.cells #[] 79)) (some g)) := Lib.hid (World.grownBy_alloc w _ _)
  have HO1 := Lib.hid (OwnP.empty w w.heap.size (Nat.le_refl _))
  clear hc hrow
  go_enter Tryz.func94, Tryz.ntmps94
  go_wp2_with fail
  refine (below_any 5 (by omega) _ g a len cap hlen HC1.out B hB (HR.out.below (grown_below HG1.out hB (by omega)))).mono ?_
  rintro e w2 ⟨x, rfl, hx, hc2, hg2⟩
  obtain ⟨hx0, hx5⟩ := hx.2 (by omega)
  obtain ⟨k0, rfl⟩ := Int.eq_ofNat_of_zero_le hx0
  have HC2 := Lib.hid hc2
  have HG2 := Lib.hid (HG1.out.trans hg2)
  have HO2 := Lib.hid (HO1.out.keptg hg2 hgl)
  have hk5 : k0 < 5 := by omega
  clear hx hc2 hg2 hx0 hx5 HO1 HG1 HC1
  go_wp2
  go_loopw [3, 4] (fun v n wr => ∃ (k : Nat) (ps : List (Int × Int)), ps.length + k ≤ 4 ∧ n = .int .i64 k ∧ OwnP wr w.heap.size v ps ∧ Cur wr g a len cap ∧ w.grownBy wr (some g)) (fun _ n _ => (intOf n).toNat)
  case atStart => exact ⟨k0, [], by simp; omega, rfl, HO2.out, HC2.out, HG2.out⟩
  case round =>
    clear HO2 HC2 HG2 hk5
    obtain ⟨k, ps, hk, rfl, hown, hcur, hgw⟩ := hrel
    have HO := Lib.hid hown
    have HCu := Lib.hid hcur
    have HG := Lib.hid hgw
    clear hown hcur hgw
    by_cases hk0 : k = 0
    · subst hk0
      have hd : decide (((0 : Nat) : Int) > 0) = false := by simp
      go_wp2
      go_ret
      exact ⟨_, ps, rfl, HO.out, by omega, HCu.out, HG.out⟩
    · have hkp : (0 : Int) < k := by omega
      go_wp2_with fail
      refine (below_any 4 (by omega) _ g a len cap hlen HCu.out B hB (HR.out.below (grown_below HG.out hB (by omega)))).mono ?_
      rintro e w3 ⟨x, rfl, hx, hc3, hg3⟩
      obtain ⟨hx0, hx4⟩ := hx.2 (by omega)
      have HC3 := Lib.hid hc3
      have HG3 := Lib.hid (HG.out.trans hg3)
      have HO3 := Lib.hid (HO.out.keptg hg3 hgl)
      clear hx hc3 hg3 HO HCu HG
      go_wp2_with fail
      refine (below_any 3 (by omega) _ g a len cap hlen HC3.out B hB (HR.out.below (grown_below HG3.out hB (by omega)))).mono ?_
      rintro e w4 ⟨y, rfl, hy, hc4, hg4⟩
      obtain ⟨hy0, hy3⟩ := hy.2 (by omega)
      have HC4 := Lib.hid hc4
      have HG4 := Lib.hid (HG3.out.trans hg4)
      have HO4 := Lib.hid (HO3.out.keptg hg4 hgl)
      clear hy hc4 hg4 HO3 HC3 HG3
      go_wp2_with fail
      refine (once_any 3 (by omega) _ g a len cap hlen HC4.out B hB (HR.out.below (grown_below HG4.out hB (by omega)))).mono ?_
      rintro e w5 ⟨t, rfl, hc5, hg5⟩
      have HC5 := Lib.hid hc5
      have HG5 := Lib.hid (HG4.out.trans hg5)
      have HO5 := Lib.hid (HO4.out.keptg hg5 hgl)
      have hwl : Hid (w.heap.size ≤ w5.heap.size) := Lib.hid HG5.out.size
      have H4 : ∀ p : Int × Int, (ps.length + [p].length) * 16 ≤ 140737488355328 := fun p => by
        simp only [List.length_cons, List.length_nil]; omega
      have H4' := Lib.hid H4
      clear hc5 hg5 HO4 HC4 HG4 H4
      cases t
      · go_wp2_with (at_builtin; refine wp_appP _ (by rfl) (.tmp 30) (.tmp 34) (by rfl) w.heap.size _ _ (by rfl) HO5.out _ [(x, x + 1 + y)] (by rfl) 1 1 rfl (by rfl) (H4'.out _) hwl.out ?_)
        intro v1 w6 hown6 hb6
        have HO6 := Lib.hid hown6
        have HG6 := Lib.hid (grown_tail HG5.out hb6)
        have HC6 := Lib.hid (HC5.out.kept (hb6.block g hgl))
        clear hown6 hb6
        go_wp2
        go_roundw
        case rel => exact ⟨k - 1, ps ++ [(x, x + 1 + y)], by simp; omega, by first | rfl | (congr 1; omega), HO6.out, HC6.out, HG6.out⟩
        case measure => simp [intOf]; omega
      · go_wp2_with (at_builtin; refine wp_appP _ (by rfl) (.tmp 23) (.tmp 28) (by rfl) w.heap.size _ _ (by rfl) HO5.out _ [(x + 1 + y, x + 1 + y + 1)] (by rfl) 1 1 rfl (by rfl) (H4'.out _) hwl.out ?_)
        intro v1 w6 hown6 hb6
        have HO6 := Lib.hid hown6
        have HG6 := Lib.hid (grown_tail HG5.out hb6)
        have HC6 := Lib.hid (HC5.out.kept (hb6.block g hgl))
        clear hown6 hb6
        go_wp2
        go_roundw
        case rel => exact ⟨k - 1, ps ++ [(x + 1 + y, x + 1 + y + 1)], by simp; omega, by first | rfl | (congr 1; omega), HO6.out, HC6.out, HG6.out⟩
        case measure => simp [intOf]; omega

theorem OwnP.lowD {w : World} {B B' : Nat} {v : Value} {l : List (Int × Int)} (h : OwnP w B v l) (hB : B' ≤ B) : OwnP w B' v l :=
  ⟨h.1, h.2.imp id fun ⟨g, cap, cur, h1, h2, h3⟩ => ⟨g, cap, cur, h1, Nat.le_trans hB h2, h3⟩⟩
/-- Pairs that came of a draw. -/
def Drawn (w w' : World) (v : Value) (ps : List (Int × Int)) : Prop := OwnP w' w.heap.size v ps ∧ ps.length ≤ 5 ∧ Below w.heap.size w w'
end Go.Proofs.YtaijajajpnekbaaGreat.num
namespace Go.Proofs.YtaijajajpnekbaaGreat.num
set_option maxRecDepth 20000
open Go.RowKit
set_option linter.unusedVariables false
set_option linter.unusedSimpArgs false

theorem i64_small {n : Int} (h0 : 0 ≤ n) (h1 : n ≤ 100) : I64 n := ⟨by omega, by omega⟩
/-- A wish whose slices are the call's own, and short. -/
structure WiOwn (w : World) (B : Nat) (t : Wi) : Prop where
  l : OwnI w B (.slice t.LA t.Ln t.Lc) t.ls
  p : OwnP w B (.slice t.PA t.Pn t.Pc) t.ps
  k : I64 t.kind
  f : I64 t.field
  v : I64 t.value
  nl : t.ls.length ≤ 5
  np : t.ps.length ≤ 4
theorem wf_I64 {n : Int} (h : I64 n) : (Lit.int .i64 n).wf = true := WalkArith.wf_i64 h
theorem WiOwn.wi {w : World} {B : Nat} {t : Wi} (h : WiOwn w B t) : WiIn w w.heap.size t := ⟨wf_I64 h.k, wf_I64 h.f, wf_I64 h.v, ownI_at h.l, h.p.at⟩
theorem WiOwn.short {w : World} {B : Nat} {t : Wi} (h : WiOwn w B t) : t.Short := ⟨by have := (ownI_at h.l).1; have := h.nl; omega, by have := h.p.at.1; have := h.np; omega⟩
theorem WiOwn.blocks {w w' : World} {B : Nat} {t : Wi} (h : WiOwn w B t) (hb : ∀ b, B ≤ b → b < w.heap.size → w'.heap[b]? = w.heap[b]?) : WiOwn w' B t :=
  ⟨ownI_blocks h.l fun k hk => hb k (ownI_lows h.l k hk) (ownI_tops h.l k hk), h.p.blocks fun k hk => hb k (h.p.lows k hk) (h.p.tops k hk), h.k, h.f, h.v, h.nl, h.np⟩
theorem ownI_lowD {w : World} {B B' : Nat} {v : Value} {l : List Int} (h : OwnI w B v l) (hB : B' ≤ B) : OwnI w B' v l :=
  ⟨h.1, h.2.imp id fun ⟨g, cap, cur, h1, h2, h3⟩ => ⟨g, cap, cur, h1, Nat.le_trans hB h2, h3⟩⟩
theorem WiOwn.low {w : World} {B B' : Nat} {t : Wi} (h : WiOwn w B t) (hB : B' ≤ B) : WiOwn w B' t := ⟨ownI_lowD h.l hB, h.p.lowD hB, h.k, h.f, h.v, h.nl, h.np⟩
theorem row_kept {a b : World} {g X : Nat} {o : Obj} (hg : a.grownBy b (some g)) (h : a.heap[X]? = some o) (hX : X ≠ g) : b.heap[X]? = some o :=
  (hg.block X (Array.getElem?_eq_some_iff.1 h).1 (fun e => hX (Option.some.inj e))).trans h
theorem row_below {a b : World} {B X : Nat} {o : Obj} (hb : Below B a b) (h : a.heap[X]? = some o) (hX : X < B) : b.heap[X]? = some o := (hb.block X hX).trans h
theorem ownI_keptg {w w' : World} {B g : Nat} {v : Value} {l : List Int} (h : OwnI w B v l) (hg : w.grownBy w' (some g)) (hB : g < B) : OwnI w' B v l :=
  ownI_blocks h fun k hk => hg.block k (ownI_tops h k hk) fun e => by have := ownI_lows h k hk; have := Option.some.inj e; omega
/-- Five cells stored at block X. -/
def set5 (w : World) (X : Nat) (v0 v1 v2 v3 v4 : Value) : World := ((((w.setCell ⟨X, 0, none⟩ v0).setCell ⟨X, 1, none⟩ v1).setCell ⟨X, 2, none⟩ v2).setCell ⟨X, 3, none⟩ v3).setCell ⟨X, 4, none⟩ v4
theorem set5_other (w : World) (X b : Nat) (v0 v1 v2 v3 v4 : Value) (h : b ≠ X) : (set5 w X v0 v1 v2 v3 v4).heap[b]? = w.heap[b]? := by
  unfold set5
  rw [heap_setCell_other _ _ _ _ h, heap_setCell_other _ _ _ _ h, heap_setCell_other _ _ _ _ h, heap_setCell_other _ _ _ _ h, heap_setCell_other _ _ _ _ h]
theorem set5_below (w : World) (X B : Nat) (v0 v1 v2 v3 v4 : Value) (h : B ≤ X) : Below B w (set5 w X v0 v1 v2 v3 v4) := by
  unfold set5
  exact (((((Below.refl B w).setCell h _).setCell h _).setCell h _).setCell h _).setCell h _
def OutWish (N : Nat) (w : World) (g : Nat) (a : Option Addr) (len cap : Nat) (e : Ending) (w' : World) : Prop :=
  ∃ t : Wi, e = .returned t.val ∧ WiOwn w' w.heap.size t ∧ t.ls.length ≤ N ∧ Cur w' g a len cap ∧ w.grownBy w' (some g)
/-- What is handed out at the end, the result's block written. -/
theorem out_wish {w wr : World} {g : Nat} {a : Option Addr} {len cap : Nat} {t : Wi} {Y : Nat} (hgl : g < w.heap.size) (hY : w.heap.size < Y) (ho : WiOwn wr Y t) (hc : Cur wr g a len cap) (hg : w.grownBy wr (some g)) (v0 v1 v2 v3 v4 : Value) :
    WiOwn (set5 wr w.heap.size v0 v1 v2 v3 v4) w.heap.size t ∧ Cur (set5 wr w.heap.size v0 v1 v2 v3 v4) g a len cap ∧ w.grownBy (set5 wr w.heap.size v0 v1 v2 v3 v4) (some g) :=
  ⟨(ho.blocks fun b hb _ => set5_other _ _ _ _ _ _ _ _ (by omega)).low (by omega), hc.kept (set5_other _ _ _ _ _ _ _ _ (by omega)), grown_tail hg (set5_below _ _ _ _ _ _ _ _ (Nat.le_refl _))⟩

set_option maxRecDepth 20000 in
set_option maxHeartbeats 3200000 in
theorem wish_any (w : World) (g : Nat) (a : Option Addr) (len cap : Nat) (hlen : len ≤ 1048576) (hc : Cur w g a len cap) (B : Nat) (hB : B ≤ g) (hrow : Row w B a len) :
    Calls Tryz.prog 81 #[.pointer (some ⟨g, 0, none⟩)] w (OutWish 4 w g a len cap) := by
  have HR := Lib.hid hrow
  have hgl := hc.lt
  have HC1 := Lib.hid (hc.kept (w' := w.alloc (.cells #[.int .i64 0, .int .i64 0, .int .i64 0, .slice none 0 0, .slice none 0 0] 55)) (Below.heap_alloc _ _ _ hc.lt))
  have HG1 : Hid (w.grownBy (w.alloc (.cells #[.int .i64 0, .int .i64 0, .int .i64 0, .slice none 0 0, .slice none 0 0] 55)) (some g)) := Lib.hid (World.grownBy_alloc w _ _)
  have HX1 := Lib.hid (heap_alloc_new w (.cells #[.int .i64 0, .int .i64 0, .int .i64 0, .slice none 0 0, .slice none 0 0] 55))
  clear hc hrow
  go_enter Tryz.func81, Tryz.ntmps81
  go_wp2_with fail
  refine (below_any 5 (by omega) _ g a len cap hlen HC1.out B hB (HR.out.below (grown_below HG1.out hB (by omega)))).mono ?_
  rintro e w2 ⟨k, rfl, hk, hc2, hg2⟩
  obtain ⟨hk0, hk5⟩ := hk.2 (by omega)
  have HC2 := Lib.hid hc2
  have HG2 := Lib.hid (HG1.out.trans hg2)
  have HX2 := Lib.hid (row_kept hg2 HX1.out (by omega))
  clear hk hc2 hg2 HC1 HG1 HX1
  go_wp2_with fail
  refine (below_any 3 (by omega) _ g a len cap hlen HC2.out B hB (HR.out.below (grown_below HG2.out hB (by omega)))).mono ?_
  rintro e w3 ⟨f, rfl, hf, hc3, hg3⟩
  obtain ⟨hf0, hf3⟩ := hf.2 (by omega)
  have HC3 := Lib.hid hc3
  have HG3 := Lib.hid (HG2.out.trans hg3)
  have HX3 := Lib.hid (row_kept hg3 HX2.out (by omega))
  clear hf hc3 hg3 HC2 HG2 HX2
  have hX3 : w.heap.size < w3.heap.size := lt_of_block HX3.out
  rcases (show k = 0 ∨ k = 1 ∨ k = 2 ∨ k = 3 ∨ k = 4 by omega) with rfl | rfl | rfl | rfl | rfl
  · have x0 : w3.cell? ⟨w.heap.size, 0, none⟩ = some (.int .i64 0) := cell_of_row w3 _ 0 _ _ (0, 0) HX3.out
    have z0 : w3.frozen? ⟨w.heap.size, 0, none⟩ = false := frozen_of_row w3 _ 0 _ _ HX3.out
    have x1 : w3.cell? ⟨w.heap.size, 1, none⟩ = some (.int .i64 0) := cell_of_row w3 _ 1 _ _ (0, 0) HX3.out
    have z1 : w3.frozen? ⟨w.heap.size, 1, none⟩ = false := frozen_of_row w3 _ 1 _ _ HX3.out
    have x2 : w3.cell? ⟨w.heap.size, 2, none⟩ = some (.int .i64 0) := cell_of_row w3 _ 2 _ _ (0, 0) HX3.out
    have z2 : w3.frozen? ⟨w.heap.size, 2, none⟩ = false := frozen_of_row w3 _ 2 _ _ HX3.out
    have x3 : w3.cell? ⟨w.heap.size, 3, none⟩ = some (.slice none 0 0) := cell_of_row w3 _ 3 _ _ (0, 0) HX3.out
    have z3 : w3.frozen? ⟨w.heap.size, 3, none⟩ = false := frozen_of_row w3 _ 3 _ _ HX3.out
    have x4 : w3.cell? ⟨w.heap.size, 4, none⟩ = some (.slice none 0 0) := cell_of_row w3 _ 4 _ _ (0, 0) HX3.out
    have z4 : w3.frozen? ⟨w.heap.size, 4, none⟩ = false := frozen_of_row w3 _ 4 _ _ HX3.out
    go_wp2
    refine bodyPost_ret_by (results_cell_row rfl _ _ w.heap.size 55 _ (0, 0) _ rfl ((Below.heap_alloc _ _ _ (by simp; omega)).trans (five_set HX3.out)) Tryz.underlying55 rfl (by kernel_rfl)) rfl ?_
    refine ⟨⟨0, f, 0, none, 0, 0, [], none, 0, 0, []⟩, rfl, ⟨ownI_nil _ _, OwnP.nil _ _, i64_small (n := 0) (by decide) (by decide), i64_small (n := f) (by omega) (by omega), i64_small (n := 0) (by decide) (by decide), by simp, by simp⟩, by simp, (HC3.out.kept ?_).kept (Below.heap_alloc _ _ _ (by simp; omega)), grown_alloc (grown_tail HG3.out ?_) _⟩
    · exact set5_other w3 w.heap.size g _ _ _ _ _ (by omega)
    · exact set5_below w3 w.heap.size w.heap.size _ _ _ _ _ (Nat.le_refl _)
  · have x0 : w3.cell? ⟨w.heap.size, 0, none⟩ = some (.int .i64 0) := cell_of_row w3 _ 0 _ _ (0, 0) HX3.out
    have z0 : w3.frozen? ⟨w.heap.size, 0, none⟩ = false := frozen_of_row w3 _ 0 _ _ HX3.out
    have x1 : w3.cell? ⟨w.heap.size, 1, none⟩ = some (.int .i64 0) := cell_of_row w3 _ 1 _ _ (0, 0) HX3.out
    have z1 : w3.frozen? ⟨w.heap.size, 1, none⟩ = false := frozen_of_row w3 _ 1 _ _ HX3.out
    have x2 : w3.cell? ⟨w.heap.size, 2, none⟩ = some (.int .i64 0) := cell_of_row w3 _ 2 _ _ (0, 0) HX3.out
    have z2 : w3.frozen? ⟨w.heap.size, 2, none⟩ = false := frozen_of_row w3 _ 2 _ _ HX3.out
    have x3 : w3.cell? ⟨w.heap.size, 3, none⟩ = some (.slice none 0 0) := cell_of_row w3 _ 3 _ _ (0, 0) HX3.out
    have z3 : w3.frozen? ⟨w.heap.size, 3, none⟩ = false := frozen_of_row w3 _ 3 _ _ HX3.out
    have x4 : w3.cell? ⟨w.heap.size, 4, none⟩ = some (.slice none 0 0) := cell_of_row w3 _ 4 _ _ (0, 0) HX3.out
    have z4 : w3.frozen? ⟨w.heap.size, 4, none⟩ = false := frozen_of_row w3 _ 4 _ _ HX3.out
    go_wp2
    refine bodyPost_ret_by (results_cell_row rfl _ _ w.heap.size 55 _ (0, 0) _ rfl ((Below.heap_alloc _ _ _ (by simp; omega)).trans (five_set HX3.out)) Tryz.underlying55 rfl (by kernel_rfl)) rfl ?_
    refine ⟨⟨1, f, 0, none, 0, 0, [], none, 0, 0, []⟩, rfl, ⟨ownI_nil _ _, OwnP.nil _ _, i64_small (n := 1) (by decide) (by decide), i64_small (n := f) (by omega) (by omega), i64_small (n := 0) (by decide) (by decide), by simp, by simp⟩, by simp, (HC3.out.kept ?_).kept (Below.heap_alloc _ _ _ (by simp; omega)), grown_alloc (grown_tail HG3.out ?_) _⟩
    · exact set5_other w3 w.heap.size g _ _ _ _ _ (by omega)
    · exact set5_below w3 w.heap.size w.heap.size _ _ _ _ _ (Nat.le_refl _)
  · have HC4 := Lib.hid (HC3.out.kept (Below.heap_alloc w3 (.cells #[.int .i64 2, .int .i64 f, .int .i64 0, .slice none 0 0, .slice none 0 0] 55) _ (Nat.lt_trans hgl hX3)))
    have HG4 := Lib.hid (grown_alloc HG3.out (.cells #[.int .i64 2, .int .i64 f, .int .i64 0, .slice none 0 0, .slice none 0 0] 55))
    have HX4 := Lib.hid ((Below.heap_alloc w3 (.cells #[.int .i64 2, .int .i64 f, .int .i64 0, .slice none 0 0, .slice none 0 0] 55) _ hX3).trans HX3.out)
    have HY4 := Lib.hid (heap_alloc_new w3 (.cells #[.int .i64 2, .int .i64 f, .int .i64 0, .slice none 0 0, .slice none 0 0] 55))
    clear HC3 HG3 HX3
    go_wp2_with fail
    refine (below_any 5 (by omega) _ g a len cap hlen HC4.out B hB (HR.out.below (grown_below HG4.out hB (by omega)))).mono ?_
    rintro e w4 ⟨z, rfl, hz, hc4, hg4⟩
    obtain ⟨hz0, hz5⟩ := hz.2 (by omega)
    have HC5 := Lib.hid hc4
    have HG5 := Lib.hid (HG4.out.trans hg4)
    have HXX := Lib.hid (row_kept hg4 HX4.out (by omega))
    have HYY := Lib.hid (row_kept hg4 HY4.out (by omega))
    clear hz hc4 hg4 HC4 HG4 HX4 HY4
    have x0 : w4.cell? ⟨w.heap.size, 0, none⟩ = some (.int .i64 0) := cell_of_row w4 _ 0 _ _ (0, 0) HXX.out
    have z0 : w4.frozen? ⟨w.heap.size, 0, none⟩ = false := frozen_of_row w4 _ 0 _ _ HXX.out
    have x1 : w4.cell? ⟨w.heap.size, 1, none⟩ = some (.int .i64 0) := cell_of_row w4 _ 1 _ _ (0, 0) HXX.out
    have z1 : w4.frozen? ⟨w.heap.size, 1, none⟩ = false := frozen_of_row w4 _ 1 _ _ HXX.out
    have x2 : w4.cell? ⟨w.heap.size, 2, none⟩ = some (.int .i64 0) := cell_of_row w4 _ 2 _ _ (0, 0) HXX.out
    have z2 : w4.frozen? ⟨w.heap.size, 2, none⟩ = false := frozen_of_row w4 _ 2 _ _ HXX.out
    have x3 : w4.cell? ⟨w.heap.size, 3, none⟩ = some (.slice none 0 0) := cell_of_row w4 _ 3 _ _ (0, 0) HXX.out
    have z3 : w4.frozen? ⟨w.heap.size, 3, none⟩ = false := frozen_of_row w4 _ 3 _ _ HXX.out
    have x4 : w4.cell? ⟨w.heap.size, 4, none⟩ = some (.slice none 0 0) := cell_of_row w4 _ 4 _ _ (0, 0) HXX.out
    have z4 : w4.frozen? ⟨w.heap.size, 4, none⟩ = false := frozen_of_row w4 _ 4 _ _ HXX.out
    have y0 : w4.cell? ⟨w3.heap.size, 0, none⟩ = some (.int .i64 2) := cell_of_row w4 _ 0 _ _ (0, 0) HYY.out
    have y1 : w4.cell? ⟨w3.heap.size, 1, none⟩ = some (.int .i64 f) := cell_of_row w4 _ 1 _ _ (0, 0) HYY.out
    have y2 : w4.cell? ⟨w3.heap.size, 2, none⟩ = some (.int .i64 0) := cell_of_row w4 _ 2 _ _ (0, 0) HYY.out
    have y3 : w4.cell? ⟨w3.heap.size, 3, none⟩ = some (.slice none 0 0) := cell_of_row w4 _ 3 _ _ (0, 0) HYY.out
    have y4 : w4.cell? ⟨w3.heap.size, 4, none⟩ = some (.slice none 0 0) := cell_of_row w4 _ 4 _ _ (0, 0) HYY.out
    have u2 : w4.frozen? ⟨w3.heap.size, 2, none⟩ = false := frozen_of_row w4 _ 2 _ _ HYY.out
    go_wp2
    refine bodyPost_ret_by (results_cell_row rfl _ _ w.heap.size 55 _ (0, 0) _ rfl (five_set ((heap_setCell_other _ _ _ _ (by simp; omega)).trans HXX.out)) Tryz.underlying55 rfl (by kernel_rfl)) rfl ?_
    obtain ⟨h1, h2, h3⟩ := out_wish (t := ⟨2, f, z, none, 0, 0, [], none, 0, 0, []⟩) (Y := w3.heap.size) hgl hX3 (wr := w4.setCell ⟨w3.heap.size, 2, none⟩ (.int .i64 z)) ⟨ownI_nil _ _, OwnP.nil _ _, i64_small (n := 2) (by decide) (by decide), i64_small (n := f) (by omega) (by omega), i64_small (n := z) (by omega) (by omega), by simp, by simp⟩ (HC5.out.kept (heap_setCell_other _ _ _ _ (by simp; omega))) (grown_tail HG5.out ((Below.refl _ _).setCell (by show w.heap.size ≤ w3.heap.size; omega) _)) (.int .i64 2) (.int .i64 f) (.int .i64 z) (.slice none 0 0) (.slice none 0 0)
    exact ⟨_, rfl, h1, by simp, h2, h3⟩
  · have HC4 := Lib.hid (HC3.out.kept (Below.heap_alloc w3 (.cells #[.int .i64 3, .int .i64 f, .int .i64 0, .slice none 0 0, .slice none 0 0] 55) _ (Nat.lt_trans hgl hX3)))
    have HG4 := Lib.hid (grown_alloc HG3.out (.cells #[.int .i64 3, .int .i64 f, .int .i64 0, .slice none 0 0, .slice none 0 0] 55))
    have HX4 := Lib.hid ((Below.heap_alloc w3 (.cells #[.int .i64 3, .int .i64 f, .int .i64 0, .slice none 0 0, .slice none 0 0] 55) _ hX3).trans HX3.out)
    have HY4 := Lib.hid (heap_alloc_new w3 (.cells #[.int .i64 3, .int .i64 f, .int .i64 0, .slice none 0 0, .slice none 0 0] 55))
    clear HC3 HG3 HX3
    go_wp2_with fail
    refine (below_any 2 (by omega) _ g a len cap hlen HC4.out B hB (HR.out.below (grown_below HG4.out hB (by omega)))).mono ?_
    rintro e w4 ⟨x, rfl, hx, hc4, hg4⟩
    obtain ⟨hx0, hx2⟩ := hx.2 (by omega)
    have HC5 := Lib.hid hc4
    have HG5 := Lib.hid (HG4.out.trans hg4)
    have HX5 := Lib.hid (row_kept hg4 HX4.out (by omega))
    have HY5 := Lib.hid (row_kept hg4 HY4.out (by omega))
    clear hx hc4 hg4 HC4 HG4 HX4 HY4
    go_wp2_with fail
    refine (below_any 3 (by omega) _ g a len cap hlen HC5.out B hB (HR.out.below (grown_below HG5.out hB (by omega)))).mono ?_
    rintro e w5 ⟨m, rfl, hm, hc5, hg5⟩
    obtain ⟨hm0, hm3⟩ := hm.2 (by omega)
    obtain ⟨m, rfl⟩ := Int.eq_ofNat_of_zero_le hm0
    have HC6 := Lib.hid hc5
    have HG6 := Lib.hid (HG5.out.trans hg5)
    have HX6 := Lib.hid (row_kept hg5 HX5.out (by omega))
    have HY6 := Lib.hid (row_kept hg5 HY5.out (by omega))
    clear hm hc5 hg5 HC5 HG5 HX5 HY5
    go_wp2
    go_loopw [4, 5] (fun xv nv wr => ∃ (j : Nat) (x : Int) (LA : Option Addr) (Ln Lc : Nat) (ls : List Int), j ≤ 3 ∧ nv = .int .i64 j ∧ xv = .int .i64 x ∧ 0 ≤ x ∧ x + 2 * j ≤ 7 ∧ ls.length + j ≤ 3 ∧ wr.heap[w3.heap.size]? = some (.cells #[.int .i64 3, .int .i64 f, .int .i64 0, .slice LA Ln Lc, .slice none 0 0] 55 (0, 0)) ∧ OwnI wr (w3.heap.size + 1) (.slice LA Ln Lc) ls ∧ wr.heap[w.heap.size]? = some (.cells #[.int .i64 0, .int .i64 0, .int .i64 0, .slice none 0 0, .slice none 0 0] 55 (0, 0)) ∧ Cur wr g a len cap ∧ w.grownBy wr (some g) ∧ w3.heap.size + 1 ≤ wr.heap.size) (fun _ nv _ => (intOf nv).toNat)
    case atStart => exact ⟨m + 1, x, none, 0, 0, [], by omega, by first | rfl | (congr 1; omega), rfl, hx0, by omega, by simp; omega, HY6.out, ownI_nil _ _, HX6.out, HC6.out, HG6.out, lt_of_block HY6.out⟩
    case round =>
      clear HX6 HY6 HC6 HG6 hx0 hx2 hm0 hm3
      obtain ⟨j, x, LA, Ln, Lc, ls, hj, rfl, rfl, hx0, hx7, hls, hy, hown, hxx, hcur, hgw, hsz⟩ := hrel
      have HYY := Lib.hid hy
      have HXX := Lib.hid hxx
      have HO := Lib.hid hown
      have HCu := Lib.hid hcur
      have HG := Lib.hid hgw
      clear hy hown hxx hcur hgw
      by_cases hj0 : j = 0
      · subst hj0
        have hd : decide (((0 : Nat) : Int) > 0) = false := by simp
        have x0 : wr.cell? ⟨w.heap.size, 0, none⟩ = some (.int .i64 0) := cell_of_row wr _ 0 _ _ (0, 0) HXX.out
        have z0 : wr.frozen? ⟨w.heap.size, 0, none⟩ = false := frozen_of_row wr _ 0 _ _ HXX.out
        have x1 : wr.cell? ⟨w.heap.size, 1, none⟩ = some (.int .i64 0) := cell_of_row wr _ 1 _ _ (0, 0) HXX.out
        have z1 : wr.frozen? ⟨w.heap.size, 1, none⟩ = false := frozen_of_row wr _ 1 _ _ HXX.out
        have x2 : wr.cell? ⟨w.heap.size, 2, none⟩ = some (.int .i64 0) := cell_of_row wr _ 2 _ _ (0, 0) HXX.out
        have z2 : wr.frozen? ⟨w.heap.size, 2, none⟩ = false := frozen_of_row wr _ 2 _ _ HXX.out
        have x3 : wr.cell? ⟨w.heap.size, 3, none⟩ = some (.slice none 0 0) := cell_of_row wr _ 3 _ _ (0, 0) HXX.out
        have z3 : wr.frozen? ⟨w.heap.size, 3, none⟩ = false := frozen_of_row wr _ 3 _ _ HXX.out
        have x4 : wr.cell? ⟨w.heap.size, 4, none⟩ = some (.slice none 0 0) := cell_of_row wr _ 4 _ _ (0, 0) HXX.out
        have z4 : wr.frozen? ⟨w.heap.size, 4, none⟩ = false := frozen_of_row wr _ 4 _ _ HXX.out
        have y0 : wr.cell? ⟨w3.heap.size, 0, none⟩ = some (.int .i64 3) := cell_of_row wr _ 0 _ _ (0, 0) HYY.out
        have y1 : wr.cell? ⟨w3.heap.size, 1, none⟩ = some (.int .i64 f) := cell_of_row wr _ 1 _ _ (0, 0) HYY.out
        have y2 : wr.cell? ⟨w3.heap.size, 2, none⟩ = some (.int .i64 0) := cell_of_row wr _ 2 _ _ (0, 0) HYY.out
        have y3 : wr.cell? ⟨w3.heap.size, 3, none⟩ = some (.slice LA Ln Lc) := cell_of_row wr _ 3 _ _ (0, 0) HYY.out
        have y4 : wr.cell? ⟨w3.heap.size, 4, none⟩ = some (.slice none 0 0) := cell_of_row wr _ 4 _ _ (0, 0) HYY.out
        go_wp2
        refine bodyPost_ret_by (results_cell_row rfl _ _ w.heap.size 55 _ (0, 0) _ rfl (five_set HXX.out) Tryz.underlying55 rfl (by kernel_rfl)) rfl ?_
        obtain ⟨h1, h2, h3⟩ := out_wish (t := ⟨3, f, 0, LA, Ln, Lc, ls, none, 0, 0, []⟩) (Y := w3.heap.size + 1) hgl (by omega) (wr := wr) ⟨HO.out, OwnP.nil _ _, i64_small (n := 3) (by decide) (by decide), i64_small (n := f) (by omega) (by omega), i64_small (n := 0) (by decide) (by decide), by show ls.length ≤ 5; omega, by simp⟩ HCu.out HG.out (.int .i64 3) (.int .i64 f) (.int .i64 0) (.slice LA Ln Lc) (.slice none 0 0)
        exact ⟨_, rfl, h1, by show ls.length ≤ 4; omega, h2, h3⟩
      · have hjp : (0 : Int) < j := by omega
        have H4 : Hid ((ls.length + [x].length) * 8 ≤ 140737488355328) := Lib.hid (by simp only [List.length_cons, List.length_nil]; omega)
        have y3 : wr.cell? ⟨w3.heap.size, 3, none⟩ = some (.slice LA Ln Lc) := cell_of_row wr _ 3 _ _ (0, 0) HYY.out
        go_wp2_with (at_builtin; refine wp_appI _ (by rfl) (.tmp 30) (.tmp 32) (by rfl) (w3.heap.size + 1) _ _ (by rfl) HO.out _ [x] (by rfl) 1 1 rfl (by rfl) H4.out hsz ?_)
        intro v1 w6 hown6 hb6
        obtain ⟨LA', Ln', Lc', rfl, _⟩ := hown6.ints
        have HO6 := Lib.hid hown6
        have HY6 := Lib.hid (row_below hb6 HYY.out (by omega))
        have HX6 := Lib.hid (row_below hb6 HXX.out (by omega))
        have HC6 := Lib.hid (HCu.out.kept (hb6.block g (by omega)))
        have HG6 := Lib.hid (grown_tail HG.out (hb6.mono (by omega)))
        have hs6 := Lib.hid (Nat.le_trans hsz hb6.size)
        have y3 : w6.cell? ⟨w3.heap.size, 3, none⟩ = some (.slice LA Ln Lc) := cell_of_row w6 _ 3 _ _ (0, 0) HY6.out
        have u3 : w6.frozen? ⟨w3.heap.size, 3, none⟩ = false := frozen_of_row w6 _ 3 _ _ HY6.out
        clear hown6 hb6 HO HYY HXX HCu HG H4
        have HY7 : Hid ((w6.setCell ⟨w3.heap.size, 3, none⟩ (.slice LA' Ln' Lc')).heap[w3.heap.size]? = some (.cells #[.int .i64 3, .int .i64 f, .int .i64 0, .slice LA' Ln' Lc', .slice none 0 0] 55 (0, 0))) := Lib.hid (by have h := heap_setCell_same w6 w3.heap.size 3 _ _ (.slice LA' Ln' Lc') HY6.out; simpa using h)
        have HX7 := Lib.hid ((heap_setCell_other w6 ⟨w3.heap.size, 3, none⟩ w.heap.size (.slice LA' Ln' Lc') (by simp; omega)).trans HX6.out)
        have HC7 := Lib.hid (HC6.out.kept (heap_setCell_other w6 ⟨w3.heap.size, 3, none⟩ g (.slice LA' Ln' Lc') (by simp; omega)))
        have HG7 : Hid (w.grownBy (w6.setCell ⟨w3.heap.size, 3, none⟩ (.slice LA' Ln' Lc')) (some g)) := Lib.hid (grown_tail HG6.out ((Below.refl _ _).setCell (by show w.heap.size ≤ w3.heap.size; omega) _))
        have HO7 : Hid (OwnI (w6.setCell ⟨w3.heap.size, 3, none⟩ (.slice LA' Ln' Lc')) (w3.heap.size + 1) (.slice LA' Ln' Lc') (ls ++ [x])) := Lib.hid (ownI_blocks HO6.out fun k hk => heap_setCell_other _ _ _ _ (by have := ownI_lows HO6.out k hk; simp; omega))
        have hs7 : Hid (w3.heap.size + 1 ≤ (w6.setCell ⟨w3.heap.size, 3, none⟩ (.slice LA' Ln' Lc')).heap.size) := Lib.hid (by have := hs6.out; simp; omega)
        clear HY6 HX6 HC6 HG6 HO6 hs6
        go_wp2_with fail
        refine (below_any 2 (by omega) _ g a len cap hlen HC7.out B hB (HR.out.below (grown_below HG7.out hB (by omega)))).mono ?_
        rintro e w8 ⟨y, rfl, hyr, hc8, hg8⟩
        obtain ⟨hy0, hy2⟩ := hyr.2 (by omega)
        have HC8 := Lib.hid hc8
        have HG8 := Lib.hid (HG7.out.trans hg8)
        have HX8 := Lib.hid (row_kept hg8 HX7.out (by omega))
        have HY8 := Lib.hid (row_kept hg8 HY7.out (by omega))
        have HO8 := Lib.hid (ownI_keptg HO7.out hg8 (by omega))
        have hs8 := Lib.hid (Nat.le_trans hs7.out hg8.size)
        clear hyr hc8 hg8 y3 u3 HY7 HX7 HC7 HG7 HO7 hs7
        go_wp2
        go_roundw
        case rel => exact ⟨j - 1, x + 1 + y, LA', Ln', Lc', ls ++ [x], by omega, by first | rfl | (congr 1; omega), by first | rfl | (congr 1; omega), by omega, by omega, by simp; omega, HY8.out, HO8.out, HX8.out, HC8.out, HG8.out, hs8.out⟩
        case measure => simp [intOf]; omega
  · have HC4 := Lib.hid (HC3.out.kept (Below.heap_alloc w3 (.cells #[.int .i64 4, .int .i64 f, .int .i64 0, .slice none 0 0, .slice none 0 0] 55) _ (Nat.lt_trans hgl hX3)))
    have HG4 := Lib.hid (grown_alloc HG3.out (.cells #[.int .i64 4, .int .i64 f, .int .i64 0, .slice none 0 0, .slice none 0 0] 55))
    have HX4 := Lib.hid ((Below.heap_alloc w3 (.cells #[.int .i64 4, .int .i64 f, .int .i64 0, .slice none 0 0, .slice none 0 0] 55) _ hX3).trans HX3.out)
    have HY4 := Lib.hid (heap_alloc_new w3 (.cells #[.int .i64 4, .int .i64 f, .int .i64 0, .slice none 0 0, .slice none 0 0] 55))
    clear HC3 HG3 HX3
    go_wp2_with fail
    refine (pairs_any _ g a len cap hlen HC4.out B hB (HR.out.below (grown_below HG4.out hB (by omega)))).mono ?_
    rintro e w4 ⟨v, ps, rfl, hown, hps, hc4, hg4⟩
    obtain ⟨PA, Pn, Pc, rfl, _⟩ := hown.pairs
    have HO := Lib.hid hown
    have HC5 := Lib.hid hc4
    have HG5 := Lib.hid (HG4.out.trans hg4)
    have HXX := Lib.hid (row_kept hg4 HX4.out (by omega))
    have HYY := Lib.hid (row_kept hg4 HY4.out (by omega))
    clear hown hc4 hg4 HC4 HG4 HX4 HY4
    have x0 : w4.cell? ⟨w.heap.size, 0, none⟩ = some (.int .i64 0) := cell_of_row w4 _ 0 _ _ (0, 0) HXX.out
    have z0 : w4.frozen? ⟨w.heap.size, 0, none⟩ = false := frozen_of_row w4 _ 0 _ _ HXX.out
    have x1 : w4.cell? ⟨w.heap.size, 1, none⟩ = some (.int .i64 0) := cell_of_row w4 _ 1 _ _ (0, 0) HXX.out
    have z1 : w4.frozen? ⟨w.heap.size, 1, none⟩ = false := frozen_of_row w4 _ 1 _ _ HXX.out
    have x2 : w4.cell? ⟨w.heap.size, 2, none⟩ = some (.int .i64 0) := cell_of_row w4 _ 2 _ _ (0, 0) HXX.out
    have z2 : w4.frozen? ⟨w.heap.size, 2, none⟩ = false := frozen_of_row w4 _ 2 _ _ HXX.out
    have x3 : w4.cell? ⟨w.heap.size, 3, none⟩ = some (.slice none 0 0) := cell_of_row w4 _ 3 _ _ (0, 0) HXX.out
    have z3 : w4.frozen? ⟨w.heap.size, 3, none⟩ = false := frozen_of_row w4 _ 3 _ _ HXX.out
    have x4 : w4.cell? ⟨w.heap.size, 4, none⟩ = some (.slice none 0 0) := cell_of_row w4 _ 4 _ _ (0, 0) HXX.out
    have z4 : w4.frozen? ⟨w.heap.size, 4, none⟩ = false := frozen_of_row w4 _ 4 _ _ HXX.out
    have y0 : w4.cell? ⟨w3.heap.size, 0, none⟩ = some (.int .i64 4) := cell_of_row w4 _ 0 _ _ (0, 0) HYY.out
    have y1 : w4.cell? ⟨w3.heap.size, 1, none⟩ = some (.int .i64 f) := cell_of_row w4 _ 1 _ _ (0, 0) HYY.out
    have y2 : w4.cell? ⟨w3.heap.size, 2, none⟩ = some (.int .i64 0) := cell_of_row w4 _ 2 _ _ (0, 0) HYY.out
    have y3 : w4.cell? ⟨w3.heap.size, 3, none⟩ = some (.slice none 0 0) := cell_of_row w4 _ 3 _ _ (0, 0) HYY.out
    have y4 : w4.cell? ⟨w3.heap.size, 4, none⟩ = some (.slice none 0 0) := cell_of_row w4 _ 4 _ _ (0, 0) HYY.out
    have u4 : w4.frozen? ⟨w3.heap.size, 4, none⟩ = false := frozen_of_row w4 _ 4 _ _ HYY.out
    go_wp2
    refine bodyPost_ret_by (results_cell_row rfl _ _ w.heap.size 55 _ (0, 0) _ rfl (five_set ((heap_setCell_other _ _ _ _ (by simp; omega)).trans HXX.out)) Tryz.underlying55 rfl (by kernel_rfl)) rfl ?_
    have hO2 : OwnP (w4.setCell ⟨w3.heap.size, 4, none⟩ (.slice PA Pn Pc)) (w3.heap.size + 1) (.slice PA Pn Pc) ps := OwnP.blocks (by have := HO.out; simp at this; exact this) fun k hk => heap_setCell_other _ _ _ _ (by have := HO.out.lows k hk; simp at this; simp; omega)
    obtain ⟨h1, h2, h3⟩ := out_wish (t := ⟨4, f, 0, none, 0, 0, [], PA, Pn, Pc, ps⟩) (Y := w3.heap.size + 1) hgl (by omega) (wr := w4.setCell ⟨w3.heap.size, 4, none⟩ (.slice PA Pn Pc)) ⟨ownI_nil _ _, hO2, i64_small (n := 4) (by decide) (by decide), i64_small (n := f) (by omega) (by omega), i64_small (n := 0) (by decide) (by decide), by simp, hps⟩ (HC5.out.kept (heap_setCell_other _ _ _ _ (by simp; omega))) (grown_tail HG5.out ((Below.refl _ _).setCell (by show w.heap.size ≤ w3.heap.size; omega) _)) (.int .i64 4) (.int .i64 f) (.int .i64 0) (.slice none 0 0) (.slice PA Pn Pc)
    exact ⟨_, rfl, h1, by simp, h2, h3⟩
end Go.Proofs.YtaijajajpnekbaaGreat.num
namespace Go.Proofs.YtaijajajpnekbaaGreat.num
set_option maxRecDepth 20000
open Go.RowKit Go.Maps
set_option linter.unusedVariables false
set_option linter.unusedSimpArgs false

theorem step_appD {ops : Array Oper} {o : Oper} {a : Act} {K : Act → World → Prop} {Q : Exit → Act → World → Prop} {E : Prop} (w : World) (hgd : o.guard = none) (s x : Operand)
    (ho : o.op = .call { callee := .builtin .append, args := #[s, x], argTypes := #[52, 52] })
    (B : Nat) (v : Value) (l : List Int) (hs : a.eval s = v) (hown : OwnI w B v l) (cs : Array Value) (new : List Int) (hcs : cs = (new.map (Value.int .i64)).toArray) (n c : Nat) (hn : n = new.length)
    (hx : a.eval x = .slice (some ⟨w.heap.size, 0, none⟩) n c) (hlen : (l.length + new.length) * 8 ≤ 140737488355328) (hB : B ≤ w.heap.size)
    (h : ∀ v' w', OwnI w' B v' (l ++ new) → (w.alloc (.cells cs 3)).grownBy w' v.ownBlock → (v'.ownBlock = v.ownBlock ∨ v'.ownBlock = some (w.alloc (.cells cs 3)).heap.size) → K (a.put o.dst v') w') :
    if Region.wanted o (yielded ops a.tmps) = true then Oper.wp Tryz.prog o a (w.alloc (.cells cs 3)) K Q else E := by
  have hw : Region.wanted o (yielded ops a.tmps) = true := by simp [Region.wanted, hgd]
  rw [if_pos hw]
  obtain ⟨i0, hi, hz0, hz1, hz2⟩ := info_parts info_int
  subst hcs hn
  obtain ⟨v', w', hr, h2, h3, h4, h5⟩ := run_append_own_at (P := Tryz.prog) (w.alloc (.cells (new.map (Value.int .i64)).toArray 3)) B 52 o.type 3 i0 (.int .i64 0) 1 8 Tryz.underlying52 hi hz0 hz1 hz2 rfl (by decide) v l.length (l.map (Value.int .i64)) (World.ownsRow.alloc hown _) ⟨w.heap.size, 0, none⟩ new.length c (new.map (Value.int .i64)) (by simp) (fun j u hj => by
    have e : (⟨w.heap.size, 0, none⟩ : Addr).add j = ⟨w.heap.size, j, none⟩ := by unfold Addr.add; split <;> simp_all
    rw [e, World.cell?_alloc_at _ _ _ _ rfl]
    simpa using hj) (fun u hu => by obtain ⟨b, _, rfl⟩ := List.mem_map.1 hu; rfl) (by unfold maxLen; omega) (by omega) (by simp; omega)
  unfold Oper.wp execOp
  simp only [ho, resolve, invoke, builtin, Sem.run_bind, Sem.run_pure, Result.andThen_ok, List.map_toArray, List.map_cons, List.map_nil, hs, hx, hr]
  refine h v' w' ?_ h3 h5
  have e : (l ++ new).length = l.length + new.length := by simp
  unfold OwnI
  rw [e, List.map_append]
  exact h2

theorem nums2 (w : World) (x y : Int) (hx : I64 x) (hy : I64 y) : Nums (w.alloc (.cells #[.int .i64 x, .int .i64 y] 3)) w.heap.size 2 := fun k hk => by
  rcases (show k = 0 ∨ k = 1 by omega) with rfl | rfl
  · exact ⟨x, World.cell?_alloc_at _ _ _ _ rfl, hx⟩
  · exact ⟨y, World.cell?_alloc_at _ _ _ _ rfl, hy⟩
theorem nums3 (w : World) (x y z : Int) (hx : I64 x) (hy : I64 y) (hz : I64 z) : Nums (w.alloc (.cells #[.int .i64 x, .int .i64 y, .int .i64 z] 3)) w.heap.size 3 := fun k hk => by
  rcases (show k = 0 ∨ k = 1 ∨ k = 2 by omega) with rfl | rfl | rfl
  · exact ⟨x, World.cell?_alloc_at _ _ _ _ rfl, hx⟩
  · exact ⟨y, World.cell?_alloc_at _ _ _ _ rfl, hy⟩
  · exact ⟨z, World.cell?_alloc_at _ _ _ _ rfl, hz⟩
/-- Where any wish's draw stands: the result's block still zero, the wish in block Y. -/
structure AnySt (w : World) (g : Nat) (a : Option Addr) (len cap : Nat) (Y : Nat) (t : Wi) (wr : World) : Prop where
  x : wr.heap[w.heap.size]? = some (.cells #[.int .i64 0, .int .i64 0, .int .i64 0, .slice none 0 0, .slice none 0 0] 55 (0, 0))
  y : wr.heap[Y]? = some (.cells #[.int .i64 t.kind, .int .i64 t.field, .int .i64 t.value, .slice t.LA t.Ln t.Lc, .slice t.PA t.Pn t.Pc] 55 (0, 0))
  o : WiOwn wr (w.heap.size + 1) t
  far : (∀ k, (Value.slice t.LA t.Ln t.Lc).ownBlock = some k → k < Y) ∧ (∀ k, (Value.slice t.PA t.Pn t.Pc).ownBlock = some k → k < Y)
  c : Cur wr g a len cap
  g : w.grownBy wr (some g)
theorem AnySt.kept {w wr w' : World} {g : Nat} {a : Option Addr} {len cap Y : Nat} {t : Wi} (h : AnySt w g a len cap Y t wr) (hgl : g < w.heap.size) (hY : w.heap.size < Y) (hg : wr.grownBy w' (some g)) (hc : Cur w' g a len cap) : AnySt w g a len cap Y t w' :=
  ⟨row_kept hg h.x (by omega), row_kept hg h.y (by omega), h.o.blocks fun b hb hlt => hg.block b hlt (fun e => by injection e; omega), h.far, hc, h.g.trans hg⟩
theorem AnySt.alloc {w wr : World} {g : Nat} {a : Option Addr} {len cap Y : Nat} {t : Wi} (h : AnySt w g a len cap Y t wr) (ob : Obj) : AnySt w g a len cap Y t (wr.alloc ob) :=
  ⟨(Below.heap_alloc _ _ _ (lt_of_block h.x)).trans h.x, (Below.heap_alloc _ _ _ (lt_of_block h.y)).trans h.y, h.o.blocks fun b _ hb => Below.heap_alloc _ _ _ hb, h.far, h.c.kept (Below.heap_alloc _ _ _ h.c.lt), grown_alloc h.g ob⟩
/-- What is handed out at the end, from block Y, which may have been written. -/
theorem AnySt.out {w wr w' : World} {g : Nat} {a : Option Addr} {len cap Y : Nat} {t : Wi} (h : AnySt w g a len cap Y t wr) (hgl : g < w.heap.size) (hY : w.heap.size < Y) (hb : ∀ b, b ≠ Y → b ≠ w.heap.size → w'.heap[b]? = wr.heap[b]?) (hg : Below w.heap.size wr w') {k f v : Int} (hk : I64 k) (hf : I64 f) (hv : I64 v) :
    WiOwn w' w.heap.size ⟨k, f, v, t.LA, t.Ln, t.Lc, t.ls, t.PA, t.Pn, t.Pc, t.ps⟩ ∧ Cur w' g a len cap ∧ w.grownBy w' (some g) :=
  ⟨⟨ownI_lowD (ownI_blocks h.o.l fun b e => hb b (by have := h.far.1 b e; omega) (by have := ownI_lows h.o.l b e; omega)) (by omega), (h.o.p.blocks fun b e => hb b (by have := h.far.2 b e; omega) (by have := h.o.p.lows b e; omega)).lowD (by omega), hk, hf, hv, h.o.nl, h.o.np⟩, h.c.kept (hb g (by omega) (by omega)), grown_tail h.g hg⟩

theorem apart_of {w : World} {B B' : Nat} {v v' : Value} {l : List Int} {m : List (Int × Int)} (h : OwnI w B v l) (h' : OwnP w B' v' m) : ∀ k, v.ownBlock = some k → v'.ownBlock ≠ some k := fun k hk hk' => by
  rcases h.2 with ⟨rfl, _⟩ | ⟨g, _, _, rfl, _, hg, _⟩
  · cases hk
  · rcases h'.2 with ⟨rfl, _⟩ | ⟨g', _, _, rfl, _, hg', _⟩
    · cases hk'
    · obtain rfl : g = k := Option.some.inj hk
      obtain rfl : g' = g := Option.some.inj hk'
      rw [hg] at hg'
      injection hg' with e
      injection e with e1 e2 e3
      exact absurd e2 (by decide)
set_option maxRecDepth 20000 in
set_option maxHeartbeats 6400000 in
theorem any_wish (w : World) (g : Nat) (a : Option Addr) (len cap : Nat) (hlen : len ≤ 1048576) (hc : Cur w g a len cap) (B : Nat) (hB : B ≤ g) (hrow : Row w B a len) :
    Calls Tryz.prog 63 #[.pointer (some ⟨g, 0, none⟩)] w (OutWish 5 w g a len cap) := by
  have HR := Lib.hid hrow
  have hgl := hc.lt
  have HC1 := Lib.hid (hc.kept (w' := w.alloc (.cells #[.int .i64 0, .int .i64 0, .int .i64 0, .slice none 0 0, .slice none 0 0] 55)) (Below.heap_alloc _ _ _ hc.lt))
  have HG1 : Hid (w.grownBy (w.alloc (.cells #[.int .i64 0, .int .i64 0, .int .i64 0, .slice none 0 0, .slice none 0 0] 55)) (some g)) := Lib.hid (World.grownBy_alloc w _ _)
  have HX1 := Lib.hid (heap_alloc_new w (.cells #[.int .i64 0, .int .i64 0, .int .i64 0, .slice none 0 0, .slice none 0 0] 55))
  clear hc hrow
  go_enter Tryz.func63, Tryz.ntmps63
  go_wp2_with fail
  refine (wish_any _ g a len cap hlen HC1.out B hB (HR.out.below (grown_below HG1.out hB (by omega)))).mono ?_
  rintro e w2 ⟨t, rfl, ho, hn4, hc2, hg2⟩
  have hsz2 : w.heap.size + 1 ≤ w2.heap.size := by have := hg2.size; simp at this; omega
  have HS2 : Hid (AnySt w g a len cap w2.heap.size t (w2.alloc (.cells #[.int .i64 t.kind, .int .i64 t.field, .int .i64 t.value, .slice t.LA t.Ln t.Lc, .slice t.PA t.Pn t.Pc] 55))) := Lib.hid (by
    have ho' : WiOwn w2 (w.heap.size + 1) t := ho.low (by simp)
    exact ⟨(Below.heap_alloc _ _ _ (by omega)).trans (row_kept hg2 HX1.out (by omega)), heap_alloc_new w2 _, ho'.blocks fun b _ hb => Below.heap_alloc _ _ _ hb, ⟨fun k e => ownI_tops ho'.l k e, fun k e => ho'.p.tops k e⟩, hc2.kept (Below.heap_alloc _ _ _ hc2.lt), grown_alloc (HG1.out.trans hg2) _⟩)
  have hY : w.heap.size < w2.heap.size := by omega
  have HNl := Lib.hid ho.nl
  have HKf := Lib.hid (And.intro ho.k (And.intro ho.f ho.v))
  clear ho hc2 hg2 HC1 HG1 HX1
  unfold Wi.val
  go_wp2_with fail
  refine (below_any 10 (by omega) _ g a len cap hlen HS2.out.c B hB (HR.out.below (grown_below HS2.out.g hB (by omega)))).mono ?_
  rintro e w3 ⟨z, rfl, hz, hc3, hg3⟩
  obtain ⟨hz0, hz10⟩ := hz.2 (by omega)
  have HS := Lib.hid (HS2.out.kept hgl hY hg3 hc3)
  clear hz hc3 hg3 HS2
  have hY3 : w2.heap.size < w3.heap.size := lt_of_block HS.out.y
  by_cases z0 : z = 0
  · subst z0
    go_wp2_with fail
    refine (below_any 7 (by omega) _ g a len cap hlen HS.out.c B hB (HR.out.below (grown_below HS.out.g hB (by omega)))).mono ?_
    rintro e w4 ⟨u, rfl, hu, hc4, hg4⟩
    obtain ⟨hu0, hu7⟩ := hu.2 (by omega)
    have HS4 := Lib.hid (HS.out.kept hgl hY hg4 hc4)
    clear hu hc4 hg4 HS
    have x0 : w4.cell? ⟨w.heap.size, 0, none⟩ = some (.int .i64 0) := cell_of_row w4 _ 0 _ _ (0, 0) HS4.out.x
    have z0 : w4.frozen? ⟨w.heap.size, 0, none⟩ = false := frozen_of_row w4 _ 0 _ _ HS4.out.x
    have x1 : w4.cell? ⟨w.heap.size, 1, none⟩ = some (.int .i64 0) := cell_of_row w4 _ 1 _ _ (0, 0) HS4.out.x
    have z1 : w4.frozen? ⟨w.heap.size, 1, none⟩ = false := frozen_of_row w4 _ 1 _ _ HS4.out.x
    have x2 : w4.cell? ⟨w.heap.size, 2, none⟩ = some (.int .i64 0) := cell_of_row w4 _ 2 _ _ (0, 0) HS4.out.x
    have z2 : w4.frozen? ⟨w.heap.size, 2, none⟩ = false := frozen_of_row w4 _ 2 _ _ HS4.out.x
    have x3 : w4.cell? ⟨w.heap.size, 3, none⟩ = some (.slice none 0 0) := cell_of_row w4 _ 3 _ _ (0, 0) HS4.out.x
    have z3 : w4.frozen? ⟨w.heap.size, 3, none⟩ = false := frozen_of_row w4 _ 3 _ _ HS4.out.x
    have x4 : w4.cell? ⟨w.heap.size, 4, none⟩ = some (.slice none 0 0) := cell_of_row w4 _ 4 _ _ (0, 0) HS4.out.x
    have z4 : w4.frozen? ⟨w.heap.size, 4, none⟩ = false := frozen_of_row w4 _ 4 _ _ HS4.out.x
    have y0 : w4.cell? ⟨w2.heap.size, 0, none⟩ = some (.int .i64 t.kind) := cell_of_row w4 _ 0 _ _ (0, 0) HS4.out.y
    have y1 : w4.cell? ⟨w2.heap.size, 1, none⟩ = some (.int .i64 t.field) := cell_of_row w4 _ 1 _ _ (0, 0) HS4.out.y
    have y2 : w4.cell? ⟨w2.heap.size, 2, none⟩ = some (.int .i64 t.value) := cell_of_row w4 _ 2 _ _ (0, 0) HS4.out.y
    have y3 : w4.cell? ⟨w2.heap.size, 3, none⟩ = some (.slice t.LA t.Ln t.Lc) := cell_of_row w4 _ 3 _ _ (0, 0) HS4.out.y
    have y4 : w4.cell? ⟨w2.heap.size, 4, none⟩ = some (.slice t.PA t.Pn t.Pc) := cell_of_row w4 _ 4 _ _ (0, 0) HS4.out.y
    have u0 : w4.frozen? ⟨w2.heap.size, 0, none⟩ = false := frozen_of_row w4 _ 0 _ _ HS4.out.y
    go_wp2
    refine bodyPost_ret_by (results_cell_row rfl _ _ w.heap.size 55 _ (0, 0) _ rfl (five_set ((heap_setCell_other _ _ _ _ (by simp; omega)).trans HS4.out.x)) Tryz.underlying55 rfl (by kernel_rfl)) rfl ?_
    obtain ⟨h1, h2, h3⟩ := HS4.out.out hgl hY (w' := set5 (w4.setCell ⟨w2.heap.size, 0, none⟩ (.int .i64 (u - 1))) w.heap.size (.int .i64 (u - 1)) (.int .i64 t.field) (.int .i64 t.value) (.slice t.LA t.Ln t.Lc) (.slice t.PA t.Pn t.Pc)) (fun b h1 h2 => (set5_other _ _ _ _ _ _ _ _ h2).trans (heap_setCell_other _ _ _ _ (by simp; omega))) (((Below.refl _ _).setCell (by show w.heap.size ≤ w2.heap.size; omega) _).trans (set5_below _ _ _ _ _ _ _ _ (Nat.le_refl _))) (k := u - 1) (f := t.field) (v := t.value) ⟨by omega, by omega⟩ HKf.out.2.1 HKf.out.2.2
    exact ⟨_, rfl, h1, by show t.ls.length ≤ 5; omega, h2, h3⟩
  by_cases z1 : z = 1
  · subst z1
    clear z0
    have HA := Lib.hid (HS.out.alloc (.cells #[.int .i64 (-1), .int .i64 3] 3))
    go_wp2_with fail
    refine (pick_any w3.heap.size 2 (by decide) (by decide) _ g a len cap hlen HA.out.c B hB (HR.out.below (grown_below HA.out.g hB (by omega))) (nums2 w3 (-1) (3) ⟨by decide, by decide⟩ ⟨by decide, by decide⟩) (by omega)).mono ?_
    rintro e w4 ⟨u, rfl, hu, hc4, hg4⟩
    have HU := Lib.hid hu
    have HS4 := Lib.hid (HA.out.kept hgl hY hg4 hc4)
    clear hu hc4 hg4 HS HA
    have x0 : w4.cell? ⟨w.heap.size, 0, none⟩ = some (.int .i64 0) := cell_of_row w4 _ 0 _ _ (0, 0) HS4.out.x
    have z0 : w4.frozen? ⟨w.heap.size, 0, none⟩ = false := frozen_of_row w4 _ 0 _ _ HS4.out.x
    have x1 : w4.cell? ⟨w.heap.size, 1, none⟩ = some (.int .i64 0) := cell_of_row w4 _ 1 _ _ (0, 0) HS4.out.x
    have z1 : w4.frozen? ⟨w.heap.size, 1, none⟩ = false := frozen_of_row w4 _ 1 _ _ HS4.out.x
    have x2 : w4.cell? ⟨w.heap.size, 2, none⟩ = some (.int .i64 0) := cell_of_row w4 _ 2 _ _ (0, 0) HS4.out.x
    have z2 : w4.frozen? ⟨w.heap.size, 2, none⟩ = false := frozen_of_row w4 _ 2 _ _ HS4.out.x
    have x3 : w4.cell? ⟨w.heap.size, 3, none⟩ = some (.slice none 0 0) := cell_of_row w4 _ 3 _ _ (0, 0) HS4.out.x
    have z3 : w4.frozen? ⟨w.heap.size, 3, none⟩ = false := frozen_of_row w4 _ 3 _ _ HS4.out.x
    have x4 : w4.cell? ⟨w.heap.size, 4, none⟩ = some (.slice none 0 0) := cell_of_row w4 _ 4 _ _ (0, 0) HS4.out.x
    have z4 : w4.frozen? ⟨w.heap.size, 4, none⟩ = false := frozen_of_row w4 _ 4 _ _ HS4.out.x
    have y0 : w4.cell? ⟨w2.heap.size, 0, none⟩ = some (.int .i64 t.kind) := cell_of_row w4 _ 0 _ _ (0, 0) HS4.out.y
    have y1 : w4.cell? ⟨w2.heap.size, 1, none⟩ = some (.int .i64 t.field) := cell_of_row w4 _ 1 _ _ (0, 0) HS4.out.y
    have y2 : w4.cell? ⟨w2.heap.size, 2, none⟩ = some (.int .i64 t.value) := cell_of_row w4 _ 2 _ _ (0, 0) HS4.out.y
    have y3 : w4.cell? ⟨w2.heap.size, 3, none⟩ = some (.slice t.LA t.Ln t.Lc) := cell_of_row w4 _ 3 _ _ (0, 0) HS4.out.y
    have y4 : w4.cell? ⟨w2.heap.size, 4, none⟩ = some (.slice t.PA t.Pn t.Pc) := cell_of_row w4 _ 4 _ _ (0, 0) HS4.out.y
    have u1 : w4.frozen? ⟨w2.heap.size, 1, none⟩ = false := frozen_of_row w4 _ 1 _ _ HS4.out.y
    go_wp2
    refine bodyPost_ret_by (results_cell_row rfl _ _ w.heap.size 55 _ (0, 0) _ rfl (five_set ((heap_setCell_other _ _ _ _ (by simp; omega)).trans HS4.out.x)) Tryz.underlying55 rfl (by kernel_rfl)) rfl ?_
    obtain ⟨h1, h2, h3⟩ := HS4.out.out hgl hY (w' := set5 (w4.setCell ⟨w2.heap.size, 1, none⟩ (.int .i64 u)) w.heap.size (.int .i64 t.kind) (.int .i64 u) (.int .i64 t.value) (.slice t.LA t.Ln t.Lc) (.slice t.PA t.Pn t.Pc)) (fun b h1 h2 => (set5_other _ _ _ _ _ _ _ _ h2).trans (heap_setCell_other _ _ _ _ (by simp; omega))) (((Below.refl _ _).setCell (by show w.heap.size ≤ w2.heap.size; omega) _).trans (set5_below _ _ _ _ _ _ _ _ (Nat.le_refl _))) (k := t.kind) (f := u) (v := t.value) HKf.out.1 HU.out HKf.out.2.2
    exact ⟨_, rfl, h1, by show t.ls.length ≤ 5; omega, h2, h3⟩
  by_cases z2 : z = 2
  · subst z2
    clear z0 z1
    have HA := Lib.hid (HS.out.alloc (.cells #[.int .i64 (-1), .int .i64 9, .int .i64 10] 3))
    go_wp2_with fail
    refine (pick_any w3.heap.size 3 (by decide) (by decide) _ g a len cap hlen HA.out.c B hB (HR.out.below (grown_below HA.out.g hB (by omega))) (nums3 w3 (-1) (9) (10) ⟨by decide, by decide⟩ ⟨by decide, by decide⟩ ⟨by decide, by decide⟩) (by omega)).mono ?_
    rintro e w4 ⟨u, rfl, hu, hc4, hg4⟩
    have HU := Lib.hid hu
    have HS4 := Lib.hid (HA.out.kept hgl hY hg4 hc4)
    clear hu hc4 hg4 HS HA
    have x0 : w4.cell? ⟨w.heap.size, 0, none⟩ = some (.int .i64 0) := cell_of_row w4 _ 0 _ _ (0, 0) HS4.out.x
    have z0 : w4.frozen? ⟨w.heap.size, 0, none⟩ = false := frozen_of_row w4 _ 0 _ _ HS4.out.x
    have x1 : w4.cell? ⟨w.heap.size, 1, none⟩ = some (.int .i64 0) := cell_of_row w4 _ 1 _ _ (0, 0) HS4.out.x
    have z1 : w4.frozen? ⟨w.heap.size, 1, none⟩ = false := frozen_of_row w4 _ 1 _ _ HS4.out.x
    have x2 : w4.cell? ⟨w.heap.size, 2, none⟩ = some (.int .i64 0) := cell_of_row w4 _ 2 _ _ (0, 0) HS4.out.x
    have z2 : w4.frozen? ⟨w.heap.size, 2, none⟩ = false := frozen_of_row w4 _ 2 _ _ HS4.out.x
    have x3 : w4.cell? ⟨w.heap.size, 3, none⟩ = some (.slice none 0 0) := cell_of_row w4 _ 3 _ _ (0, 0) HS4.out.x
    have z3 : w4.frozen? ⟨w.heap.size, 3, none⟩ = false := frozen_of_row w4 _ 3 _ _ HS4.out.x
    have x4 : w4.cell? ⟨w.heap.size, 4, none⟩ = some (.slice none 0 0) := cell_of_row w4 _ 4 _ _ (0, 0) HS4.out.x
    have z4 : w4.frozen? ⟨w.heap.size, 4, none⟩ = false := frozen_of_row w4 _ 4 _ _ HS4.out.x
    have y0 : w4.cell? ⟨w2.heap.size, 0, none⟩ = some (.int .i64 t.kind) := cell_of_row w4 _ 0 _ _ (0, 0) HS4.out.y
    have y1 : w4.cell? ⟨w2.heap.size, 1, none⟩ = some (.int .i64 t.field) := cell_of_row w4 _ 1 _ _ (0, 0) HS4.out.y
    have y2 : w4.cell? ⟨w2.heap.size, 2, none⟩ = some (.int .i64 t.value) := cell_of_row w4 _ 2 _ _ (0, 0) HS4.out.y
    have y3 : w4.cell? ⟨w2.heap.size, 3, none⟩ = some (.slice t.LA t.Ln t.Lc) := cell_of_row w4 _ 3 _ _ (0, 0) HS4.out.y
    have y4 : w4.cell? ⟨w2.heap.size, 4, none⟩ = some (.slice t.PA t.Pn t.Pc) := cell_of_row w4 _ 4 _ _ (0, 0) HS4.out.y
    have u2 : w4.frozen? ⟨w2.heap.size, 2, none⟩ = false := frozen_of_row w4 _ 2 _ _ HS4.out.y
    go_wp2
    refine bodyPost_ret_by (results_cell_row rfl _ _ w.heap.size 55 _ (0, 0) _ rfl (five_set ((heap_setCell_other _ _ _ _ (by simp; omega)).trans HS4.out.x)) Tryz.underlying55 rfl (by kernel_rfl)) rfl ?_
    obtain ⟨h1, h2, h3⟩ := HS4.out.out hgl hY (w' := set5 (w4.setCell ⟨w2.heap.size, 2, none⟩ (.int .i64 u)) w.heap.size (.int .i64 t.kind) (.int .i64 t.field) (.int .i64 u) (.slice t.LA t.Ln t.Lc) (.slice t.PA t.Pn t.Pc)) (fun b h1 h2 => (set5_other _ _ _ _ _ _ _ _ h2).trans (heap_setCell_other _ _ _ _ (by simp; omega))) (((Below.refl _ _).setCell (by show w.heap.size ≤ w2.heap.size; omega) _).trans (set5_below _ _ _ _ _ _ _ _ (Nat.le_refl _))) (k := t.kind) (f := t.field) (v := u) HKf.out.1 HKf.out.2.1 HU.out
    exact ⟨_, rfl, h1, by show t.ls.length ≤ 5; omega, h2, h3⟩
  by_cases z3 : z = 3
  · subst z3
    clear z0 z1 z2
    have hln := HS.out.o.nl
    have HAd : Hid (AnySt w g a len cap w2.heap.size t (w3.alloc (.cells #[.int .i64 0, .int .i64 9, .int .i64 10] 3)).drew) := Lib.hid (by
      have h := HS.out.alloc (.cells #[.int .i64 0, .int .i64 9, .int .i64 10] 3)
      exact ⟨h.x, h.y, h.o.blocks fun b _ _ => rfl, h.far, h.c, grown_drew h.g⟩)
    have H4 : ∀ u : Int, (t.ls.length + [u].length) * 8 ≤ 140737488355328 := fun u => by simp only [List.length_cons, List.length_nil]; omega
    have H4' := Lib.hid H4
    clear H4
    have y0 : w3.cell? ⟨w2.heap.size, 0, none⟩ = some (.int .i64 t.kind) := cell_of_row w3 _ 0 _ _ (0, 0) HS.out.y
    have y1 : w3.cell? ⟨w2.heap.size, 1, none⟩ = some (.int .i64 t.field) := cell_of_row w3 _ 1 _ _ (0, 0) HS.out.y
    have y2 : w3.cell? ⟨w2.heap.size, 2, none⟩ = some (.int .i64 t.value) := cell_of_row w3 _ 2 _ _ (0, 0) HS.out.y
    have y3 : w3.cell? ⟨w2.heap.size, 3, none⟩ = some (.slice t.LA t.Ln t.Lc) := cell_of_row w3 _ 3 _ _ (0, 0) HS.out.y
    have y4 : w3.cell? ⟨w2.heap.size, 4, none⟩ = some (.slice t.PA t.Pn t.Pc) := cell_of_row w3 _ 4 _ _ (0, 0) HS.out.y
    go_wp2
    go_region_law (first
      | (refine step_appD wn (by rfl) (.tmp 29) (.tmp 33) (by rfl) (w.heap.size + 1) _ t.ls (by rfl) HSn.out.o.l _ [u] (by rfl) 1 1 rfl (by rfl) (H4'.out u) hBn ?_; intro v' w5 hown5 hg5 hv5; obtain ⟨LA', Ln', Lc', rfl, _⟩ := hown5.ints; have HO5 := Lib.hid hown5; have HV5 := Lib.hid hv5; have HB5 : Hid (Below (w.heap.size + 1) wn w5) := Lib.hid (((Below.refl (w.heap.size + 1) wn).alloc hBn _).grown hg5 (by simp; omega) (fun k hk => ownI_lows HSn.out.o.l k hk)); have HXX : Hid (w5.heap[w.heap.size]? = some (.cells #[.int .i64 0, .int .i64 0, .int .i64 0, .slice none 0 0, .slice none 0 0] 55 (0, 0))) := Lib.hid (row_below HB5.out HSn.out.x (by omega)); have HYY : Hid (w5.heap[w2.heap.size]? = some (.cells #[.int .i64 t.kind, .int .i64 t.field, .int .i64 t.value, .slice t.LA t.Ln t.Lc, .slice t.PA t.Pn t.Pc] 55 (0, 0))) := Lib.hid ((hg5.block _ (by have := lt_of_block HSn.out.y; simp; omega) (fun e => by have := HSn.out.far.1 _ e.symm; omega)).trans ((Below.heap_alloc _ _ _ (lt_of_block HSn.out.y)).trans HSn.out.y)); have HPP : Hid (OwnP w5 (w.heap.size + 1) (.slice t.PA t.Pn t.Pc) t.ps) := Lib.hid (HSn.out.o.p.blocks fun k hk => (hg5.block k (by have := HSn.out.o.p.tops k hk; simp; omega) (fun e => apart_of HSn.out.o.l HSn.out.o.p k e.symm hk)).trans (Below.heap_alloc _ _ _ (HSn.out.o.p.tops k hk))); have y3 : w5.cell? ⟨w2.heap.size, 3, none⟩ = some (.slice t.LA t.Ln t.Lc) := cell_of_row w5 _ 3 _ _ (0, 0) HYY.out; have u3 : w5.frozen? ⟨w2.heap.size, 3, none⟩ = false := frozen_of_row w5 _ 3 _ _ HYY.out; clear hown5 hg5 hv5)
      | (go_simp; go_at_call 67; refine (pick_any w3.heap.size 3 (by decide) (by decide) _ g a len cap hlen HAd.out.c B hB (HR.out.below (grown_below HAd.out.g hB (by omega))) (nums3 w3 0 9 10 ⟨by decide, by decide⟩ ⟨by decide, by decide⟩ ⟨by decide, by decide⟩) (by omega)).mono ?_; rintro e wn ⟨u, rfl, hu, hcn, hgn⟩; have HSn := Lib.hid (HAd.out.kept hgl hY hgn hcn); have hBn : w.heap.size + 1 ≤ wn.heap.size := (by have := lt_of_block HSn.out.y; omega); have y3 : wn.cell? ⟨w2.heap.size, 3, none⟩ = some (.slice t.LA t.Ln t.Lc) := cell_of_row wn _ 3 _ _ (0, 0) HSn.out.y; have hYn : w2.heap.size < wn.heap.size := lt_of_block HSn.out.y; clear hu hcn hgn))
    all_goals
      have x0 : w5.cell? ⟨w.heap.size, 0, none⟩ = some (.int .i64 0) := cell_of_row w5 _ 0 _ _ (0, 0) HXX.out
      have z0 : w5.frozen? ⟨w.heap.size, 0, none⟩ = false := frozen_of_row w5 _ 0 _ _ HXX.out
      have x1 : w5.cell? ⟨w.heap.size, 1, none⟩ = some (.int .i64 0) := cell_of_row w5 _ 1 _ _ (0, 0) HXX.out
      have z1 : w5.frozen? ⟨w.heap.size, 1, none⟩ = false := frozen_of_row w5 _ 1 _ _ HXX.out
      have x2 : w5.cell? ⟨w.heap.size, 2, none⟩ = some (.int .i64 0) := cell_of_row w5 _ 2 _ _ (0, 0) HXX.out
      have z2 : w5.frozen? ⟨w.heap.size, 2, none⟩ = false := frozen_of_row w5 _ 2 _ _ HXX.out
      have x3 : w5.cell? ⟨w.heap.size, 3, none⟩ = some (.slice none 0 0) := cell_of_row w5 _ 3 _ _ (0, 0) HXX.out
      have z3 : w5.frozen? ⟨w.heap.size, 3, none⟩ = false := frozen_of_row w5 _ 3 _ _ HXX.out
      have x4 : w5.cell? ⟨w.heap.size, 4, none⟩ = some (.slice none 0 0) := cell_of_row w5 _ 4 _ _ (0, 0) HXX.out
      have z4 : w5.frozen? ⟨w.heap.size, 4, none⟩ = false := frozen_of_row w5 _ 4 _ _ HXX.out
      have y0 : w5.cell? ⟨w2.heap.size, 0, none⟩ = some (.int .i64 t.kind) := cell_of_row w5 _ 0 _ _ (0, 0) HYY.out
      have y1 : w5.cell? ⟨w2.heap.size, 1, none⟩ = some (.int .i64 t.field) := cell_of_row w5 _ 1 _ _ (0, 0) HYY.out
      have y2 : w5.cell? ⟨w2.heap.size, 2, none⟩ = some (.int .i64 t.value) := cell_of_row w5 _ 2 _ _ (0, 0) HYY.out
      have y3 : w5.cell? ⟨w2.heap.size, 3, none⟩ = some (.slice t.LA t.Ln t.Lc) := cell_of_row w5 _ 3 _ _ (0, 0) HYY.out
      have y4 : w5.cell? ⟨w2.heap.size, 4, none⟩ = some (.slice t.PA t.Pn t.Pc) := cell_of_row w5 _ 4 _ _ (0, 0) HYY.out
      go_wp2
      refine bodyPost_ret_by (results_cell_row rfl _ _ w.heap.size 55 _ (0, 0) _ rfl (five_set ((heap_setCell_other _ _ _ _ (by simp; omega)).trans HXX.out)) Tryz.underlying55 rfl (by kernel_rfl)) rfl ?_
      have hfar : ∀ k, (Value.slice LA' Ln' Lc').ownBlock = some k → k ≠ w2.heap.size ∧ k ≠ w.heap.size := fun k hk => by
        have h1 := ownI_lows HO5.out k hk
        refine ⟨fun e => ?_, by omega⟩
        rcases HV5.out with h | h
        · rw [h] at hk
          have := HSn.out.far.1 k hk
          omega
        · rw [h] at hk
          have h2 := Option.some.inj hk
          have h3 := lt_of_block HSn.out.y
          simp only [World.size_alloc] at h2
          omega
      refine ⟨⟨t.kind, t.field, t.value, LA', Ln', Lc', t.ls ++ [u], t.PA, t.Pn, t.Pc, t.ps⟩, rfl, ⟨ownI_lowD (ownI_blocks HO5.out fun k hk => ?_) (by omega), (HPP.out.blocks fun k hk => ?_).lowD (by omega), HKf.out.1, HKf.out.2.1, HKf.out.2.2, by simp; omega, HSn.out.o.np⟩, by simp; omega, (HSn.out.c.kept ?_), grown_tail HSn.out.g ?_⟩
      · exact (set5_other _ _ _ _ _ _ _ _ (hfar k hk).2).trans (heap_setCell_other _ _ _ _ (hfar k hk).1)
      · exact (set5_other _ _ _ _ _ _ _ _ (by have := HPP.out.lows k hk; omega)).trans (heap_setCell_other _ _ _ _ (by have := HSn.out.far.2 k hk; simp; omega))
      · exact (set5_other _ _ _ _ _ _ _ _ (by omega)).trans ((heap_setCell_other _ _ _ _ (by simp; omega)).trans (HB5.out.block g (by omega)))
      · exact ((HB5.out.mono (by omega)).setCell (by show w.heap.size ≤ w2.heap.size; omega) _).trans (set5_below _ _ _ _ _ _ _ _ (Nat.le_refl _))
  have f0 : (z == 0) = false := by simpa using z0
  have f1 : (z == 1) = false := by simpa using z1
  have f2 : (z == 2) = false := by simpa using z2
  have f3 : (z == 3) = false := by simpa using z3
  clear z0 z1 z2 z3
  have x0 : w3.cell? ⟨w.heap.size, 0, none⟩ = some (.int .i64 0) := cell_of_row w3 _ 0 _ _ (0, 0) HS.out.x
  have z0 : w3.frozen? ⟨w.heap.size, 0, none⟩ = false := frozen_of_row w3 _ 0 _ _ HS.out.x
  have x1 : w3.cell? ⟨w.heap.size, 1, none⟩ = some (.int .i64 0) := cell_of_row w3 _ 1 _ _ (0, 0) HS.out.x
  have z1 : w3.frozen? ⟨w.heap.size, 1, none⟩ = false := frozen_of_row w3 _ 1 _ _ HS.out.x
  have x2 : w3.cell? ⟨w.heap.size, 2, none⟩ = some (.int .i64 0) := cell_of_row w3 _ 2 _ _ (0, 0) HS.out.x
  have z2 : w3.frozen? ⟨w.heap.size, 2, none⟩ = false := frozen_of_row w3 _ 2 _ _ HS.out.x
  have x3 : w3.cell? ⟨w.heap.size, 3, none⟩ = some (.slice none 0 0) := cell_of_row w3 _ 3 _ _ (0, 0) HS.out.x
  have z3 : w3.frozen? ⟨w.heap.size, 3, none⟩ = false := frozen_of_row w3 _ 3 _ _ HS.out.x
  have x4 : w3.cell? ⟨w.heap.size, 4, none⟩ = some (.slice none 0 0) := cell_of_row w3 _ 4 _ _ (0, 0) HS.out.x
  have z4 : w3.frozen? ⟨w.heap.size, 4, none⟩ = false := frozen_of_row w3 _ 4 _ _ HS.out.x
  have y0 : w3.cell? ⟨w2.heap.size, 0, none⟩ = some (.int .i64 t.kind) := cell_of_row w3 _ 0 _ _ (0, 0) HS.out.y
  have y1 : w3.cell? ⟨w2.heap.size, 1, none⟩ = some (.int .i64 t.field) := cell_of_row w3 _ 1 _ _ (0, 0) HS.out.y
  have y2 : w3.cell? ⟨w2.heap.size, 2, none⟩ = some (.int .i64 t.value) := cell_of_row w3 _ 2 _ _ (0, 0) HS.out.y
  have y3 : w3.cell? ⟨w2.heap.size, 3, none⟩ = some (.slice t.LA t.Ln t.Lc) := cell_of_row w3 _ 3 _ _ (0, 0) HS.out.y
  have y4 : w3.cell? ⟨w2.heap.size, 4, none⟩ = some (.slice t.PA t.Pn t.Pc) := cell_of_row w3 _ 4 _ _ (0, 0) HS.out.y
  go_wp2
  refine bodyPost_ret_by (results_cell_row rfl _ _ w.heap.size 55 _ (0, 0) _ rfl (five_set HS.out.x) Tryz.underlying55 rfl (by kernel_rfl)) rfl ?_
  obtain ⟨h1, h2, h3⟩ := HS.out.out hgl hY (w' := set5 w3 w.heap.size (.int .i64 t.kind) (.int .i64 t.field) (.int .i64 t.value) (.slice t.LA t.Ln t.Lc) (.slice t.PA t.Pn t.Pc)) (fun b _ h2 => set5_other _ _ _ _ _ _ _ _ h2) (set5_below _ _ _ _ _ _ _ _ (Nat.le_refl _)) (k := t.kind) (f := t.field) (v := t.value) HKf.out.1 HKf.out.2.1 HKf.out.2.2
  exact ⟨_, rfl, h1, by show t.ls.length ≤ 5; omega, h2, h3⟩
end Go.Proofs.YtaijajajpnekbaaGreat.num
namespace Go.Proofs.YtaijajajpnekbaaGreat.num
set_option maxRecDepth 20000
open Go.RowKit Go.Maps
set_option linter.unusedVariables false
set_option linter.unusedSimpArgs false

/-- Two cells stored at block X. -/
def set2 (w : World) (X : Nat) (v0 v1 : Value) : World := (w.setCell ⟨X, 0, none⟩ v0).setCell ⟨X, 1, none⟩ v1
theorem set2_other (w : World) (X b : Nat) (v0 v1 : Value) (h : b ≠ X) : (set2 w X v0 v1).heap[b]? = w.heap[b]? := by
  unfold set2
  rw [heap_setCell_other _ _ _ _ h, heap_setCell_other _ _ _ _ h]
theorem set2_below (w : World) (X B : Nat) (v0 v1 : Value) (h : B ≤ X) : Below B w (set2 w X v0 v1) := by
  unfold set2
  exact ((Below.refl B w).setCell h _).setCell h _
theorem two_setD {w : World} {g : Nat} {t : TypeId} {u0 u1 v0 v1 : Value} (h : w.heap[g]? = some (.cells #[u0, u1] t (0, 0))) : ((w.setCell ⟨g, 0, none⟩ v0).setCell ⟨g, 1, none⟩ v1).heap[g]? = some (.cells #[v0, v1] t (0, 0)) := by
  have h := heap_setCell_same _ g 1 _ _ v1 (heap_setCell_same w g 0 _ _ v0 h)
  simpa using h
def OutItem (N : Nat) (w : World) (g : Nat) (a : Option Addr) (len cap : Nat) (e : Ending) (w' : World) : Prop :=
  ∃ t : It, e = .returned t.val ∧ OwnI w' w.heap.size (.slice t.A t.n t.c) t.xs ∧ 3 ≤ t.xs.length ∧ t.xs.length ≤ N ∧ Cur w' g a len cap ∧ w.grownBy w' (some g)

set_option maxRecDepth 20000 in
set_option maxHeartbeats 3200000 in
theorem item_any (id : Int) (wide : Int) (hw0 : 0 < wide) (hw1 : wide ≤ 1000) (w : World) (g : Nat) (a : Option Addr) (len cap : Nat) (hlen : len ≤ 1048576) (hc : Cur w g a len cap) (B : Nat) (hB : B ≤ g) (hrow : Row w B a len) :
    Calls Tryz.prog 68 #[.pointer (some ⟨g, 0, none⟩), .int .i64 id, .int .i64 wide] w (OutItem 3 w g a len cap) := by
  have HR := Lib.hid hrow
  have hgl := hc.lt
  have HC1 := Lib.hid ((hc.kept (w' := w.alloc (.cells #[.int .i64 0, .slice none 0 0] 62)) (Below.heap_alloc _ _ _ hc.lt)).kept (w' := (w.alloc (.cells #[.int .i64 0, .slice none 0 0] 62)).alloc (.cells #[.int .i64 id, .slice none 0 0] 62)) (Below.heap_alloc _ _ _ (by simp; have := hc.lt; omega)))
  have HG1 : Hid (w.grownBy ((w.alloc (.cells #[.int .i64 0, .slice none 0 0] 62)).alloc (.cells #[.int .i64 id, .slice none 0 0] 62)) (some g)) := Lib.hid (grown_alloc (World.grownBy_alloc w _ _) _)
  have HY1 := Lib.hid (heap_alloc2_new w (.cells #[.int .i64 0, .slice none 0 0] 62) (.cells #[.int .i64 id, .slice none 0 0] 62))
  have HX0 : Hid (((w.alloc (.cells #[.int .i64 0, .slice none 0 0] 62)).alloc (.cells #[.int .i64 id, .slice none 0 0] 62)).heap[w.heap.size]? = some (.cells #[.int .i64 0, .slice none 0 0] 62 (0, 0))) := Lib.hid ((Below.heap_alloc _ _ _ (by simp)).trans (heap_alloc_new w _))
  clear hc hrow
  go_enter Tryz.func68, Tryz.ntmps68
  go_wp2
  go_loopw [8, 9] (fun iv _ wr => ∃ (j : Nat) (A : Option Addr) (n c : Nat) (xs : List Int), j ≤ 3 ∧ iv = .int .i64 j ∧ xs.length = j ∧ wr.heap[w.heap.size + 1]? = some (.cells #[.int .i64 id, .slice A n c] 62 (0, 0)) ∧ OwnI wr (w.heap.size + 2) (.slice A n c) xs ∧ wr.heap[w.heap.size]? = some (.cells #[.int .i64 0, .slice none 0 0] 62 (0, 0)) ∧ Cur wr g a len cap ∧ w.grownBy wr (some g) ∧ w.heap.size + 2 ≤ wr.heap.size) (fun iv _ _ => 3 - (intOf iv).toNat)
  case atStart => exact ⟨0, none, 0, 0, [], by decide, rfl, rfl, HY1.out, ownI_nil _ _, HX0.out, HC1.out, HG1.out, by simp⟩
  case round =>
    clear HX0 HY1 HC1 HG1
    obtain ⟨j, A, n, c, xs, hj, rfl, hxs, hy, hown, hxx, hcur, hgw, hsz⟩ := hrel
    have HYY := Lib.hid hy
    have HXX := Lib.hid hxx
    have HO := Lib.hid hown
    have HCu := Lib.hid hcur
    have HG := Lib.hid hgw
    clear hy hown hxx hcur hgw
    by_cases hj3 : j = 3
    · have hd : decide ((j : Int) < 3) = false := by simp; omega
      have x0 : wr.cell? ⟨w.heap.size, 0, none⟩ = some (.int .i64 0) := cell_of_row wr _ 0 _ _ (0, 0) HXX.out
      have z0 : wr.frozen? ⟨w.heap.size, 0, none⟩ = false := frozen_of_row wr _ 0 _ _ HXX.out
      have x1 : wr.cell? ⟨w.heap.size, 1, none⟩ = some (.slice none 0 0) := cell_of_row wr _ 1 _ _ (0, 0) HXX.out
      have z1 : wr.frozen? ⟨w.heap.size, 1, none⟩ = false := frozen_of_row wr _ 1 _ _ HXX.out
      have y0 : wr.cell? ⟨w.heap.size + 1, 0, none⟩ = some (.int .i64 id) := cell_of_row wr _ 0 _ _ (0, 0) HYY.out
      have y1 : wr.cell? ⟨w.heap.size + 1, 1, none⟩ = some (.slice A n c) := cell_of_row wr _ 1 _ _ (0, 0) HYY.out
      go_wp2
      refine bodyPost_ret_by (results_cell_row rfl _ _ w.heap.size 62 _ (0, 0) _ rfl (two_setD HXX.out) Tryz.underlying62 rfl (by kernel_rfl)) rfl ?_
      refine ⟨⟨id, A, n, c, xs⟩, rfl, ownI_lowD (ownI_blocks HO.out fun k hk => ?_) (by omega), by show 3 ≤ xs.length; omega, by show xs.length ≤ 3; omega, HCu.out.kept ?_, grown_tail HG.out (set2_below wr w.heap.size w.heap.size (.int .i64 id) (.slice A n c) (Nat.le_refl _))⟩
      · exact set2_other wr w.heap.size k _ _ (by have := ownI_lows HO.out k hk; omega)
      · exact set2_other wr w.heap.size g _ _ (by omega)
    · have hd : decide ((j : Int) < 3) = true := by simp; omega
      go_wp2_with fail
      refine (below_any wide (by omega) _ g a len cap hlen HCu.out B hB (HR.out.below (grown_below HG.out hB (by omega)))).mono ?_
      rintro e w4 ⟨x, rfl, hx, hc4, hg4⟩
      have HC4 := Lib.hid hc4
      have HG4 := Lib.hid (HG.out.trans hg4)
      have HX4 := Lib.hid (row_kept hg4 HXX.out (by omega))
      have HY4 := Lib.hid (row_kept hg4 HYY.out (by omega))
      have HO4 := Lib.hid (ownI_keptg HO.out hg4 (by omega))
      have hs4 : w.heap.size + 2 ≤ w4.heap.size := Nat.le_trans hsz hg4.size
      have H4 : Hid ((xs.length + [x].length) * 8 ≤ 140737488355328) := Lib.hid (by simp only [List.length_cons, List.length_nil]; omega)
      have y1 : w4.cell? ⟨w.heap.size + 1, 1, none⟩ = some (.slice A n c) := cell_of_row w4 _ 1 _ _ (0, 0) HY4.out
      clear hx hc4 hg4 HCu HG HXX HYY HO
      go_wp2_with (at_builtin; refine wp_appI _ (by rfl) (.tmp 20) (.tmp 22) (by rfl) (w.heap.size + 2) _ _ (by rfl) HO4.out _ [x] (by rfl) 1 1 rfl (by rfl) H4.out hs4 ?_)
      intro v1 w6 hown6 hb6
      obtain ⟨A', n', c', rfl, _⟩ := hown6.ints
      have HO6 := Lib.hid hown6
      have HY6 := Lib.hid (row_below hb6 HY4.out (by omega))
      have HX6 := Lib.hid (row_below hb6 HX4.out (by omega))
      have HC6 := Lib.hid (HC4.out.kept (hb6.block g (by omega)))
      have HG6 := Lib.hid (grown_tail HG4.out (hb6.mono (by omega)))
      have hs6 := Lib.hid (Nat.le_trans hs4 hb6.size)
      have y1 : w6.cell? ⟨w.heap.size + 1, 1, none⟩ = some (.slice A n c) := cell_of_row w6 _ 1 _ _ (0, 0) HY6.out
      have u1 : w6.frozen? ⟨w.heap.size + 1, 1, none⟩ = false := frozen_of_row w6 _ 1 _ _ HY6.out
      clear hown6 hb6 HO4 HY4 HX4 HC4 HG4 H4
      go_wp2
      go_roundw
      case rel =>
        refine ⟨j + 1, A', n', c', xs ++ [x], by omega, by first | rfl | (congr 1; omega), by simp; omega, ?_, ownI_blocks HO6.out fun k hk => heap_setCell_other _ _ _ _ (by have := ownI_lows HO6.out k hk; simp; omega), (heap_setCell_other _ _ _ _ (by simp)).trans HX6.out, HC6.out.kept (heap_setCell_other _ _ _ _ (by simp; omega)), grown_tail HG6.out ((Below.refl _ _).setCell (by show w.heap.size ≤ w.heap.size + 1; omega) _), by have := hs6.out; simp; omega⟩
        have h := heap_setCell_same w6 (w.heap.size + 1) 1 _ _ (.slice A' n' c') HY6.out
        simpa using h
      case measure => simp [intOf]; omega

/-- Where any item's draw stands: the result's block still zero, the item in block Y. -/
structure ItSt (w : World) (g : Nat) (a : Option Addr) (len cap : Nat) (Y : Nat) (t : It) (wr : World) : Prop where
  x : wr.heap[w.heap.size]? = some (.cells #[.int .i64 0, .slice none 0 0] 62 (0, 0))
  y : wr.heap[Y]? = some (.cells #[.int .i64 t.id, .slice t.A t.n t.c] 62 (0, 0))
  o : OwnI wr (w.heap.size + 1) (.slice t.A t.n t.c) t.xs
  far : ∀ k, (Value.slice t.A t.n t.c).ownBlock = some k → k < Y
  c : Cur wr g a len cap
  g : w.grownBy wr (some g)
theorem ItSt.kept {w wr w' : World} {g : Nat} {a : Option Addr} {len cap Y : Nat} {t : It} (h : ItSt w g a len cap Y t wr) (hgl : g < w.heap.size) (hY : w.heap.size < Y) (hg : wr.grownBy w' (some g)) (hc : Cur w' g a len cap) : ItSt w g a len cap Y t w' :=
  ⟨row_kept hg h.x (by omega), row_kept hg h.y (by omega), ownI_keptg h.o hg (by omega), h.far, hc, h.g.trans hg⟩
theorem ItSt.alloc {w wr : World} {g : Nat} {a : Option Addr} {len cap Y : Nat} {t : It} (h : ItSt w g a len cap Y t wr) (ob : Obj) : ItSt w g a len cap Y t (wr.alloc ob) :=
  ⟨(Below.heap_alloc _ _ _ (lt_of_block h.x)).trans h.x, (Below.heap_alloc _ _ _ (lt_of_block h.y)).trans h.y, ownI_blocks h.o fun k hk => Below.heap_alloc _ _ _ (ownI_tops h.o k hk), h.far, h.c.kept (Below.heap_alloc _ _ _ h.c.lt), grown_alloc h.g ob⟩
theorem ItSt.drew {w wr : World} {g : Nat} {a : Option Addr} {len cap Y : Nat} {t : It} (h : ItSt w g a len cap Y t wr) : ItSt w g a len cap Y t wr.drew :=
  ⟨h.x, h.y, ownI_blocks h.o fun _ _ => rfl, h.far, h.c, grown_drew h.g⟩
theorem own_set0 {w : World} {B : Nat} {b n c : Nat} {xs : List Int} (h : OwnI w B (.slice (some ⟨b, 0, none⟩) n c) xs) (z : Int) : OwnI (w.setCell ⟨b, 0, none⟩ (.int .i64 z)) B (.slice (some ⟨b, 0, none⟩) n c) (xs.set 0 z) := by
  rcases h.2 with ⟨hv, _⟩ | ⟨g, cp, cur, hv, hgB, hg, h1, h2, h3, h4⟩
  · cases hv
  · injection hv with e1 e2 e3
    injection e1 with e1
    injection e1 with e1
    subst e1
    refine ⟨by simp, .inr ⟨b, c, cur.setIfInBounds 0 (.int .i64 z), by rw [List.length_set, e2], hgB, heap_setCell_same w b 0 _ _ _ hg, by rw [List.length_set]; omega, by omega, by simpa [e3] using h3, ?_⟩⟩
    rw [List.length_set, Array.toList_setIfInBounds, List.take_set, h4, List.map_set]
theorem own_row0 {w : World} {B : Nat} {b n c : Nat} {xs : List Int} (h : OwnI w B (.slice (some ⟨b, 0, none⟩) n c) xs) : ∃ cur, w.heap[b]? = some (.cells cur 3 (0, 0)) ∧ (0 < n → w.cell? ⟨b, 0, none⟩ = some (.int .i64 (xs.getD 0 0))) := by
  have hi := ownI_at h
  rcases h.2 with ⟨hv, _⟩ | ⟨g, cp, cur, hv, hgB, hg, _⟩
  · cases hv
  · injection hv with e1
    injection e1 with e1
    injection e1 with e1
    subst e1
    refine ⟨cur, hg, fun h0 => ?_⟩
    obtain ⟨b', off, e, _, h1⟩ := hi.2 0 h0
    injection e with e
    injection e with e2 e3
    subst e2 e3
    exact h1
theorem wp_appD {ops : Array Oper} {rest : List Oper} {o : Oper} {a : Act} {Q : Exit → Act → World → Prop} (w : World) (hgd : o.guard = none) (s x : Operand)
    (ho : o.op = .call { callee := .builtin .append, args := #[s, x], argTypes := #[52, 52] })
    (B : Nat) (v : Value) (l : List Int) (hs : a.eval s = v) (hown : OwnI w B v l) (cs : Array Value) (new : List Int) (hcs : cs = (new.map (Value.int .i64)).toArray) (n c : Nat) (hn : n = new.length)
    (hx : a.eval x = .slice (some ⟨w.heap.size, 0, none⟩) n c) (hlen : (l.length + new.length) * 8 ≤ 140737488355328) (hB : B ≤ w.heap.size)
    (h : ∀ v' w', OwnI w' B v' (l ++ new) → (w.alloc (.cells cs 3)).grownBy w' v.ownBlock → (v'.ownBlock = v.ownBlock ∨ v'.ownBlock = some (w.alloc (.cells cs 3)).heap.size) → wpList Tryz.prog ops Q rest (a.put o.dst v') w') :
    wpList Tryz.prog ops Q (o :: rest) a (w.alloc (.cells cs 3)) := by
  obtain ⟨i0, hi, hz0, hz1, hz2⟩ := info_parts info_int
  subst hcs hn
  refine wpList_append_own_at _ hgd s x 52 ho B 3 i0 (.int .i64 0) 1 8 Tryz.underlying52 hi hz0 hz1 hz2 rfl (by decide) v l.length (l.map (Value.int .i64)) hs (World.ownsRow.alloc hown _) ⟨w.heap.size, 0, none⟩ new.length c (new.map (Value.int .i64)) hx (by simp) (fun j u hj => ?_) (fun u hu => ?_) (by unfold maxLen; omega) (by omega) (by simp; omega) (fun v' w' h2 h3 _ h5 => h v' w' ?_ h3 h5)
  · have e : (⟨w.heap.size, 0, none⟩ : Addr).add j = ⟨w.heap.size, j, none⟩ := by unfold Addr.add; split <;> simp_all
    rw [e, World.cell?_alloc_at _ _ _ _ rfl]
    simpa using hj
  · obtain ⟨b, _, rfl⟩ := List.mem_map.1 hu
    rfl
  · have e : (l ++ new).length = l.length + new.length := by simp
    unfold OwnI
    rw [e, List.map_append]
    exact h2
set_option maxRecDepth 20000 in
set_option maxHeartbeats 6400000 in
theorem any_item (w : World) (g : Nat) (a : Option Addr) (len cap : Nat) (hlen : len ≤ 1048576) (hc : Cur w g a len cap) (B : Nat) (hB : B ≤ g) (hrow : Row w B a len) :
    Calls Tryz.prog 52 #[.pointer (some ⟨g, 0, none⟩)] w (OutItem 4 w g a len cap) := by
  have HR := Lib.hid hrow
  have hgl := hc.lt
  have HC1 := Lib.hid (hc.kept (w' := w.alloc (.cells #[.int .i64 0, .slice none 0 0] 62)) (Below.heap_alloc _ _ _ hc.lt))
  have HG1 : Hid (w.grownBy (w.alloc (.cells #[.int .i64 0, .slice none 0 0] 62)) (some g)) := Lib.hid (World.grownBy_alloc w _ _)
  have HX1 := Lib.hid (heap_alloc_new w (.cells #[.int .i64 0, .slice none 0 0] 62))
  clear hc hrow
  go_enter Tryz.func52, Tryz.ntmps52
  go_wp2_with fail
  refine (below_any 6 (by omega) _ g a len cap hlen HC1.out B hB (HR.out.below (grown_below HG1.out hB (by omega)))).mono ?_
  rintro e w1 ⟨id, rfl, hid, hc1, hg1⟩
  have HC2 := Lib.hid hc1
  have HG2 := Lib.hid (HG1.out.trans hg1)
  have HX2 := Lib.hid (row_kept hg1 HX1.out (by omega))
  have hs1 : w.heap.size + 1 ≤ w1.heap.size := lt_of_block HX2.out
  clear hid hc1 hg1 HC1 HG1 HX1
  go_wp2_with fail
  refine (item_any id 10 (by decide) (by decide) _ g a len cap hlen HC2.out B hB (HR.out.below (grown_below HG2.out hB (by omega)))).mono ?_
  rintro e w2 ⟨t, rfl, ho, hl3, hl3', hc2, hg2⟩
  have hY : w.heap.size < w2.heap.size := by have := hg2.size; omega
  have HS2 : Hid (ItSt w g a len cap w2.heap.size t (w2.alloc (.cells #[.int .i64 t.id, .slice t.A t.n t.c] 62))) := Lib.hid (by
    have ho' : OwnI w2 (w.heap.size + 1) (.slice t.A t.n t.c) t.xs := ownI_lowD ho hs1
    exact ⟨(Below.heap_alloc _ _ _ (by omega)).trans (row_kept hg2 HX2.out (by omega)), heap_alloc_new w2 _, ownI_blocks ho' fun k hk => Below.heap_alloc _ _ _ (ownI_tops ho' k hk), fun k e => ownI_tops ho' k e, hc2.kept (Below.heap_alloc _ _ _ hc2.lt), grown_alloc (HG2.out.trans hg2) _⟩)
  have HN3 : Hid (t.n = t.xs.length) := Lib.hid (ownI_at ho).1.symm
  clear ho hc2 hg2 HC2 HG2 HX2
  unfold It.val
  go_wp2_with fail
  refine (below_any 8 (by omega) _ g a len cap hlen HS2.out.c B hB (HR.out.below (grown_below HS2.out.g hB (by omega)))).mono ?_
  rintro e w3 ⟨z, rfl, hz, hc3, hg3⟩
  obtain ⟨hz0, hz8⟩ := hz.2 (by omega)
  have HS := Lib.hid (HS2.out.kept hgl hY hg3 hc3)
  clear hz hc3 hg3 HS2
  have hY3 : w2.heap.size < w3.heap.size := lt_of_block HS.out.y
  by_cases z0 : z = 0
  · subst z0
    have HA := Lib.hid (HS.out.alloc (.cells #[.int .i64 (-1), .int .i64 99, .int .i64 100] 3))
    go_wp2_with fail
    refine (pick_any w3.heap.size 3 (by decide) (by decide) _ g a len cap hlen HA.out.c B hB (HR.out.below (grown_below HA.out.g hB (by omega))) (nums3 w3 (-1) (99) (100) ⟨by decide, by decide⟩ ⟨by decide, by decide⟩ ⟨by decide, by decide⟩) (by omega)).mono ?_
    rintro e w4 ⟨u, rfl, hu, hc4, hg4⟩
    have HS4 := Lib.hid (HA.out.kept hgl hY hg4 hc4)
    clear hu hc4 hg4 HS HA
    have x0 : w4.cell? ⟨w.heap.size, 0, none⟩ = some (.int .i64 0) := cell_of_row w4 _ 0 _ _ (0, 0) HS4.out.x
    have z0 : w4.frozen? ⟨w.heap.size, 0, none⟩ = false := frozen_of_row w4 _ 0 _ _ HS4.out.x
    have x1 : w4.cell? ⟨w.heap.size, 1, none⟩ = some (.slice none 0 0) := cell_of_row w4 _ 1 _ _ (0, 0) HS4.out.x
    have z1 : w4.frozen? ⟨w.heap.size, 1, none⟩ = false := frozen_of_row w4 _ 1 _ _ HS4.out.x
    have y0 : w4.cell? ⟨w2.heap.size, 0, none⟩ = some (.int .i64 t.id) := cell_of_row w4 _ 0 _ _ (0, 0) HS4.out.y
    have y1 : w4.cell? ⟨w2.heap.size, 1, none⟩ = some (.slice t.A t.n t.c) := cell_of_row w4 _ 1 _ _ (0, 0) HS4.out.y
    have u0 : w4.frozen? ⟨w2.heap.size, 0, none⟩ = false := frozen_of_row w4 _ 0 _ _ HS4.out.y
    go_wp2
    refine bodyPost_ret_by (results_cell_row rfl _ _ w.heap.size 62 _ (0, 0) _ rfl (two_setD ((heap_setCell_other _ _ _ _ (by simp; omega)).trans HS4.out.x)) Tryz.underlying62 rfl (by kernel_rfl)) rfl ?_
    refine ⟨⟨u, t.A, t.n, t.c, t.xs⟩, rfl, ownI_lowD (ownI_blocks HS4.out.o fun k hk => ?_) (by omega), by show 3 ≤ t.xs.length; omega, by show t.xs.length ≤ 4; omega, HS4.out.c.kept ?_, grown_tail HS4.out.g ?_⟩
    · exact (set2_other _ w.heap.size k _ _ (by have := ownI_lows HS4.out.o k hk; omega)).trans (heap_setCell_other _ _ _ _ (by have := HS4.out.far k hk; simp; omega))
    · exact (set2_other _ w.heap.size g _ _ (by omega)).trans (heap_setCell_other _ _ _ _ (by simp; omega))
    · exact ((Below.refl _ _).setCell (by show w.heap.size ≤ w2.heap.size; omega) _).trans (set2_below _ w.heap.size w.heap.size _ _ (Nat.le_refl _))
  by_cases z1 : z = 1
  · subst z1
    clear z0
    have hA0 : ∃ b, t.A = some ⟨b, 0, none⟩ ∧ w.heap.size + 1 ≤ b ∧ b < w2.heap.size := by
      rcases HS.out.o.2 with ⟨hv, h0⟩ | ⟨b, cp, cur, hv, hb, _⟩
      · omega
      · injection hv with e1
        exact ⟨b, e1, hb, HS.out.far b (by rw [e1]; rfl)⟩
    obtain ⟨b, hAb, hb0, hb1⟩ := hA0
    have hn0 : 0 < t.n := by have := HN3.out; omega
    have hn1 : (0 : Int) < (t.n : Int) := by omega
    have HAd := Lib.hid (HS.out.alloc (.cells #[.int .i64 (-1), .int .i64 9, .int .i64 10] 3)).drew
    have y0 : w3.cell? ⟨w2.heap.size, 0, none⟩ = some (.int .i64 t.id) := cell_of_row w3 _ 0 _ _ (0, 0) HS.out.y
    have y1 : w3.cell? ⟨w2.heap.size, 1, none⟩ = some (.slice t.A t.n t.c) := cell_of_row w3 _ 1 _ _ (0, 0) HS.out.y
    rw [hAb] at y1
    go_wp2
    go_region_law (go_simp; go_at_call 67; refine (pick_any w3.heap.size 3 (by decide) (by decide) _ g a len cap hlen HAd.out.c B hB (HR.out.below (grown_below HAd.out.g hB (by omega))) (nums3 w3 (-1) 9 10 ⟨by decide, by decide⟩ ⟨by decide, by decide⟩ ⟨by decide, by decide⟩) (by omega)).mono ?_; rintro e wn ⟨u, rfl, hu, hcn, hgn⟩; have HSn := Lib.hid (HAd.out.kept hgl hY hgn hcn); have y1 : wn.cell? ⟨w2.heap.size, 1, none⟩ = some (.slice (some ⟨b, 0, none⟩) t.n t.c) := (cell_of_row wn _ 1 _ _ (0, 0) HSn.out.y).trans (by rw [hAb]; rfl); have hYn : w2.heap.size < wn.heap.size := lt_of_block HSn.out.y; have hOn : OwnI wn (w.heap.size + 1) (.slice (some ⟨b, 0, none⟩) t.n t.c) t.xs := (by have h := HSn.out.o; rw [hAb] at h; exact h); obtain ⟨cur, hcur, hcs⟩ := own_row0 hOn; have f1 : wn.cell? ⟨b, 0, none⟩ = some (.int .i64 (t.xs.getD 0 0)) := hcs (by have := HN3.out; omega); have f2 : wn.frozen? ⟨b, 0, none⟩ = false := frozen_of_row wn _ 0 _ _ hcur; have HOn := Lib.hid hOn; have HCr := Lib.hid hcur; clear hu hcn hgn hOn hcur hcs)
    all_goals
      have x0 : wn.cell? ⟨w.heap.size, 0, none⟩ = some (.int .i64 0) := cell_of_row wn _ 0 _ _ (0, 0) HSn.out.x
      have z0 : wn.frozen? ⟨w.heap.size, 0, none⟩ = false := frozen_of_row wn _ 0 _ _ HSn.out.x
      have x1 : wn.cell? ⟨w.heap.size, 1, none⟩ = some (.slice none 0 0) := cell_of_row wn _ 1 _ _ (0, 0) HSn.out.x
      have z1 : wn.frozen? ⟨w.heap.size, 1, none⟩ = false := frozen_of_row wn _ 1 _ _ HSn.out.x
      have y0 : wn.cell? ⟨w2.heap.size, 0, none⟩ = some (.int .i64 t.id) := cell_of_row wn _ 0 _ _ (0, 0) HSn.out.y
      go_wp2
      refine bodyPost_ret_by (results_cell_row rfl _ _ w.heap.size 62 _ (0, 0) _ rfl (two_setD ((heap_setCell_other _ _ _ _ (by simp; omega)).trans HSn.out.x)) Tryz.underlying62 rfl (by kernel_rfl)) rfl ?_
      refine ⟨⟨t.id, some ⟨b, 0, none⟩, t.n, t.c, t.xs.set 0 u⟩, rfl, ownI_lowD (ownI_blocks (own_set0 HOn.out u) fun k hk => ?_) (by omega), by simp; omega, by simp; omega, HSn.out.c.kept ?_, grown_tail HSn.out.g ?_⟩
      · exact set2_other _ w.heap.size k _ _ (by have := ownI_lows HOn.out k hk; omega)
      · exact (set2_other _ w.heap.size g _ _ (by omega)).trans (heap_setCell_other _ _ _ _ (by simp; omega))
      · exact ((Below.refl _ _).setCell (by show w.heap.size ≤ b; omega) _).trans (set2_below _ w.heap.size w.heap.size _ _ (Nat.le_refl _))
  by_cases z2 : z = 2
  · subst z2
    clear z0 z1
    have H4 : Hid ((t.xs.length + [(1 : Int)].length) * 8 ≤ 140737488355328) := Lib.hid (by simp only [List.length_cons, List.length_nil]; omega)
    have hB3 : w2.heap.size + 1 ≤ w3.heap.size := hY3
    have y0 : w3.cell? ⟨w2.heap.size, 0, none⟩ = some (.int .i64 t.id) := cell_of_row w3 _ 0 _ _ (0, 0) HS.out.y
    have y1 : w3.cell? ⟨w2.heap.size, 1, none⟩ = some (.slice t.A t.n t.c) := cell_of_row w3 _ 1 _ _ (0, 0) HS.out.y
    have HOy : Hid (w3.ownsRow (w.heap.size + 1) 3 1 (.slice t.A t.n t.c) t.xs.length (t.xs.map (Value.int .i64))) := Lib.hid HS.out.o
    go_wp2_with (at_builtin; refine wp_appD w3 (by rfl) (.tmp 27) (.tmp 28) (by rfl) (w.heap.size + 1) _ t.xs (by rfl) HS.out.o _ [1] (by rfl) 1 1 rfl (by rfl) H4.out (by omega) ?_)
    intro v' w5 hown5 hg5 hv5
    obtain ⟨A', n', c', rfl, _⟩ := hown5.ints
    have HO5 := Lib.hid hown5
    have HV5 := Lib.hid hv5
    have HB5 : Hid (Below (w.heap.size + 1) w3 w5) := Lib.hid (((Below.refl (w.heap.size + 1) w3).alloc (by omega) _).grown hg5 (by simp; omega) (fun k hk => ownI_lows HS.out.o k hk))
    have HXX : Hid (w5.heap[w.heap.size]? = some (.cells #[.int .i64 0, .slice none 0 0] 62 (0, 0))) := Lib.hid (row_below HB5.out HS.out.x (by omega))
    have HYY : Hid (w5.heap[w2.heap.size]? = some (.cells #[.int .i64 t.id, .slice t.A t.n t.c] 62 (0, 0))) := Lib.hid ((hg5.block _ (by simp; omega) (fun e => by have := HS.out.far _ e.symm; omega)).trans ((Below.heap_alloc _ _ _ hY3).trans HS.out.y))
    clear hown5 hg5 hv5
    have x0 : w5.cell? ⟨w.heap.size, 0, none⟩ = some (.int .i64 0) := cell_of_row w5 _ 0 _ _ (0, 0) HXX.out
    have z0 : w5.frozen? ⟨w.heap.size, 0, none⟩ = false := frozen_of_row w5 _ 0 _ _ HXX.out
    have x1 : w5.cell? ⟨w.heap.size, 1, none⟩ = some (.slice none 0 0) := cell_of_row w5 _ 1 _ _ (0, 0) HXX.out
    have z1 : w5.frozen? ⟨w.heap.size, 1, none⟩ = false := frozen_of_row w5 _ 1 _ _ HXX.out
    have y0 : w5.cell? ⟨w2.heap.size, 0, none⟩ = some (.int .i64 t.id) := cell_of_row w5 _ 0 _ _ (0, 0) HYY.out
    have y1 : w5.cell? ⟨w2.heap.size, 1, none⟩ = some (.slice t.A t.n t.c) := cell_of_row w5 _ 1 _ _ (0, 0) HYY.out
    have u1 : w5.frozen? ⟨w2.heap.size, 1, none⟩ = false := frozen_of_row w5 _ 1 _ _ HYY.out
    go_wp2
    refine bodyPost_ret_by (results_cell_row rfl _ _ w.heap.size 62 _ (0, 0) _ rfl (two_setD ((heap_setCell_other _ _ _ _ (by simp; omega)).trans HXX.out)) Tryz.underlying62 rfl (by kernel_rfl)) rfl ?_
    have hfar : ∀ k, (Value.slice A' n' c').ownBlock = some k → k ≠ w2.heap.size ∧ k ≠ w.heap.size := fun k hk => by
      have h1 := ownI_lows HO5.out k hk
      refine ⟨fun e => ?_, by omega⟩
      rcases HV5.out with h | h
      · rw [h] at hk
        have := HS.out.far k hk
        omega
      · rw [h] at hk
        have h2 := Option.some.inj hk
        try simp only [World.size_alloc] at h2
        omega
    refine ⟨⟨t.id, A', n', c', t.xs ++ [1]⟩, rfl, ownI_lowD (ownI_blocks HO5.out fun k hk => ?_) (by omega), by simp; omega, by simp; omega, HS.out.c.kept ?_, grown_tail HS.out.g ?_⟩
    · exact (set2_other _ w.heap.size k _ _ (hfar k hk).2).trans (heap_setCell_other _ _ _ _ (hfar k hk).1)
    · exact (set2_other _ w.heap.size g _ _ (by omega)).trans ((heap_setCell_other _ _ _ _ (by simp; omega)).trans (HB5.out.block g (by omega)))
    · exact ((HB5.out.mono (by omega)).setCell (by show w.heap.size ≤ w2.heap.size; omega) _).trans (set2_below _ w.heap.size w.heap.size _ _ (Nat.le_refl _))
  have f0 : (z == 0) = false := by simpa using z0
  have f1 : (z == 1) = false := by simpa using z1
  have f2 : (z == 2) = false := by simpa using z2
  clear z0 z1 z2
  have x0 : w3.cell? ⟨w.heap.size, 0, none⟩ = some (.int .i64 0) := cell_of_row w3 _ 0 _ _ (0, 0) HS.out.x
  have z0 : w3.frozen? ⟨w.heap.size, 0, none⟩ = false := frozen_of_row w3 _ 0 _ _ HS.out.x
  have x1 : w3.cell? ⟨w.heap.size, 1, none⟩ = some (.slice none 0 0) := cell_of_row w3 _ 1 _ _ (0, 0) HS.out.x
  have z1 : w3.frozen? ⟨w.heap.size, 1, none⟩ = false := frozen_of_row w3 _ 1 _ _ HS.out.x
  have y0 : w3.cell? ⟨w2.heap.size, 0, none⟩ = some (.int .i64 t.id) := cell_of_row w3 _ 0 _ _ (0, 0) HS.out.y
  have y1 : w3.cell? ⟨w2.heap.size, 1, none⟩ = some (.slice t.A t.n t.c) := cell_of_row w3 _ 1 _ _ (0, 0) HS.out.y
  go_wp2
  refine bodyPost_ret_by (results_cell_row rfl _ _ w.heap.size 62 _ (0, 0) _ rfl (two_setD HS.out.x) Tryz.underlying62 rfl (by kernel_rfl)) rfl ?_
  refine ⟨⟨t.id, t.A, t.n, t.c, t.xs⟩, rfl, ownI_lowD (ownI_blocks HS.out.o fun k hk => ?_) (by omega), by show 3 ≤ t.xs.length; omega, by show t.xs.length ≤ 4; omega, HS.out.c.kept ?_, grown_tail HS.out.g ?_⟩
  · exact (set2_other _ w.heap.size k _ _ (by have := ownI_lows HS.out.o k hk; omega))
  · exact (set2_other _ w.heap.size g _ _ (by omega))
  · exact set2_below _ w.heap.size w.heap.size _ _ (Nat.le_refl _)
end Go.Proofs.YtaijajajpnekbaaGreat.num
namespace Go.Proofs.YtaijajajpnekbaaGreat.num
set_option maxRecDepth 20000
open Go.RowKit Go.Maps
set_option linter.unusedVariables false
set_option linter.unusedSimpArgs false

def TreeOut (B lo : Nat) (nds : List ND) (e : Ending) (w' : World) : Prop :=
  (IsE nds ∧ ∃ t p, Post nds t ∧ e = .returned (.pointer (some ⟨p, 0, none⟩)) ∧ PartAt w' B lo t p) ∨ (¬ IsE nds ∧ e = .returned (.pointer none))
set_option maxRecDepth 20000 in
theorem iTreeOfW (w : World) (B : Nat) (A : Option Addr) (n c : Nat) (ns : List Nd) (hi : Nodes w B A n ns) (hB : B ≤ w.heap.size) (hnc : n ≤ c) (hc : c ≤ 9223372036854775807) (hN : ShortN ns) :
    Calls Tryz.prog 33 #[.slice A n c] w fun e w' => TreeOut B w.heap.size (datN ns) e w' ∧ Below w.heap.size w w' := by
  have HL : Hid ((datN ns).length = n) := Lib.hid (by unfold datN; rw [List.length_map, hi.len])
  have HC := Lib.hid (iLast B A c hc n w ns hi hB hnc hN)
  clear hi hN
  by_cases h9 : n ≤ 9
  · go_enter Tryz.func33, Tryz.ntmps33
    go_wp2_with fail
    refine HC.out.mono ?_
    rintro e w1 ⟨hout, hb1⟩
    have HB := Lib.hid hb1
    clear hb1 HC
    rcases hout with ⟨t, k, p, hl, rfl, hpa⟩ | ⟨hl, rfl⟩
    · have HLp := Lib.hid hl
      have HP := Lib.hid hpa
      have hkn : k ≤ 9223372036854775807 := by have := hl.lt; rw [HL.out] at this; omega
      clear hl hpa
      by_cases hk : k = 0
      · subst hk
        go_wp2
        go_ret
        refine ⟨.inl ⟨(isE_last HLp.out).2 ⟨by rw [HL.out]; exact h9, rfl⟩, t, p, ?_, rfl, HP.out⟩, HB.out⟩
        have := HLp.out
        simpa [LastP] using this
      · have hk' : 0 < k := by omega
        have hd : decide ((k : Int) > 0) = true := by simp; omega
        go_wp2
        go_ret
        exact ⟨.inr ⟨fun h => by have := ((isE_last HLp.out).1 h).2; omega, rfl⟩, HB.out⟩
    · have HLp := Lib.hid hl
      clear hl
      go_wp2
      go_ret
      exact ⟨.inr ⟨isE_none HLp.out, rfl⟩, HB.out⟩
  · have hd : decide ((n : Int) > 9) = true := by simp; omega
    have hgt : (9 : Int) < (n : Int) := by omega
    go_enter Tryz.func33, Tryz.ntmps33
    go_wp2
    go_ret
    exact ⟨.inr ⟨fun h => by have := h.1; rw [HL.out] at this; omega, rfl⟩, Below.refl _ _⟩
theorem iTreeOf (w : World) (B : Nat) (A : Option Addr) (n c : Nat) (ns : List Nd) (hi : Nodes w B A n ns) (hB : B ≤ w.heap.size) (hnc : n ≤ c) (hc : c ≤ 1048576) (hN : ShortN ns) :
    Calls Tryz.prog 33 #[.slice A n c] w fun e w' => TreeOut B w.heap.size (datN ns) e w' ∧ Below w.heap.size w w' := iTreeOfW w B A n c ns hi hB hnc (Nat.le_trans hc (by decide)) hN
set_option maxRecDepth 20000 in
theorem iIsEW (w : World) (B : Nat) (A : Option Addr) (n c : Nat) (ns : List Nd) (hi : Nodes w B A n ns) (hB : B ≤ w.heap.size) (hnc : n ≤ c) (hc : c ≤ 9223372036854775807) (hN : ShortN ns) (b : Bool) (hb : b = true ↔ IsE (datN ns)) :
    Calls Tryz.prog 10 #[.slice A n c] w fun e w' => e = .returned (.bool b) ∧ Below w.heap.size w w' := by
  have HC := Lib.hid (iTreeOfW w B A n c ns hi hB hnc hc hN)
  have HBo := Lib.hid hb
  clear hi hN hb
  go_enter Tryz.func10, Tryz.ntmps10
  go_wp2_with fail
  refine HC.out.mono ?_
  rintro e w1 ⟨hout, hb1⟩
  have HB := Lib.hid hb1
  clear hb1 HC
  rcases hout with ⟨hE, t, p, _, rfl, _⟩ | ⟨hE, rfl⟩
  · obtain rfl : b = true := HBo.out.2 hE
    go_wp2
    go_ret
    exact ⟨rfl, HB.out⟩
  · obtain rfl : b = false := by
      cases b
      · rfl
      · exact absurd (HBo.out.1 rfl) hE
    go_wp2
    go_ret
    exact ⟨rfl, HB.out⟩
theorem iIsE (w : World) (B : Nat) (A : Option Addr) (n c : Nat) (ns : List Nd) (hi : Nodes w B A n ns) (hB : B ≤ w.heap.size) (hnc : n ≤ c) (hc : c ≤ 1048576) (hN : ShortN ns) (b : Bool) (hb : b = true ↔ IsE (datN ns)) :
    Calls Tryz.prog 10 #[.slice A n c] w fun e w' => e = .returned (.bool b) ∧ Below w.heap.size w w' := iIsEW w B A n c ns hi hB hnc (Nat.le_trans hc (by decide)) hN b hb

theorem iRev (w : World) (x : Int) : Calls Tryz.prog 74 #[.int .i64 x] w fun e w' => e = .returned (.int .i64 (revC x)) ∧ w' = w := by
  unfold revC
  by_cases h1 : x = 1
  · subst h1
    go_enter Tryz.func74, Tryz.ntmps74
    go_wp2
    go_ret
    exact ⟨rfl, rfl⟩
  · rw [if_neg h1]
    by_cases h2 : x = -1
    · subst h2
      go_enter Tryz.func74, Tryz.ntmps74
      go_wp2
      go_ret
      exact ⟨rfl, rfl⟩
    · rw [if_neg h2]
      have f1 : (x == 1) = false := by simpa using h1
      have f2 : (x == -1) = false := by simpa using h2
      go_enter Tryz.func74, Tryz.ntmps74
      go_wp2
      go_ret
      exact ⟨rfl, rfl⟩
/-- Two codes that cannot both hold for a whole. -/
def apartC (a b : Int) : Bool := a == 2 || b == 2 || (a != 0 && a == revC b)
theorem iDis (w : World) (a b : Int) (ha : Code a) (hb : Code b) : Calls Tryz.prog 75 #[.int .i64 a, .int .i64 b] w fun e w' => e = .returned (.bool (apartC a b)) ∧ w' = w := by
  have HC : Hid (∀ w1, Calls Tryz.prog 74 #[.int .i64 b] w1 fun e w' => e = .returned (.int .i64 (revC b)) ∧ w' = w1) := Lib.hid fun w1 => iRev w1 b
  rcases ha with rfl | rfl | rfl | rfl <;> rcases hb with rfl | rfl | rfl | rfl <;>
    (go_enter Tryz.func75, Tryz.ntmps75
     first
     | (go_wp2
        go_ret
        exact ⟨by decide, rfl⟩)
     | (go_wp2
        go_ret
        exact ⟨rfl, rfl⟩)
     | (go_wp2_with fail
        refine (HC.out _).mono ?_
        rintro e w1 ⟨rfl, rfl⟩
        go_wp2
        go_ret
        exact ⟨rfl, rfl⟩))
theorem opC_pareto {a b : Int} (ha : Code a) (hb : Code b) : opC 1 a b = if apartC a b = true then 2 else if a ≠ 0 then a else b := by
  rcases ha with rfl | rfl | rfl | rfl <;> rcases hb with rfl | rfl | rfl | rfl <;> decide
end Go.Proofs.YtaijajajpnekbaaGreat.num
