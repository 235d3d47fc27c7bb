/- Contracts of functions that the laws of this chapter call, packed. -/
import Derived.Test.YtaijajajpnekbaaRowG
import Derived.Test.YtaijajajpnekbaaPairMark
import Derived.Laws.OwnMore
import Derived.Lib.SlFresh
import Derived.Test.YtaijajajpnekbaaItemIds
import Derived.Test.YtaijajajpnekbaaExpCopy
import Derived.Test.YtaijajajpnekbaaPairMarkI
import Derived.Test.YtaijajajpnekbaaWishOwn
import Derived.Test.YtaijajajpnekbaaExpSpec
import Derived.Lib.SliceRun
import Derived.Deep.RegionLaw
import Derived.Test.YtaijajajpnekbaaExpMath
import Derived.Test.YtaijajajpnekbaaExpIs
import Derived.Lib.AppendZeros
namespace Go.Proofs.Ytaijajajpnekbaa.num
set_option maxRecDepth 20000
open Go.RowKit
set_option linter.unusedVariables false

theorem run_app_none {P : Program} {w : World} {B : Nat} {T tS ty : TypeId} {z : Value} {s bytes : Nat} (ht : P.underlying tS = some (.slice T)) (hinf : (P.info? T).map (fun i => (i.zero, i.size, i.bytes)) = some (some z, s, bytes)) {v : Value} {n c : Nat} {xs : List Value} (hown : w.ownsRow B T s v n xs) :
    ∃ v' w', (Builtin.append_ #[tS, tS] ty #[v, .slice none 0 c]).run P w = .ok v' w' ∧ w'.ownsRow B T s v' (n + 0) (xs ++ []) ∧ w.grownBy w' v.ownBlock ∧ (v'.ownBlock = v.ownBlock ∨ v'.ownBlock = some w.heap.size) := by
  obtain ⟨i, hi, hz⟩ := Option.map_eq_some_iff.1 hinf
  refine ⟨v, w, ?_, by simpa using hown, ⟨rfl, rfl, rfl, Nat.le_refl _, fun _ _ _ => rfl⟩, .inl rfl⟩
  rcases hown.2 with ⟨rfl, rfl⟩ | ⟨g, cap, cur, rfl, _, _, hnc, _⟩
  · simp [Builtin.append_, run_underlying ht, sizeOf, typeInfo, hi, Builtin.lenOf, Builtin.firstCells]
  · simp [Builtin.append_, run_underlying ht, sizeOf, typeInfo, hi, Builtin.lenOf, Builtin.firstCells, hnc, storeCells]
theorem run_app_some {P : Program} {w : World} {B : Nat} {T tS ty : TypeId} {z : Value} {s bytes : Nat} (ht : P.underlying tS = some (.slice T)) (hinf : (P.info? T).map (fun i => (i.zero, i.size, i.bytes)) = some (some z, s, bytes)) (hzs : z.cells.size = s) (hs0 : 0 < s) (hbt : 0 < bytes) {v : Value} {n : Nat} {xs : List Value} (hown : w.ownsRow B T s v n xs)
    (a : Addr) {m c : Nat} {news : List Value} (hl : news.length = m * s) (hnews : ∀ j u, news[j]? = some u → w.cell? (a.add j) = some u) (h1 : ∀ u ∈ news, u.oneCell' = true) (hbytes : (n + m) * bytes ≤ 140737488355328) (hB : B ≤ w.heap.size) :
    ∃ v' w', (Builtin.append_ #[tS, tS] ty #[v, .slice (some a) m c]).run P w = .ok v' w' ∧ w'.ownsRow B T s v' (n + m) (xs ++ news) ∧ w.grownBy w' v.ownBlock ∧ (v'.ownBlock = v.ownBlock ∨ v'.ownBlock = some w.heap.size) := by
  obtain ⟨i, hi, hz⟩ := Option.map_eq_some_iff.1 hinf
  simp only [Prod.mk.injEq] at hz
  obtain ⟨hz0, hz1, hz2⟩ := hz
  have hm : n + m ≤ 140737488355328 := Nat.le_trans (Nat.le_mul_of_pos_right _ hbt) hbytes
  obtain ⟨v', w', h1, h2, h3, _, h5⟩ := run_append_own_at (P := P) w B tS ty T i z s bytes ht hi hz0 hz1 hz2 hzs hs0 v n xs hown a m c news hl hnews h1 (by unfold maxLen; omega) hbytes hB
  exact ⟨v', w', h1, h2, h3, h5⟩
theorem addr_add (b off j : Nat) : (⟨b, off, none⟩ : Addr).add j = ⟨b, off + j, none⟩ := by unfold Addr.add; split <;> simp_all
theorem run_spreadI {w : World} {B B' : Nat} {v : Value} {l ys : List Int} {A : Option Addr} {n c : Nat} {ty : TypeId} (h : OwnI w B v l) (hr : Ints w B' A n ys) (hlen : (l.length + n) * 8 ≤ 140737488355328) (hB : B ≤ w.heap.size) :
    ∃ v' w', (Builtin.append_ #[48, 48] ty #[v, .slice A n c]).run Try.prog w = .ok v' w' ∧ OwnI w' B v' (l ++ ys) ∧ w.grownBy w' v.ownBlock ∧ (v'.ownBlock = v.ownBlock ∨ v'.ownBlock = some w.heap.size) := by
  obtain ⟨hl, hc⟩ := hr
  have e : (l ++ ys).length = l.length + n := by rw [List.length_append, hl]
  unfold OwnI
  rw [e, List.map_append]
  cases A with
  | none =>
    obtain rfl : n = 0 := by
      rcases Nat.eq_zero_or_pos n with e | e
      · exact e
      · obtain ⟨_, _, h, _⟩ := hc 0 e; cases h
    obtain rfl : ys = [] := List.eq_nil_of_length_eq_zero hl
    exact run_app_none Try.underlying48 info_int h
  | some a =>
    refine run_app_some Try.underlying48 info_int rfl (by decide) (by decide) h a (by simp [hl]) (fun j u hj => ?_) (fun u hu => ?_) hlen hB
    · have hjl : j < ys.length := by
        rcases Nat.lt_or_ge j ys.length with q | q
        · exact q
        · rw [List.getElem?_eq_none (by simpa using q)] at hj; cases hj
      obtain ⟨b, off, e, _, hcell⟩ := hc j (by omega)
      cases e
      rw [addr_add, hcell]
      rw [List.getElem?_map, List.getElem?_eq_getElem hjl] at hj
      rw [List.getD_eq_getElem?_getD, List.getElem?_eq_getElem hjl]
      exact hj
    · obtain ⟨x, _, rfl⟩ := List.mem_map.1 hu
      rfl
theorem run_spreadP {w : World} {B B' : Nat} {v : Value} {l ys : List (Int × Int)} {A : Option Addr} {n c : Nat} {ty : TypeId} (h : OwnP w B v l) (hr : Pairs w B' A n ys) (hlen : (l.length + n) * 16 ≤ 140737488355328) (hB : B ≤ w.heap.size) :
    ∃ v' w', (Builtin.append_ #[73, 73] ty #[v, .slice A n c]).run Try.prog w = .ok v' w' ∧ OwnP w' B v' (l ++ ys) ∧ w.grownBy w' v.ownBlock ∧ (v'.ownBlock = v.ownBlock ∨ v'.ownBlock = some w.heap.size) := by
  obtain ⟨hl, hc⟩ := hr
  have e : (l ++ ys).length = l.length + n := by rw [List.length_append, hl]
  unfold OwnP
  rw [e, flat_app]
  cases A with
  | none =>
    obtain rfl : ys = [] := by
      cases ys with
      | nil => rfl
      | cons p r => obtain ⟨_, _, h, _⟩ := hc 0 p rfl; cases h
    obtain rfl : n = 0 := hl.symm
    exact run_app_none Try.underlying73 info_pair h
  | some a =>
    refine run_app_some Try.underlying73 info_pair rfl (by decide) (by decide) h a (by rw [flat_len, hl]) (fun j u hj => ?_) (flat_one ys) hlen hB
    have hjl : j < ys.length * 2 := by
      rcases Nat.lt_or_ge j (flat ys).length with q | q
      · rwa [flat_len] at q
      · rw [List.getElem?_eq_none q] at hj; cases hj
    have hk : j / 2 < ys.length := by omega
    have hg : ys[j / 2]? = some (ys[j / 2]) := List.getElem?_eq_getElem hk
    obtain ⟨b, off, e, _, h1, h2⟩ := hc (j / 2) _ hg
    cases e
    rw [addr_add]
    have he := flat_even ys (j / 2) _ hg
    have ho := flat_odd ys (j / 2) _ hg
    by_cases hp : j % 2 = 0
    · have e2 : j = j / 2 * 2 := by omega
      rw [e2] at hj
      rw [he] at hj
      rw [e2, h1]
      exact hj
    · have e2 : j = j / 2 * 2 + 1 := by omega
      rw [e2] at hj
      rw [ho] at hj
      rw [e2, ← Nat.add_assoc, h2]
      exact hj
theorem run_spreadG {α : Type} {f : α → List Value} {s : Nat} (hf : ∀ x, (f x).length = s) (h1 : ∀ x, ∀ u ∈ f x, u.oneCell' = true) {T tS ty : TypeId} {z : Value} {bytes : Nat} (ht : Try.prog.underlying tS = some (.slice T)) (hinf : (Try.prog.info? T).map (fun i => (i.zero, i.size, i.bytes)) = some (some z, s, bytes)) (hzs : z.cells.size = s) (hs0 : 0 < s) (hbt : 0 < bytes)
    {w : World} {B B' : Nat} {v : Value} {l ys : List α} {A : Option Addr} {n c : Nat} (h : OwnG T f s w B v l) (hr : ReadG f s w B' A n ys) (hlen : (l.length + n) * bytes ≤ 140737488355328) (hB : B ≤ w.heap.size) :
    ∃ v' w', (Builtin.append_ #[tS, tS] ty #[v, .slice A n c]).run Try.prog w = .ok v' w' ∧ OwnG T f s w' B v' (l ++ ys) ∧ w.grownBy w' v.ownBlock ∧ (v'.ownBlock = v.ownBlock ∨ v'.ownBlock = some w.heap.size) := by
  have hl := hr.len
  have e : (l ++ ys).length = l.length + n := by rw [List.length_append, hl]
  unfold OwnG
  rw [e, List.flatMap_append]
  cases A with
  | none =>
    obtain rfl : n = 0 := by
      rcases Nat.eq_zero_or_pos n with e | e
      · exact e
      · obtain ⟨_, _, h, _⟩ := hr.cells hf e; cases h
    obtain rfl : ys = [] := List.eq_nil_of_length_eq_zero hl
    exact run_app_none ht hinf h
  | some a =>
    refine run_app_some ht hinf hzs hs0 hbt h a (by rw [fm_len hf, hl]) (fun j u hj => ?_) (fm_one h1 ys) hlen hB
    have hn : 0 < n := by
      rcases Nat.eq_zero_or_pos n with e | e
      · subst e
        obtain rfl : ys = [] := List.eq_nil_of_length_eq_zero hl
        simp at hj
      · exact e
    obtain ⟨b, off, e, _, hcell⟩ := hr.cells hf hn
    cases e
    rw [addr_add]
    exact hcell j u hj
/-- An append whose run is known, as a step of a region that draws. -/
theorem step_run {P : Program} {ops : Array Oper} {o : Oper} {a : Act} {K : Act → World → Prop} {Q : Exit → Act → World → Prop} {E : Prop} (w : World) (hgd : o.guard = none) (s x : Operand) (t : TypeId)
    (ho : o.op = .call { callee := .builtin .append, args := #[s, x], argTypes := #[t, t] }) (v u : Value) (hs : a.eval s = v) (hx : a.eval x = u) {v' : Value} {w' : World}
    (hr : (Builtin.append_ #[t, t] o.type #[v, u]).run P w = .ok v' w') (h : K (a.put o.dst v') w') : if Region.wanted o (yielded ops a.tmps) = true then Oper.wp P o a w K Q else E := by
  have hw : Region.wanted o (yielded ops a.tmps) = true := by simp [Region.wanted, hgd]
  rw [if_pos hw]
  exact Go.Lib.wp_append_run_sl w s x t ho v u hs hx hr h
theorem stepI {ops : Array Oper} {o : Oper} {a : Act} {K : Act → World → Prop} {Q : Exit → Act → World → Prop} {E : Prop} (w : World) (hgd : o.guard = none) (s x : Operand)
    (ho : o.op = .call { callee := .builtin .append, args := #[s, x], argTypes := #[48, 48] })
    (B : Nat) (v : Value) (l : List Int) (hs : a.eval s = v) (hown : OwnI w B v l) (cs : Array Value) (new : List Int) (hcs : cs = (new.map (Value.int .i64)).toArray) (n c : Nat) (hn : n = new.length)
    (hx : a.eval x = .slice (some ⟨w.heap.size, 0, none⟩) n c) (hlen : (l.length + new.length) * 8 ≤ 140737488355328) (hB : B ≤ w.heap.size)
    (h : ∀ v' w', OwnI w' B v' (l ++ new) → Below B w w' → K (a.put o.dst v') w') :
    if Region.wanted o (yielded ops a.tmps) = true then Oper.wp Try.prog o a (w.alloc (.cells cs 3)) K Q else E := by
  have hw : Region.wanted o (yielded ops a.tmps) = true := by simp [Region.wanted, hgd]
  rw [if_pos hw]
  obtain ⟨i0, hi, hz0, hz1, hz2⟩ := info_parts info_int
  subst hcs hn
  refine wp_append_own _ s x 48 ho B 3 i0 (.int .i64 0) 1 8 Try.underlying48 hi hz0 hz1 hz2 rfl (by decide) v l.length (l.map (Value.int .i64)) hs (World.ownsRow.alloc hown _) ⟨w.heap.size, 0, none⟩ new.length c (new.map (Value.int .i64)) hx (by simp) ?_ ?_ (by unfold maxLen; omega) (by omega) (by simp; omega) ?_
  · intro j u hj
    have e : (⟨w.heap.size, 0, none⟩ : Addr).add j = ⟨w.heap.size, j, none⟩ := by unfold Addr.add; split <;> simp_all
    rw [e, World.cell?_alloc_at _ _ _ _ rfl]
    simpa using hj
  · intro u hu
    obtain ⟨b, _, rfl⟩ := List.mem_map.1 hu
    rfl
  · intro v' w' hown' hg _
    refine h v' w' ?_ (((Below.refl B w).alloc hB _).grown hg (by simp; omega) (fun k hk => ?_))
    · have e : (l ++ new).length = l.length + new.length := by simp
      unfold OwnI
      rw [e, List.map_append]
      exact hown'
    · exact (World.ownsRow.lt hown k hk).1

end Go.Proofs.Ytaijajajpnekbaa.num
namespace Go.Proofs.Ytaijajajpnekbaa.num
set_option maxRecDepth 20000
open Go.RowKit
set_option linter.unusedVariables false
set_option linter.unusedSimpArgs false

/-- w' is w but for the blocks in S. -/
structure OnlyS (S : Nat → Prop) (w w' : World) : Prop where
  os : w'.os = w.os
  tape : w'.tape = w.tape
  output : w'.output = w.output
  size : w'.heap.size = w.heap.size
  block : ∀ k, ¬ S k → w'.heap[k]? = w.heap[k]?
theorem OnlyS.refl (S : Nat → Prop) (w : World) : OnlyS S w w := ⟨rfl, rfl, rfl, rfl, fun _ _ => rfl⟩
theorem OnlyS.trans {S : Nat → Prop} {w w1 w2 : World} (h : OnlyS S w w1) (h' : OnlyS S w1 w2) : OnlyS S w w2 :=
  ⟨h'.os.trans h.os, h'.tape.trans h.tape, h'.output.trans h.output, h'.size.trans h.size, fun k hk => (h'.block k hk).trans (h.block k hk)⟩
theorem OnlyS.sub {S S' : Nat → Prop} {w w' : World} (h : OnlyS S w w') (hs : ∀ k, S k → S' k) : OnlyS S' w w' := ⟨h.os, h.tape, h.output, h.size, fun k hk => h.block k fun e => hk (hs k e)⟩
theorem OnlyS.set {S : Nat → Prop} {w w' : World} (h : OnlyS S w w') {g : Nat} (hg : S g) (j : Nat) (u : Value) : OnlyS S w (w'.setCell ⟨g, j, none⟩ u) :=
  ⟨h.os, h.tape, h.output, by simpa [World.setCell] using h.size, fun k hk => (Below.heap_setCell w' ⟨g, j, none⟩ u k (fun e => hk (by rw [e]; exact hg))).trans (h.block k hk)⟩
theorem OnlyV.s {v : Value} {S : Nat → Prop} {w w' : World} (h : OnlyV v w w') (hS : ∀ k, v.ownBlock = some k → S k) : OnlyS S w w' := ⟨h.os, h.tape, h.output, h.size, fun k hk => h.block k fun e => hk (hS k e)⟩
theorem OnlyS.below {S : Nat → Prop} {B : Nat} {w w' : World} (h : OnlyS S w w') (hB : ∀ k, S k → B ≤ k) : Below B w w' :=
  ⟨h.os, h.tape, h.output, by rw [h.size]; exact Nat.le_refl _, fun k hk => h.block k (fun e => by have := hB k e; omega)⟩
theorem wf_small {k : Nat} (h : k ≤ 9223372036854775807) : (Lit.int .i64 (k : Int)).wf = true := by simp [Lit.wf, IntKind.min, IntKind.max, IntKind.signed, IntKind.bits]; omega
theorem markI' (w : World) (B : Nat) (v : Value) (l : List Int) (h : OwnI w B v l) (hn : l.length ≤ 1048576) (z : Int) (k0 : Nat) (hz : z = (k0 : Int)) (hk0 : k0 ≤ 1152921504606846976) :
    Calls Try.prog 54 #[v, .int .i64 z] w fun e w' => e = .returned (.int .i64 ((k0 + l.length : Nat) : Int)) ∧ OwnI w' B v (marks k0 l.length) ∧ OnlyV v w w' := by
  rw [hz]; exact markI w B v l h hn k0 hk0
theorem heldI' (w : World) (B : Nat) (v : Value) (k0 n : Nat) (h : OwnI w B v (marks k0 n)) (hn : n ≤ 1048576) (z : Int) (hz : z = (k0 : Int)) (hk0 : k0 ≤ 1152921504606846976) :
    Calls Try.prog 56 #[v, .int .i64 z] w fun e w' => e = .returned (.int .i64 ((k0 + n : Nat) : Int)) ∧ w = w' := by
  rw [hz]; exact heldI w B v k0 n h hn hk0
theorem fm_set {α : Type} {f : α → List Value} {s : Nat} (hf : ∀ x, (f x).length = s) (l : List α) (k : Nat) (y : α) (hk : k < l.length) (j : Nat) (hj : j < l.length * s) : ((l.set k y).flatMap f)[j]? = if j / s = k then (f y)[j % s]? else (l.flatMap f)[j]? := by
  have hs : 0 < s := by
    rcases Nat.eq_zero_or_pos s with e | e
    · subst e; simp at hj
    · exact e
  have hi : j / s < l.length := by rw [Nat.div_lt_iff_lt_mul hs]; exact hj
  have hm := Nat.mod_lt j hs
  have e : j / s * s + j % s = j := by rw [Nat.mul_comm]; exact Nat.div_add_mod j s
  by_cases h : j / s = k
  · rw [if_pos h]
    have h1 := fm_at hf (l.set k y) (j / s) (j % s) y (by rw [h, List.getElem?_set_self hk]) hm
    rwa [e] at h1
  · rw [if_neg h]
    have hg : l[j / s]? = some l[j / s] := List.getElem?_eq_getElem hi
    have h1 := fm_at hf (l.set k y) (j / s) (j % s) l[j / s] (by rw [List.getElem?_set_ne (fun e => h e.symm)]; exact hg) hm
    have h2 := fm_at hf l (j / s) (j % s) l[j / s] hg hm
    rw [e] at h1 h2
    rw [h1, h2]
def markNd (k : Nat) (x : Nd) : Nd := ⟨((k : Nat) : Int), ⟨((k + 1 : Nat) : Int), ((k + 2 : Nat) : Int), ((k + 3 : Nat) : Int), x.t.LA, x.t.Ln, x.t.Lc, marks (k + 4) x.t.ls.length, x.t.PA, x.t.Pn, x.t.Pc, pmarks (k + 4 + x.t.ls.length) x.t.ps.length⟩⟩
def cntNd (x : Nd) : Nat := 4 + x.t.ls.length + 2 * x.t.ps.length
def markN : Nat → List Nd → List Nd
  | _, [] => []
  | k, x :: r => markNd k x :: markN (k + cntNd x) r
def cntN : List Nd → Nat
  | [] => 0
  | x :: r => cntNd x + cntN r
theorem cntN_snoc (l : List Nd) (x : Nd) : cntN (l ++ [x]) = cntN l + cntNd x := by
  induction l with
  | nil => simp [cntN]
  | cons y r ih => simp only [List.cons_append, cntN, ih]; omega
theorem markN_snoc (l : List Nd) (x : Nd) : ∀ k, markN k (l ++ [x]) = markN k l ++ [markNd (k + cntN l) x] := by
  induction l with
  | nil => intro k; simp [markN, cntN]
  | cons y r ih => intro k; simp only [List.cons_append, markN, cntN, ih]; rw [Nat.add_assoc]
theorem markN_len (l : List Nd) : ∀ k, (markN k l).length = l.length := by
  induction l with
  | nil => intro k; rfl
  | cons y r ih => intro k; simp [markN, ih]
theorem markN_at (l : List Nd) : ∀ (k i : Nat) (x : Nd), l[i]? = some x → (markN k l)[i]? = some (markNd (k + cntN (l.take i)) x) := by
  induction l with
  | nil => intro k i x h; simp at h
  | cons y r ih =>
    intro k i x h
    cases i with
    | zero => simp at h; subst h; simp [markN, cntN]
    | succ i =>
      have h' : r[i]? = some x := by simpa using h
      simp only [markN, List.getElem?_cons_succ, List.take_succ_cons, cntN]
      rw [ih _ i x h', Nat.add_assoc]
/-- Each count of a short list is small. -/
theorem cntN_le {l : List Nd} (h : ∀ x ∈ l, x.t.ls.length ≤ 1048576 ∧ x.t.ps.length ≤ 1048576) : cntN l ≤ l.length * 3145732 := by
  induction l with
  | nil => simp [cntN]
  | cons y r ih =>
    have h1 := ih fun x hx => h x (List.mem_cons_of_mem _ hx)
    have h2 := h y (List.mem_cons_self ..)
    simp only [cntN, cntNd, List.length_cons]
    omega
/-- As far as k, the marks; the rest as it was. -/
theorem markN_step {l : List Nd} {k k0 : Nat} {x : Nd} (h : l[k]? = some x) : (markN k0 (l.take k) ++ l.drop k)[k]? = some x ∧ (markN k0 (l.take k) ++ l.drop k).set k (markNd (k0 + cntN (l.take k)) x) = markN k0 (l.take (k + 1)) ++ l.drop (k + 1) := by
  have hlt : k < l.length := by
    rcases Nat.lt_or_ge k l.length with g | g
    · exact g
    · rw [List.getElem?_eq_none g] at h; cases h
  have hl : (markN k0 (l.take k)).length = k := by rw [markN_len, List.length_take]; omega
  have hd : l.drop k = x :: l.drop (k + 1) := by
    rw [List.drop_eq_getElem_cons hlt]
    rw [List.getElem?_eq_getElem hlt] at h
    rw [Option.some.inj h]
  refine ⟨by rw [List.getElem?_append_right (by omega), hl, hd]; simp, ?_⟩
  rw [hd, List.set_append_right _ _ (by omega), hl, Nat.sub_self, List.set_cons_zero, ptake_at h, markN_snoc, List.append_assoc, List.singleton_append]

theorem OwnN.cells_at {w : World} {B g n c k : Nat} {l : List Nd} {x : Nd} (h : OwnN w B (.slice (some ⟨g, 0, none⟩) n c) l) (hk : l[k]? = some x) : (∀ (j : Nat) (v : Value), (nodeCells x)[j]? = some v → w.cell? ⟨g, k * 6 + j, none⟩ = some v) ∧ ∀ j, w.frozen? ⟨g, j, none⟩ = false := by
  refine ⟨fun j v hv => ?_, fun j => ?_⟩
  · obtain ⟨b, off, e, _, hc⟩ := (h.r.read nodeCells_len).at' k x hk
    injection e with e
    injection e with e1 e2
    subst e1 e2
    have := hc j v hv
    rwa [Nat.zero_add] at this
  · rcases h.r.row with ⟨e, _⟩ | ⟨g', cap, f, e, _, _, _, hrow, _⟩
    · cases e
    · injection e with e _ _
      injection e with e
      injection e with e
      subst e
      exact World.rowIs.frozen hrow j
set_option maxRecDepth 20000 in
/-- One element is marked. -/
theorem OwnN.mark1 {w w5 w6 : World} {B g n c : Nat} {l : List Nd} {k m : Nat} {x : Nd} {u0 : Int} {u1 : Int} {u2 : Int} {u3 : Int} (hu0 : u0 = ((m : Nat) : Int)) (hu1 : u1 = ((m + 1 : Nat) : Int)) (hu2 : u2 = ((m + 2 : Nat) : Int)) (hu3 : u3 = ((m + 3 : Nat) : Int)) (hm : m ≤ 4700000000000000000) (h : OwnN w B (.slice (some ⟨g, 0, none⟩) n c) l) (hk : l[k]? = some x)
    (h5 : OnlyV (.slice x.t.LA x.t.Ln x.t.Lc) (((((w.setCell ⟨g, k * 6, none⟩ (.int .i64 u0)).setCell ⟨g, k * 6 + 1, none⟩ (.int .i64 u1)).setCell ⟨g, k * 6 + 2, none⟩ (.int .i64 u2)).setCell ⟨g, k * 6 + 3, none⟩ (.int .i64 u3))) w5) (hl : OwnI w5 B (.slice x.t.LA x.t.Ln x.t.Lc) (marks (m + 4) x.t.ls.length)) (h6 : OnlyV (.slice x.t.PA x.t.Pn x.t.Pc) w5 w6) (hp : OwnP w6 B (.slice x.t.PA x.t.Pn x.t.Pc) (pmarks (m + 4 + x.t.ls.length) x.t.ps.length)) :
    OwnN w6 B (.slice (some ⟨g, 0, none⟩) n c) (l.set k (markNd m x)) ∧ OnlyS (hasN (.slice (some ⟨g, 0, none⟩) n c) l) w w6 ∧ ∀ b, hasN (.slice (some ⟨g, 0, none⟩) n c) (l.set k (markNd m x)) b → hasN (.slice (some ⟨g, 0, none⟩) n c) l b := by
  have hlt : k < l.length := by
    rcases Nat.lt_or_ge k l.length with q | q
    · exact q
    · rw [List.getElem?_eq_none q] at hk; cases hk
  obtain ⟨hwf, hx⟩ := (⟨trivial, (h.x k x hk).2⟩ : True ∧ WiO w B x.t)
  have hmem : x ∈ l := List.mem_of_getElem? hk
  have a1 : (Value.slice x.t.LA x.t.Ln x.t.Lc).ownBlock ≠ some g := fun e => h.a k x g hk (.inl e) rfl
  have a2 : (Value.slice x.t.PA x.t.Pn x.t.Pc).ownBlock ≠ some g := fun e => h.a k x g hk (.inr e) rfl
  have hoth : ∀ b, b ≠ g → ¬ x.t.has b → w6.heap[b]? = w.heap[b]? := fun b hb hn => by
    rw [h6.block b fun e => hn (.inr e), h5.block b fun e => hn (.inl e)]
    repeat rw [heap_setCell_other _ _ _ _ (by simpa using hb)]
  have hget : ∀ (i : Nat) (y : Nd), (l.set k (markNd m x))[i]? = some y → (i = k ∧ y = markNd m x) ∨ (i ≠ k ∧ l[i]? = some y) := fun i y hy => by
    by_cases e : i = k
    · subst e
      rw [List.getElem?_set_self hlt] at hy
      exact .inl ⟨rfl, (Option.some.inj hy).symm⟩
    · rw [List.getElem?_set_ne (fun e' => e e'.symm)] at hy
      exact .inr ⟨e, hy⟩
  have hhas : ∀ b, (markNd m x).t.has b → x.t.has b := fun b hb => hb
  refine ⟨⟨?_, ?_, ?_, ?_⟩, ?_, ?_⟩
  · rcases h.r.row with ⟨e, _⟩ | ⟨g', cap, f, e, hB, hle, hcap, hrow, hf⟩
    · cases e
    · injection e with e1 e2 e3
      injection e1 with e1
      injection e1 with e1
      subst e1 e2 e3
      have hr6 := World.rowIs.of_block (World.rowIs.of_block (World.rowIs.set (World.rowIs.set (World.rowIs.set (World.rowIs.set hrow (k * 6) (.int .i64 u0)) (k * 6 + 1) (.int .i64 u1)) (k * 6 + 2) (.int .i64 u2)) (k * 6 + 3) (.int .i64 u3)) (h5.block g a1)) (h6.block g a2)
      refine OwnG.of_row nodeCells_len hB (by simp) hle hcap hr6 fun j hj => ?_
      rw [fm_set nodeCells_len l k _ hlt j hj]
      by_cases e : j / 6 = k
      · obtain ⟨r, hr, rfl⟩ : ∃ r, r < 6 ∧ j = k * 6 + r := ⟨j % 6, Nat.mod_lt _ (by decide), by omega⟩
        rw [if_pos e, show (k * 6 + r) % 6 = r by omega]
        have hold := hf _ hj
        rw [fm_at nodeCells_len l k r x hk hr] at hold
        have hr' : r = 0 ∨ r = 1 ∨ r = 2 ∨ r = 3 ∨ r = 4 ∨ r = 5 := by omega
        rcases hr' with rfl | rfl | rfl | rfl | rfl | rfl
        · rw [if_neg (by omega), if_neg (by omega), if_neg (by omega), if_pos (by omega)]; exact (congrArg some (congrArg (Value.int .i64) hu0)).symm
        · rw [if_neg (by omega), if_neg (by omega), if_pos rfl]; exact (congrArg some (congrArg (Value.int .i64) hu1)).symm
        · rw [if_neg (by omega), if_pos rfl]; exact (congrArg some (congrArg (Value.int .i64) hu2)).symm
        · rw [if_pos rfl]; exact (congrArg some (congrArg (Value.int .i64) hu3)).symm
        · rw [if_neg (by omega), if_neg (by omega), if_neg (by omega), if_neg (by omega)]
          exact hold
        · rw [if_neg (by omega), if_neg (by omega), if_neg (by omega), if_neg (by omega)]
          exact hold
      · rw [if_neg e, hf j hj]
        congr 1
        have hj' : ¬ (k * 6 ≤ j ∧ j < k * 6 + 6) := by omega
        rw [if_neg (by omega), if_neg (by omega), if_neg (by omega), if_neg (by omega)]
  · intro i y hy
    rcases hget i y hy with ⟨rfl, rfl⟩ | ⟨hne, hy⟩
    · exact ⟨wf_small (by omega), ⟨wf_small (by omega), wf_small (by omega), wf_small (by omega), ownI_blocks hl (fun b hb => h6.block b (hx.a b hb)), hp, hx.a⟩⟩
    · obtain ⟨q1, q2⟩ := h.x i y hy
      refine ⟨q1, q2.blocks fun b hb => hoth b (fun e => h.a i y b hy hb (by rw [e]; rfl)) fun hb' => ?_⟩
      rcases Nat.lt_or_gt_of_ne hne with q | q
      · exact h.d i k y x b q hy hk hb hb'
      · exact h.d k i x y b q hk hy hb' hb
  · intro i y b hy hb
    rcases hget i y hy with ⟨rfl, rfl⟩ | ⟨hne, hy⟩
    · exact h.a i x b hk (hhas b hb)
    · exact h.a i y b hy hb
  · intro i j y z b hij hy hz hb hb'
    rcases hget i y hy with ⟨ei, rfl⟩ | ⟨_, hy2⟩ <;> rcases hget j z hz with ⟨ej, rfl⟩ | ⟨_, hz2⟩
    · omega
    · exact h.d i j x z b hij (by rw [ei]; exact hk) hz2 (hhas b hb) hb'
    · exact h.d i j y x b hij hy2 (by rw [ej]; exact hk) hb (hhas b hb')
    · exact h.d i j y z b hij hy2 hz2 hb hb'
  · have hs : ∀ b, x.t.has b → hasN (.slice (some ⟨g, 0, none⟩) n c) l b := fun b hb => .inr ⟨x, hmem, hb⟩
    exact ((((((OnlyS.refl _ w).set (.inl rfl) _ _).set (.inl rfl) _ _).set (.inl rfl) _ _).set (.inl rfl) _ _).trans (h5.s fun b hb => hs b (.inl hb))).trans (h6.s fun b hb => hs b (.inr hb))
  · intro b hb
    rcases hb with hb | ⟨y, hy, hb⟩
    · exact .inl hb
    · obtain ⟨i, hi, rfl⟩ := List.getElem_of_mem hy
      rcases hget i _ (List.getElem?_eq_getElem hi) with ⟨_, e⟩ | ⟨_, hy'⟩
      · rw [e] at hb
        exact .inr ⟨x, hmem, hhas b hb⟩
      · exact .inr ⟨_, List.mem_of_getElem? hy', hb⟩
set_option maxRecDepth 20000 in
set_option maxHeartbeats 1600000 in
theorem markNodeS_c (w : World) (B : Nat) (v : Value) (ns : List Nd) (h : OwnN w B v ns) (hn : ns.length ≤ 1048576) (hN : ∀ x ∈ ns, x.t.ls.length ≤ 1048576 ∧ x.t.ps.length ≤ 1048576) (k0 : Nat) (hk0 : k0 ≤ 1125899906842624) :
    Calls Try.prog 15 #[v, .int .i64 k0] w fun e w' => e = .returned (.int .i64 ((k0 + cntN ns : Nat) : Int)) ∧ OwnN w' B v (markN k0 ns) ∧ OnlyS (hasN v ns) w w' := by
  rcases h.r.row with ⟨rfl, rfl⟩ | ⟨g, cap, f, rfl, hB, hle, hcap, hrow, hf⟩
  · go_enter Try.func15, Try.ntmps15
    go_wp2
    go_loopw [1, 5] (fun m i wr => i = .int .i64 0 ∧ m = .int .i64 k0 ∧ wr = w) (fun _ _ _ => 0)
    case atStart => exact ⟨rfl, rfl, rfl⟩
    case round =>
      obtain ⟨rfl, rfl, rfl⟩ := hrel
      go_wp2
      go_ret
      exact ⟨rfl, h, OnlyS.refl _ _⟩
  · obtain ⟨n, hn'⟩ : ∃ n, n = ns.length := ⟨_, rfl⟩
    rw [← hn'] at hn hle ⊢
    rw [← hn'] at h
    have HX := Lib.hid h
    have HN := Lib.hid hN
    have HLen := Lib.hid hn'
    have hcap' : cap ≤ 9223372036854775807 := by unfold maxLen at hcap; omega
    clear h hrow hf hN hn' hcap
    go_enter Try.func15, Try.ntmps15
    go_wp2
    go_loopw [1, 5] (fun m i wr => ∃ k : Nat, k ≤ n ∧ i = .int .i64 k ∧ m = .int .i64 ((k0 + cntN (ns.take k) : Nat) : Int) ∧ OwnN wr B (.slice (some ⟨g, 0, none⟩) n cap) (markN k0 (ns.take k) ++ ns.drop k) ∧ OnlyS (hasN (.slice (some ⟨g, 0, none⟩) n cap) ns) w wr ∧ ∀ b, hasN (.slice (some ⟨g, 0, none⟩) n cap) (markN k0 (ns.take k) ++ ns.drop k) b → hasN (.slice (some ⟨g, 0, none⟩) n cap) ns b) (fun _ i _ => n - (intOf i).toNat)
    case atStart => exact ⟨0, Nat.zero_le _, rfl, rfl, by simpa [markN] using HX.out, OnlyS.refl _ _, by simp [markN]⟩
    case round =>
      obtain ⟨k, hk, rfl, rfl, hown, honly, hsub⟩ := hrel
      have HR := Lib.hid hown
      have HO := Lib.hid honly
      have HSub := Lib.hid hsub
      have hcnt : cntN (ns.take k) ≤ k * 3145732 := by
        have := cntN_le (l := ns.take k) fun x hx => HN.out x (List.mem_of_mem_take hx)
        rw [List.length_take] at this
        have h2 : min k ns.length * 3145732 ≤ k * 3145732 := Nat.mul_le_mul_right _ (Nat.min_le_left _ _)
        exact Nat.le_trans this h2
      by_cases hlt : k < n
      · obtain ⟨x, hat⟩ : ∃ x, ns[k]? = some x := ⟨_, List.getElem?_eq_getElem (by rw [← HLen.out]; exact hlt)⟩
        obtain ⟨hst1, hst2⟩ := markN_step (k0 := k0) hat
        obtain ⟨hc, hz⟩ := hown.cells_at hst1
        obtain ⟨hl, hp⟩ := HN.out x (List.mem_of_getElem? hat)
        have hwio : WiO wr B x.t := (hown.x k x hst1).2
        have e0 : wr.cell? ⟨g, k * 6, none⟩ = some (.int .i64 x.op) := hc 0 _ rfl
        have e1 := hc 1 _ rfl
        have e2 := hc 2 _ rfl
        have e3 := hc 3 _ rfl
        have e4 := hc 4 _ rfl
        have e5 := hc 5 _ rfl
        have f0 := hz (k * 6)
        have f1 := hz (k * 6 + 1)
        have f2 := hz (k * 6 + 2)
        have f3 := hz (k * 6 + 3)
        have HST1 := Lib.hid hst1
        have HST2 := Lib.hid hst2
        have HCnt : Hid (cntN (ns.take (k + 1)) = cntN (ns.take k) + cntNd x) := Lib.hid (by rw [ptake_at hat, cntN_snoc])
        have HA1 : Hid ((Value.slice x.t.LA x.t.Ln x.t.Lc).ownBlock ≠ some g) := Lib.hid fun e => hown.a k x g hst1 (.inl e) rfl
        have HA2 : Hid ((Value.slice x.t.PA x.t.Pn x.t.Pc).ownBlock ≠ some g) := Lib.hid fun e => hown.a k x g hst1 (.inr e) rfl
        have HWo := Lib.hid hwio
        have HLp := Lib.hid (And.intro hl hp)
        obtain ⟨m, hm⟩ : ∃ m : Nat, m = k0 + cntN (ns.take k) := ⟨_, rfl⟩
        rw [← hm]
        have hm1 : m ≤ 1200000000000000 := by omega
        have HM := Lib.hid hm
        clear hown honly hsub hm hst1 hst2 hc hz hl hp hwio hcnt hat
        go_wp2_with fail
        refine (markI' _ B _ x.t.ls (ownI_blocks HWo.out.l fun b hb => by
          have hne : b ≠ g := fun e => HA1.out (by rw [← e]; exact hb)
          repeat rw [heap_setCell_other _ _ _ _ (by simpa using hne)]) HLp.out.1 _ (m + 4) (by omega) (by omega)).mono ?_
        rintro e w5 ⟨rfl, hm5, h5⟩
        have HM5 := Lib.hid hm5
        have H5 := Lib.hid h5
        have e5 := (World.cell?_of_block (a := ⟨g, k * 6 + 5, none⟩) (h5.block g HA1.out)).trans (((World.cell?_setCell_other _ _ _ _ (by simp)).trans ((World.cell?_setCell_other _ _ _ _ (by simp)).trans ((World.cell?_setCell_other _ _ _ _ (by simp)).trans (World.cell?_setCell_other _ _ _ _ (by simp))))).trans e5)
        have HP5 : Hid (OwnP w5 B (.slice x.t.PA x.t.Pn x.t.Pc) x.t.ps) := Lib.hid (HWo.out.p.blocks fun b hb => by
          have hne : b ≠ g := fun e => HA2.out (by rw [← e]; exact hb)
          rw [h5.block b fun e => HWo.out.a b e hb]
          repeat rw [heap_setCell_other _ _ _ _ (by simpa using hne)])
        clear hm5 h5 e0 e1 e2 e3 e4 f0 f1 f2 f3
        go_wp2_with fail
        refine (markP w5 B _ x.t.ps HP5.out HLp.out.2 (m + 4 + x.t.ls.length) (by have := HLp.out.1; omega)).mono ?_
        rintro e w6 ⟨rfl, hm6, h6⟩
        have HS := Lib.hid (OwnN.mark1 (by omega) (by omega) (by omega) (by omega) (Nat.le_trans hm1 (by decide)) HR.out HST1.out H5.out HM5.out h6 hm6)
        clear hm6 h6 e5
        go_wp2
        go_roundw
        case rel =>
          obtain ⟨s1, s2, s3⟩ := HS.out
          have e1 := HM.out
          refine ⟨k + 1, by omega, by go_num, ?_, ?_, ?_, ?_⟩
          · rw [HCnt.out]; congr 2; unfold cntNd; omega
          · rw [← HST2.out, ← e1]; exact s1
          · exact HO.out.trans (s2.sub HSub.out)
          · rw [← HST2.out, ← e1]; exact fun b hb => HSub.out b (s3 b hb)
        case measure => simp [intOf]; omega
      · obtain rfl : k = n := by omega
        have ht : ns.take k = ns := List.take_of_length_le (by rw [← HLen.out]; exact Nat.le_refl _)
        have hd : ns.drop k = [] := List.drop_eq_nil_of_le (by rw [← HLen.out]; exact Nat.le_refl _)
        rw [ht]
        have HR2 : Hid (OwnN wr B (.slice (some ⟨g, 0, none⟩) k cap) (markN k0 ns)) := Lib.hid (by have := HR.out; rwa [ht, hd, List.append_nil] at this)
        clear hown honly hsub ht hd
        obtain ⟨m, hm⟩ : ∃ m : Nat, m = k0 + cntN ns := ⟨_, rfl⟩
        rw [← hm]
        have HM := Lib.hid hm
        clear hm hcnt
        go_wp2
        go_ret
        exact ⟨by show Ending.returned (.int .i64 (m : Int)) = _; rw [HM.out], HR2.out, HO.out⟩
set_option maxRecDepth 20000 in
set_option maxHeartbeats 1600000 in
theorem heldNodeS_c (w : World) (B : Nat) (v : Value) (ns : List Nd) (k0 : Nat) (h : OwnN w B v (markN k0 ns)) (hn : ns.length ≤ 1048576) (hN : ∀ x ∈ ns, x.t.ls.length ≤ 1048576 ∧ x.t.ps.length ≤ 1048576) (hk0 : k0 ≤ 1125899906842624) :
    Calls Try.prog 16 #[v, .int .i64 k0] w fun e w' => e = .returned (.int .i64 ((k0 + cntN ns : Nat) : Int)) ∧ w = w' := by
  rcases h.r.row with ⟨rfl, h0⟩ | ⟨g, cap, f, rfl, hB, hle, hcap, hrow, hf⟩
  · obtain rfl : ns = [] := by
      have := congrArg List.length h0
      rw [markN_len] at this
      exact List.eq_nil_of_length_eq_zero this
    go_enter Try.func16, Try.ntmps16
    go_wp2
    go_loopw [1, 5] (fun m i wr => i = .int .i64 0 ∧ m = .int .i64 k0 ∧ wr = w) (fun _ _ _ => 0)
    case atStart => exact ⟨rfl, rfl, rfl⟩
    case round =>
      obtain ⟨rfl, rfl, rfl⟩ := hrel
      go_wp2
      go_ret
      exact ⟨rfl, rfl⟩
  · obtain ⟨n, hn'⟩ : ∃ n, n = ns.length := ⟨_, rfl⟩
    rw [markN_len, ← hn'] at hle h
    rw [← hn'] at hn
    rw [markN_len, ← hn']
    have HX := Lib.hid h
    have HN := Lib.hid hN
    have HLen := Lib.hid hn'
    have hcap' : cap ≤ 9223372036854775807 := by unfold maxLen at hcap; omega
    clear h hrow hf hN hn' hcap
    go_enter Try.func16, Try.ntmps16
    go_wp2
    go_loopw [1, 5] (fun m i wr => ∃ k : Nat, k ≤ n ∧ i = .int .i64 k ∧ m = .int .i64 ((k0 + cntN (ns.take k) : Nat) : Int) ∧ wr = w) (fun _ i _ => n - (intOf i).toNat)
    case atStart => exact ⟨0, Nat.zero_le _, rfl, rfl, rfl⟩
    case round =>
      obtain ⟨k, hk, rfl, rfl, rfl⟩ := hrel
      have hcnt : cntN (ns.take k) ≤ k * 3145732 := by
        have := cntN_le (l := ns.take k) fun x hx => HN.out x (List.mem_of_mem_take hx)
        rw [List.length_take] at this
        have h2 : min k ns.length * 3145732 ≤ k * 3145732 := Nat.mul_le_mul_right _ (Nat.min_le_left _ _)
        exact Nat.le_trans this h2
      by_cases hlt : k < n
      · obtain ⟨x, hat⟩ : ∃ x, ns[k]? = some x := ⟨_, List.getElem?_eq_getElem (by rw [← HLen.out]; exact hlt)⟩
        have hst1 := markN_at ns k0 k x hat
        obtain ⟨hc, -⟩ := HX.out.cells_at hst1
        obtain ⟨hl, hp⟩ := HN.out x (List.mem_of_getElem? hat)
        have hwio : WiO wr B (markNd (k0 + cntN (ns.take k)) x).t := (HX.out.x k _ hst1).2
        have HCnt : Hid (cntN (ns.take (k + 1)) = cntN (ns.take k) + cntNd x) := Lib.hid (by rw [ptake_at hat, cntN_snoc])
        obtain ⟨m, hm⟩ : ∃ m : Nat, m = k0 + cntN (ns.take k) := ⟨_, rfl⟩
        rw [← hm] at hc hwio ⊢
        have hm1 : m ≤ 1200000000000000 := by omega
        have e0 : wr.cell? ⟨g, k * 6, none⟩ = some (.int .i64 ((m : Nat) : Int)) := hc 0 _ rfl
        have e1 : wr.cell? ⟨g, k * 6 + 1, none⟩ = some (.int .i64 ((m + 1 : Nat) : Int)) := hc 1 _ rfl
        have e2 : wr.cell? ⟨g, k * 6 + 2, none⟩ = some (.int .i64 ((m + 2 : Nat) : Int)) := hc 2 _ rfl
        have e3 : wr.cell? ⟨g, k * 6 + 3, none⟩ = some (.int .i64 ((m + 3 : Nat) : Int)) := hc 3 _ rfl
        have e4 : wr.cell? ⟨g, k * 6 + 4, none⟩ = some (.slice x.t.LA x.t.Ln x.t.Lc) := hc 4 _ rfl
        have e5 : wr.cell? ⟨g, k * 6 + 5, none⟩ = some (.slice x.t.PA x.t.Pn x.t.Pc) := hc 5 _ rfl
        have HLi : Hid (OwnI wr B (.slice x.t.LA x.t.Ln x.t.Lc) (marks (m + 4) x.t.ls.length)) := Lib.hid hwio.l
        have HPi : Hid (OwnP wr B (.slice x.t.PA x.t.Pn x.t.Pc) (pmarks (m + 4 + x.t.ls.length) x.t.ps.length)) := Lib.hid hwio.p
        have HLp := Lib.hid (And.intro hl hp)
        have HM := Lib.hid hm
        clear hm hst1 hc hl hp hwio hcnt hat
        go_wp2_with fail
        refine (heldI' wr B _ (m + 4) x.t.ls.length HLi.out HLp.out.1 _ (by omega) (by omega)).mono ?_
        rintro e w5 ⟨rfl, rfl⟩
        have d1 : decide (((m + 4 + x.t.ls.length : Nat) : Int) < 0) = false := by simp; omega
        go_wp2_with fail
        refine (heldP wr B _ (m + 4 + x.t.ls.length) x.t.ps.length HPi.out HLp.out.2 (by have := HLp.out.1; omega)).mono ?_
        rintro e w6 ⟨rfl, rfl⟩
        have d2 : decide (((m + 4 + x.t.ls.length + 2 * x.t.ps.length : Nat) : Int) < 0) = false := by simp; omega
        go_wp2
        go_roundw
        case rel =>
          have e1 := HM.out
          refine ⟨k + 1, by omega, by go_num, ?_, by first | rfl | trivial⟩
          rw [HCnt.out]; congr 2; unfold cntNd; omega
        case measure => simp [intOf]; omega
      · obtain rfl : k = n := by omega
        have ht : ns.take k = ns := List.take_of_length_le (by rw [← HLen.out]; exact Nat.le_refl _)
        rw [ht]
        obtain ⟨m, hm⟩ : ∃ m : Nat, m = k0 + cntN ns := ⟨_, rfl⟩
        rw [← hm]
        have HM := Lib.hid hm
        clear hm ht hcnt
        go_wp2
        go_ret
        exact ⟨by show Ending.returned (.int .i64 (m : Int)) = _; rw [HM.out], rfl⟩
end Go.Proofs.Ytaijajajpnekbaa.num
namespace Go.Proofs.Ytaijajajpnekbaa.num
set_option maxRecDepth 20000
open Go.RowKit
set_option linter.unusedVariables false
set_option linter.unusedSimpArgs false

def wishCells (x : Wi) : List Value := [.int .i64 x.kind, .int .i64 x.field, .int .i64 x.value, .slice x.LA x.Ln x.Lc, .slice x.PA x.Pn x.Pc]
theorem wishCells_len (x : Wi) : (wishCells x).length = 5 := rfl
theorem wishCells_one (x : Wi) : ∀ u ∈ wishCells x, u.oneCell' = true := by
  intro u hu
  simp only [wishCells, List.mem_cons, List.not_mem_nil, or_false] at hu
  rcases hu with rfl | rfl | rfl | rfl | rfl <;> rfl
/-- A slice of wishes that reads as ns, below block B. -/
structure Wishes (w : World) (B : Nat) (A : Option Addr) (n : Nat) (ns : List Wi) : Prop where
  r : ReadG wishCells 5 w B A n ns
  x : ∀ x ∈ ns, WiIn w B x
theorem Wishes.below {w w' : World} {B : Nat} {A : Option Addr} {n : Nat} {ns : List Wi} (h : Wishes w B A n ns) (hb : Below B w w') : Wishes w' B A n ns := ⟨h.r.below hb, fun x hx => (h.x x hx).below hb⟩
theorem Wishes.more {w : World} {B B' : Nat} {A : Option Addr} {n : Nat} {ns : List Wi} (h : Wishes w B A n ns) (hB : B ≤ B') : Wishes w B' A n ns := ⟨h.r.more hB, fun x hx => (h.x x hx).more hB⟩
theorem Wishes.step {w w' : World} {A : Option Addr} {n : Nat} {ns : List Wi} (h : Wishes w w.heap.size A n ns) (hb : Below w.heap.size w w') : Wishes w' w'.heap.size A n ns := (h.below hb).more hb.size
theorem Wishes.len {w : World} {B : Nat} {A : Option Addr} {n : Nat} {ns : List Wi} (h : Wishes w B A n ns) : ns.length = n := h.r.len
theorem Wishes.nil (w : World) (B : Nat) (A : Option Addr) : Wishes w B A 0 [] := ⟨.nil _ _ _, by simp⟩
theorem Wishes.at {w : World} {B : Nat} {A : Option Addr} {n : Nat} {ns : List Wi} (h : Wishes w B A n ns) (k : Nat) (hk : k < n) :
    ∃ (b off : Nat) (x : Wi), A = some ⟨b, off, none⟩ ∧ b < B ∧ ns[k]? = some x ∧ WiIn w B x ∧ w.cell? ⟨b, off + k * 5, none⟩ = some (.int .i64 x.kind) ∧ w.cell? ⟨b, off + k * 5 + 1, none⟩ = some (.int .i64 x.field) ∧
      w.cell? ⟨b, off + k * 5 + 2, none⟩ = some (.int .i64 x.value) ∧ w.cell? ⟨b, off + k * 5 + 3, none⟩ = some (.slice x.LA x.Ln x.Lc) ∧ w.cell? ⟨b, off + k * 5 + 4, none⟩ = some (.slice x.PA x.Pn x.Pc) := by
  obtain ⟨x, hx⟩ := h.r.get hk
  obtain ⟨b, off, h1, h2, h3⟩ := h.r.at' k x hx
  exact ⟨b, off, x, h1, h2, hx, h.x x (List.mem_of_getElem? hx), h3 0 _ rfl, h3 1 _ rfl, h3 2 _ rfl, h3 3 _ rfl, h3 4 _ rfl⟩
def ShortWs (ns : List Wi) : Prop := ∀ x ∈ ns, x.Short
def datWs (ns : List Wi) : List WD := ns.map Wi.dat

/-- The slice of wishes v and all that its wishes hold are the call's own, apart from one another. -/
structure OwnWs (w : World) (B : Nat) (v : Value) (ns : List Wi) : Prop where
  r : OwnG 75 wishCells 5 w B v ns
  x : ∀ (k : Nat) (x : Wi), ns[k]? = some x → WiO w B x
  a : ∀ (k : Nat) (x : Wi) (b : Nat), ns[k]? = some x → x.has b → v.ownBlock ≠ some b
  d : ∀ (i j : Nat) (x y : Wi) (b : Nat), i < j → ns[i]? = some x → ns[j]? = some y → x.has b → ¬ y.has b
/-- The blocks of the slice v and of its wishes. -/
def hasWs (v : Value) (ns : List Wi) (b : Nat) : Prop := v.ownBlock = some b ∨ ∃ x ∈ ns, x.has b
theorem OwnWs.has_in {w : World} {B : Nat} {v : Value} {ns : List Wi} (h : OwnWs w B v ns) {b : Nat} (hb : hasWs v ns b) : B ≤ b ∧ b < w.heap.size := by
  rcases hb with hb | ⟨x, hx, hb⟩
  · exact ⟨h.r.lows b hb, h.r.tops b hb⟩
  · obtain ⟨k, hk, rfl⟩ := List.getElem_of_mem hx
    exact (h.x k _ (List.getElem?_eq_getElem hk)).has_in hb
theorem OwnWs.blocks {w w' : World} {B : Nat} {v : Value} {ns : List Wi} (h : OwnWs w B v ns) (hb : ∀ b, hasWs v ns b → w'.heap[b]? = w.heap[b]?) : OwnWs w' B v ns :=
  ⟨h.r.blocks fun k hk => hb k (.inl hk), fun k x hk => (h.x k x hk).blocks fun b hb' => hb b (.inr ⟨x, List.mem_of_getElem? hk, hb'⟩), h.a, h.d⟩
theorem OwnWs.below {w w' : World} {B : Nat} {v : Value} {ns : List Wi} (h : OwnWs w B v ns) (hb : Below w.heap.size w w') : OwnWs w' B v ns := h.blocks fun b k => hb.block b (h.has_in k).2
theorem OwnWs.low {w : World} {B B' : Nat} {v : Value} {ns : List Wi} (h : OwnWs w B v ns) (hB : B' ≤ B) : OwnWs w B' v ns := ⟨h.r.low hB, fun k x hk => (h.x k x hk).low hB, h.a, h.d⟩
theorem OwnWs.wishes {w : World} {B : Nat} {A : Option Addr} {n c : Nat} {ns : List Wi} (h : OwnWs w B (.slice A n c) ns) : Wishes w w.heap.size A n ns :=
  ⟨h.r.read wishCells_len, fun x hx => by
    obtain ⟨k, hk, rfl⟩ := List.getElem_of_mem hx
    exact (h.x k _ (List.getElem?_eq_getElem hk)).wi⟩
theorem OwnWs.nil (w : World) (B : Nat) : OwnWs w B (.slice none 0 0) [] := ⟨.nil _ _, by simp, by simp, by simp⟩

theorem ne_wi {l l' : List Wi} {k : Nat} {t t' : Wi} (h1 : l[k]? = some t) (h2 : l'[k]? = some t') (h : t.dat ≠ t'.dat) : l.map Wi.dat ≠ l'.map Wi.dat := fun e => h (by
  have := congrArg (·[k]?) e
  simpa [h1, h2] using this)
/-- append of one element to a slice of the call's own: the new slice lies in the old one's row or in a new block. -/
theorem wp_appG {α : Type} {f : α → List Value} {s : Nat} (hf : ∀ x, (f x).length = s) (h1 : ∀ x, ∀ u ∈ f x, u.oneCell' = true) {T tS : TypeId} {z : Value} {bytes : Nat} (ht : Try.prog.underlying tS = some (.slice T)) (hinf : (Try.prog.info? T).map (fun i => (i.zero, i.size, i.bytes)) = some (some z, s, bytes)) (hzs : z.cells.size = s) (hs0 : 0 < s)
    {ops : Array Oper} {rest : List Oper} {o : Oper} {a : Act} {Q : Exit → Act → World → Prop} (w : World) (hgd : o.guard = none) (sl x : Operand)
    (ho : o.op = .call { callee := .builtin .append, args := #[sl, x], argTypes := #[tS, tS] })
    (B : Nat) (v : Value) (l : List α) (hs : a.eval sl = v) (hown : OwnG T f s w B v l) (cs : Array Value) (y : α) (hcs : cs = (f y).toArray) (c : Nat)
    (N : Nat) (hNw : w.heap.size = N) (hx : a.eval x = .slice (some ⟨N, 0, none⟩) 1 c) (hlen : (l.length + 1) * bytes ≤ 140737488355328) (hbt : 0 < bytes) (hB : B ≤ w.heap.size)
    (h : ∀ v' w', OwnG T f s w' B v' (l ++ [y]) → w.grownBy w' v.ownBlock → (v'.ownBlock = v.ownBlock ∨ v'.ownBlock = some (w.heap.size + 1)) → wpList Try.prog ops Q rest (a.put o.dst v') w') :
    wpList Try.prog ops Q (o :: rest) a (w.alloc (.cells cs T)) := by
  obtain ⟨i0, hi, hz⟩ := Option.map_eq_some_iff.1 hinf
  simp only [Prod.mk.injEq] at hz
  obtain ⟨hz0, hz1, hz2⟩ := hz
  have hm : l.length + 1 ≤ 140737488355328 := Nat.le_trans (Nat.le_mul_of_pos_right _ hbt) hlen
  subst hcs hNw
  refine wpList_append_own_at _ hgd sl x tS ho B T i0 z s bytes ht hi hz0 hz1 hz2 hzs hs0 v l.length (l.flatMap f) hs (World.ownsRow.alloc hown _) ⟨w.heap.size, 0, none⟩ 1 c (f y) hx (by rw [hf, Nat.one_mul]) ?_ (h1 y) (by unfold maxLen; omega) hlen (by simp; omega) ?_
  · intro j u hj
    have e : (⟨w.heap.size, 0, none⟩ : Addr).add j = ⟨w.heap.size, j, none⟩ := by unfold Addr.add; split <;> simp_all
    rw [e, World.cell?_alloc_at _ _ _ _ rfl]
    simpa using hj
  · intro v' w' hown' hg _ hat
    refine h v' w' ?_ ⟨hg.os, hg.tape, hg.output, Nat.le_trans (by simp) hg.size, fun k hk hv => (hg.block k (by simp; omega) hv).trans (Below.heap_alloc _ _ _ hk)⟩ (by simpa using hat)
    unfold OwnG
    rw [List.length_append, List.length_singleton, List.flatMap_append, List.flatMap_singleton]
    exact hown'
theorem OwnWs.snoc {w w' : World} {B : Nat} {v v' : Value} {ns : List Wi} {x : Wi} (h : OwnWs w B v ns) (hg : w.grownBy w' v.ownBlock) (hat : v'.ownBlock = v.ownBlock ∨ v'.ownBlock = some (w.heap.size + 1)) (hr : OwnG 75 wishCells 5 w' B v' (ns ++ [x])) (hx : WiO w B x) (hap : ∀ b, x.has b → ¬ hasWs v ns b) : OwnWs w' B v' (ns ++ [x]) := by
  have hin : ∀ (i : Nat) (y : Wi) (b : Nat), ns[i]? = some y → y.has b → hasWs v ns b := fun i y b hy hb => .inr ⟨y, List.mem_of_getElem? hy, hb⟩
  have hnb : ∀ b, x.has b → some b ≠ v.ownBlock := fun b hb e => hap b hb (.inl e.symm)
  refine ⟨hr, ?_, ?_, ?_⟩
  · intro i y hy
    rcases get_snoc rfl hy with ⟨_, hy⟩ | ⟨_, rfl⟩
    · exact (h.x i y hy).blocks fun b hb => hg.block b ((h.x i y hy).has_in hb).2 fun e => h.a i y b hy hb e.symm
    · exact hx.blocks fun b hb => hg.block b (hx.has_in hb).2 (hnb b hb)
  · intro i y b hy hb e
    rcases get_snoc rfl hy with ⟨_, hy⟩ | ⟨_, rfl⟩
    · rcases hat with q | q
      · exact h.a i y b hy hb (q ▸ e)
      · have h2 := (h.has_in (hin i y b hy hb)).2
        rw [q] at e
        have := Option.some.inj e
        omega
    · rcases hat with q | q
      · exact hnb b hb (q ▸ e).symm
      · have h2 := (hx.has_in hb).2
        rw [q] at e
        have := Option.some.inj e
        omega
  · intro i j y z b hij hy hz hb hb'
    rcases get_snoc rfl hz with ⟨hj, hz⟩ | ⟨hj, rfl⟩
    · rcases get_snoc rfl hy with ⟨_, hy⟩ | ⟨hi, _⟩
      · exact h.d i j y z b hij hy hz hb hb'
      · omega
    · rcases get_snoc rfl hy with ⟨_, hy⟩ | ⟨hi, _⟩
      · exact hap b hb' (hin i y b hy hb)
      · omega
theorem OwnN.snoc {w w' : World} {B : Nat} {v v' : Value} {ns : List Nd} {x : Nd} (h : OwnN w B v ns) (hg : w.grownBy w' v.ownBlock) (hat : v'.ownBlock = v.ownBlock ∨ v'.ownBlock = some (w.heap.size + 1)) (hr : OwnG 77 nodeCells 6 w' B v' (ns ++ [x])) (hwf : (Lit.int .i64 x.op).wf = true) (hx : WiO w B x.t) (hap : ∀ b, x.t.has b → ¬ hasN v ns b) : OwnN w' B v' (ns ++ [x]) := by
  have hin : ∀ (i : Nat) (y : Nd) (b : Nat), ns[i]? = some y → y.t.has b → hasN v ns b := fun i y b hy hb => .inr ⟨y, List.mem_of_getElem? hy, hb⟩
  have hnb : ∀ b, x.t.has b → some b ≠ v.ownBlock := fun b hb e => hap b hb (.inl e.symm)
  refine ⟨hr, ?_, ?_, ?_⟩
  · intro i y hy
    rcases get_snoc rfl hy with ⟨_, hy⟩ | ⟨_, rfl⟩
    · exact ⟨(h.x i y hy).1, (h.x i y hy).2.blocks fun b hb => hg.block b ((h.x i y hy).2.has_in hb).2 fun e => h.a i y b hy hb e.symm⟩
    · exact ⟨hwf, hx.blocks fun b hb => hg.block b (hx.has_in hb).2 (hnb b hb)⟩
  · intro i y b hy hb e
    rcases get_snoc rfl hy with ⟨_, hy⟩ | ⟨_, rfl⟩
    · rcases hat with q | q
      · exact h.a i y b hy hb (q ▸ e)
      · have h2 := (h.has_in (hin i y b hy hb)).2
        rw [q] at e
        have := Option.some.inj e
        omega
    · rcases hat with q | q
      · exact hnb b hb (q ▸ e).symm
      · have h2 := (hx.has_in hb).2
        rw [q] at e
        have := Option.some.inj e
        omega
  · intro i j y z b hij hy hz hb hb'
    rcases get_snoc rfl hz with ⟨hj, hz⟩ | ⟨hj, rfl⟩
    · rcases get_snoc rfl hy with ⟨_, hy⟩ | ⟨hi, _⟩
      · exact h.d i j y z b hij hy hz hb hb'
      · omega
    · rcases get_snoc rfl hy with ⟨_, hy⟩ | ⟨hi, _⟩
      · exact hap b hb' (hin i y b hy hb)
      · omega
end Go.Proofs.Ytaijajajpnekbaa.num
namespace Go.Proofs.Ytaijajajpnekbaa.num
set_option maxRecDepth 20000
open Go.RowKit
set_option linter.unusedVariables false
set_option linter.unusedSimpArgs false

theorem ownP_shapeW {w : World} {B : Nat} {v : Value} {l : List (Int × Int)} (h : OwnP w B v l) : ∃ A n c, v = .slice A n c := by
  rcases h.2 with ⟨rfl, _⟩ | ⟨g, cap, cur, rfl, _⟩
  · exact ⟨_, _, _, rfl⟩
  · exact ⟨_, _, _, rfl⟩
/-- What the copy hands back. -/
theorem wishcp_end {w wb : World} {t : Wi} {LA' PA' : Option Addr} {Ln' Lc' Pn' Pc' : Nat} {u0 u1 u2 u3 u4 : Value} (hwf : ((Lit.int .i64 t.kind).wf = true ∧ (Lit.int .i64 t.field).wf = true ∧ (Lit.int .i64 t.value).wf = true) ∧ t.ls.length ≤ 1048576 ∧ t.ps.length ≤ 1048576)
    (hl : OwnI wb (w.heap.size + 2) (.slice LA' Ln' Lc') t.ls) (hp : OwnP wb (w.heap.size + 2) (.slice PA' Pn' Pc') t.ps) (ha : ∀ b, (Value.slice LA' Ln' Lc').ownBlock = some b → (Value.slice PA' Pn' Pc').ownBlock ≠ some b) (hb : Below w.heap.size w wb) :
    ∃ t' : Wi, Ending.returned (.agg #[.int .i64 t.kind, .int .i64 t.field, .int .i64 t.value, .slice LA' Ln' Lc', .slice PA' Pn' Pc']) = .returned t'.val ∧ t'.dat = t.dat ∧ t'.Short ∧ WiO (((((wb.setCell ⟨w.heap.size + 1, 0, none⟩ u0).setCell ⟨w.heap.size + 1, 1, none⟩ u1).setCell ⟨w.heap.size + 1, 2, none⟩ u2).setCell ⟨w.heap.size + 1, 3, none⟩ u3).setCell ⟨w.heap.size + 1, 4, none⟩ u4) w.heap.size t' ∧
      Below w.heap.size w (((((wb.setCell ⟨w.heap.size + 1, 0, none⟩ u0).setCell ⟨w.heap.size + 1, 1, none⟩ u1).setCell ⟨w.heap.size + 1, 2, none⟩ u2).setCell ⟨w.heap.size + 1, 3, none⟩ u3).setCell ⟨w.heap.size + 1, 4, none⟩ u4) := by
  have hk : ∀ b, w.heap.size + 2 ≤ b → (((((wb.setCell ⟨w.heap.size + 1, 0, none⟩ u0).setCell ⟨w.heap.size + 1, 1, none⟩ u1).setCell ⟨w.heap.size + 1, 2, none⟩ u2).setCell ⟨w.heap.size + 1, 3, none⟩ u3).setCell ⟨w.heap.size + 1, 4, none⟩ u4).heap[b]? = wb.heap[b]? := fun b h => by
    repeat rw [heap_setCell_other _ _ _ _ (by simp; omega)]
  have hn : Ln' = t.ls.length ∧ Pn' = t.ps.length := by
    constructor
    · rcases hl.2 with ⟨e, h⟩ | ⟨g, cap, cur, e, _⟩ <;> (injection e with e1 e2 e3 <;> omega)
    · rcases hp.2 with ⟨e, h⟩ | ⟨g, cap, cur, e, _⟩ <;> (injection e with e1 e2 e3 <;> omega)
  refine ⟨⟨t.kind, t.field, t.value, LA', Ln', Lc', t.ls, PA', Pn', Pc', t.ps⟩, rfl, rfl, ⟨by show Ln' ≤ _; rw [hn.1]; exact hwf.2.1, by show Pn' ≤ _; rw [hn.2]; exact hwf.2.2⟩, ⟨hwf.1.1, hwf.1.2.1, hwf.1.2.2, ?_, ?_, ha⟩, ?_⟩
  · exact ownI_lowE (ownI_blocks hl fun b h => hk b (ownI_lows hl b h)) (by omega)
  · exact ownP_lowE (hp.blocks fun b h => hk b (hp.lows b h)) (by omega)
  · exact ((((hb.setCell (by show _ ≤ w.heap.size + 1; omega) _).setCell (by show _ ≤ w.heap.size + 1; omega) _).setCell (by show _ ≤ w.heap.size + 1; omega) _).setCell (by show _ ≤ w.heap.size + 1; omega) _).setCell (by show _ ≤ w.heap.size + 1; omega) _

set_option maxRecDepth 20000 in
set_option maxHeartbeats 3200000 in
theorem sWish_c (w : World) (B : Nat) (t : Wi) (hi : WiIn w B t) (hB : B ≤ w.heap.size) (hn : t.Short) :
    Calls Try.prog 72 #[t.val] w fun e w' => ∃ t' : Wi, e = .returned t'.val ∧ t'.dat = t.dat ∧ t'.Short ∧ WiO w' w.heap.size t' ∧ Below w.heap.size w w' := by
  have hval : t.val = .agg #[.int .i64 t.kind, .int .i64 t.field, .int .i64 t.value, .slice t.LA t.Ln t.Lc, .slice t.PA t.Pn t.Pc] := rfl
  rw [hval]
  have HB0 : Hid (Below w.heap.size w ((w.alloc (.cells #[.int .i64 t.kind, .int .i64 t.field, .int .i64 t.value, .slice t.LA t.Ln t.Lc, .slice t.PA t.Pn t.Pc] 75)).alloc (.cells #[.int .i64 0, .int .i64 0, .int .i64 0, .slice none 0 0, .slice none 0 0] 75))) := Lib.hid (((Below.refl _ w).alloc (Nat.le_refl _) _).alloc (by simp) _)
  have HI : Hid (∀ W, Below (w.heap.size + 2) ((w.alloc (.cells #[.int .i64 t.kind, .int .i64 t.field, .int .i64 t.value, .slice t.LA t.Ln t.Lc, .slice t.PA t.Pn t.Pc] 75)).alloc (.cells #[.int .i64 0, .int .i64 0, .int .i64 0, .slice none 0 0, .slice none 0 0] 75)) W → Ints W B t.LA t.Ln t.ls) := Lib.hid fun W h => hi.l.below ((HB0.out.mono hB).trans (h.mono (by omega)))
  have HP : Hid (∀ W, Below (w.heap.size + 2) ((w.alloc (.cells #[.int .i64 t.kind, .int .i64 t.field, .int .i64 t.value, .slice t.LA t.Ln t.Lc, .slice t.PA t.Pn t.Pc] 75)).alloc (.cells #[.int .i64 0, .int .i64 0, .int .i64 0, .slice none 0 0, .slice none 0 0] 75)) W → Pairs W B t.PA t.Pn t.ps) := Lib.hid fun W h => hi.p.below ((HB0.out.mono hB).trans (h.mono (by omega)))
  have HWf : Hid (((Lit.int .i64 t.kind).wf = true ∧ (Lit.int .i64 t.field).wf = true ∧ (Lit.int .i64 t.value).wf = true) ∧ t.ls.length ≤ 1048576 ∧ t.ps.length ≤ 1048576) := Lib.hid ⟨⟨hi.k, hi.f, hi.v⟩, by rw [hi.l.1]; exact hn.1, by rw [hi.p.1]; exact hn.2⟩
  have hcapI : t.Ln * 8 ≤ 140737488355328 := by have := hn.1; omega
  have hcapP : t.Pn * 16 ≤ 140737488355328 := by have := hn.2; omega
  have HZr : Hid (((w.alloc (.cells #[.int .i64 t.kind, .int .i64 t.field, .int .i64 t.value, .slice t.LA t.Ln t.Lc, .slice t.PA t.Pn t.Pc] 75)).alloc (.cells #[.int .i64 0, .int .i64 0, .int .i64 0, .slice none 0 0, .slice none 0 0] 75)).heap[w.heap.size + 1]? = some (.cells #[.int .i64 0, .int .i64 0, .int .i64 0, .slice none 0 0, .slice none 0 0] 75 (0, 0))) := Lib.hid (heap_alloc2_new w _ _)
  have hbx := (Box5.new w t 75).alloc (.cells #[.int .i64 0, .int .i64 0, .int .i64 0, .slice none 0 0, .slice none 0 0] 75)
  obtain ⟨-, x_0, x_1, x_2, x_3, x_4⟩ := hbx
  clear hval hi hn
  have X0 := Lib.hid x_0
  have X1 := Lib.hid x_1
  have X2 := Lib.hid x_2
  have X3 := Lib.hid x_3
  have X4 := Lib.hid x_4
  have hs0 : w.heap.size + 2 ≤ ((w.alloc (.cells #[.int .i64 t.kind, .int .i64 t.field, .int .i64 t.value, .slice t.LA t.Ln t.Lc, .slice t.PA t.Pn t.Pc] 75)).alloc (.cells #[.int .i64 0, .int .i64 0, .int .i64 0, .slice none 0 0, .slice none 0 0] 75)).drew.heap.size := by show _ ≤ ((w.alloc (.cells #[.int .i64 t.kind, .int .i64 t.field, .int .i64 t.value, .slice t.LA t.Ln t.Lc, .slice t.PA t.Pn t.Pc] 75)).alloc (.cells #[.int .i64 0, .int .i64 0, .int .i64 0, .slice none 0 0, .slice none 0 0] 75)).heap.size; simp
  have HK0 : Below (w.heap.size + 2) ((w.alloc (.cells #[.int .i64 t.kind, .int .i64 t.field, .int .i64 t.value, .slice t.LA t.Ln t.Lc, .slice t.PA t.Pn t.Pc] 75)).alloc (.cells #[.int .i64 0, .int .i64 0, .int .i64 0, .slice none 0 0, .slice none 0 0] 75)) ((w.alloc (.cells #[.int .i64 t.kind, .int .i64 t.field, .int .i64 t.value, .slice t.LA t.Ln t.Lc, .slice t.PA t.Pn t.Pc] 75)).alloc (.cells #[.int .i64 0, .int .i64 0, .int .i64 0, .slice none 0 0, .slice none 0 0] 75)).drew := (Below.refl _ _).drew
  go_enter Try.func72, Try.ntmps72
  go_wp2
  have hS0 : (fun w' => w'.cell? ⟨w.heap.size, 0, none⟩ = some (.int .i64 t.kind) ∧ w'.cell? ⟨w.heap.size, 1, none⟩ = some (.int .i64 t.field) ∧ w'.cell? ⟨w.heap.size, 2, none⟩ = some (.int .i64 t.value) ∧ w'.cell? ⟨w.heap.size, 3, none⟩ = some (.slice t.LA t.Ln t.Lc) ∧ w'.cell? ⟨w.heap.size, 4, none⟩ = some (.slice t.PA t.Pn t.Pc)) ((w.alloc (.cells #[.int .i64 t.kind, .int .i64 t.field, .int .i64 t.value, .slice t.LA t.Ln t.Lc, .slice t.PA t.Pn t.Pc] 75)).alloc (.cells #[.int .i64 0, .int .i64 0, .int .i64 0, .slice none 0 0, .slice none 0 0] 75)).drew := ⟨x_0, x_1, x_2, x_3, x_4⟩
  clear x_0 x_1 x_2 x_3 x_4
  generalize ((w.alloc (.cells #[.int .i64 t.kind, .int .i64 t.field, .int .i64 t.value, .slice t.LA t.Ln t.Lc, .slice t.PA t.Pn t.Pc] 75)).alloc (.cells #[.int .i64 0, .int .i64 0, .int .i64 0, .slice none 0 0, .slice none 0 0] 75)) = w00 at *
  refine wp_region_held (S := fun w' => w'.cell? ⟨w.heap.size, 0, none⟩ = some (.int .i64 t.kind) ∧ w'.cell? ⟨w.heap.size, 1, none⟩ = some (.int .i64 t.field) ∧ w'.cell? ⟨w.heap.size, 2, none⟩ = some (.int .i64 t.value) ∧ w'.cell? ⟨w.heap.size, 3, none⟩ = some (.slice t.LA t.Ln t.Lc) ∧ w'.cell? ⟨w.heap.size, 4, none⟩ = some (.slice t.PA t.Pn t.Pc)) (by kernel_rfl) ?_
  change wpAnyH _ _ _ _ _ _ _ _ (World.drew _)
  generalize w00.drew = w0 at *
  refine takeY 3 (i := 0) (v := ?vt1) rfl rfl (by kernel_rfl) (by kernel_rfl) (by kernel_rfl) (fun _ _ _ h => h) (by kernel_rfl) ?yt1 hS0 ?_
  case yt1 =>
    intro w' hw'; (try dsimp only at hw'); obtain ⟨e0, e1, e2, e3, e4⟩ := hw'; go_simp; try with_reducible rfl
  simp only [Act.put, List.setIfInBounds_toArray, List.set_cons_zero, List.set_cons_succ]
  refine takeY 4 (i := 1) (v := ?vt2) rfl rfl (by kernel_rfl) (by kernel_rfl) (by kernel_rfl) (fun _ _ _ h => h) (by kernel_rfl) ?yt2 hS0 ?_
  case yt2 =>
    intro w' hw'; (try dsimp only at hw'); obtain ⟨e0, e1, e2, e3, e4⟩ := hw'; go_simp; try with_reducible rfl
  simp only [Act.put, List.setIfInBounds_toArray, List.set_cons_zero, List.set_cons_succ]
  refine takeY 5 (i := 2) (v := ?vt3) rfl rfl (by kernel_rfl) (by kernel_rfl) (by kernel_rfl) (fun _ _ _ h => h) (by kernel_rfl) ?yt3 hS0 ?_
  case yt3 =>
    intro w' hw'; (try dsimp only at hw'); obtain ⟨e0, e1, e2, e3, e4⟩ := hw'; go_simp; try with_reducible rfl
  simp only [Act.put, List.setIfInBounds_toArray, List.set_cons_zero, List.set_cons_succ]
  refine takeY 6 (i := 3) (v := ?vt4) rfl rfl (by kernel_rfl) (by kernel_rfl) (by kernel_rfl) (fun _ _ _ h => h) (by kernel_rfl) ?yt4 hS0 ?_
  case yt4 =>
    intro w' hw'; (try dsimp only at hw'); obtain ⟨e0, e1, e2, e3, e4⟩ := hw'; go_simp; try with_reducible rfl
  simp only [Act.put, List.setIfInBounds_toArray, List.set_cons_zero, List.set_cons_succ]
  refine takeY 7 (i := 4) (v := ?vt5) rfl rfl (by kernel_rfl) (by kernel_rfl) (by kernel_rfl) (fun _ _ _ h => h) (by kernel_rfl) ?yt5 hS0 ?_
  case yt5 =>
    intro w' hw'; (try dsimp only at hw'); obtain ⟨e0, e1, e2, e3, e4⟩ := hw'; go_simp; try with_reducible rfl
  simp only [Act.put, List.setIfInBounds_toArray, List.set_cons_zero, List.set_cons_succ]
  refine takeY 8 (i := 5) (v := ?vt6) rfl rfl (by kernel_rfl) (by kernel_rfl) (by kernel_rfl) (fun _ _ _ h => h) (by kernel_rfl) ?yt6 hS0 ?_
  case yt6 =>
    intro w' hw'; (try dsimp only at hw'); obtain ⟨e0, e1, e2, e3, e4⟩ := hw'; go_simp; try with_reducible rfl
  simp only [Act.put, List.setIfInBounds_toArray, List.set_cons_zero, List.set_cons_succ]
  refine takeY 10 (i := 7) (v := ?vt7) rfl rfl (by kernel_rfl) (by kernel_rfl) (by kernel_rfl) (fun _ _ _ h => h) (by kernel_rfl) ?yt7 hS0 ?_
  case yt7 =>
    intro w' hw'; (try dsimp only at hw'); obtain ⟨e0, e1, e2, e3, e4⟩ := hw'; go_simp; try with_reducible rfl
  simp only [Act.put, List.setIfInBounds_toArray, List.set_cons_zero, List.set_cons_succ]
  refine takeY 11 (i := 8) (v := ?vt8) rfl rfl (by kernel_rfl) (by kernel_rfl) (by kernel_rfl) (fun _ _ _ h => h) (by kernel_rfl) ?yt8 hS0 ?_
  case yt8 =>
    intro w' hw'; (try dsimp only at hw'); obtain ⟨e0, e1, e2, e3, e4⟩ := hw'; go_simp; try with_reducible rfl
  simp only [Act.put, List.setIfInBounds_toArray, List.set_cons_zero, List.set_cons_succ]
  refine takeY 14 (i := 11) (v := ?vt9) rfl rfl (by kernel_rfl) (by kernel_rfl) (by kernel_rfl) (fun _ _ _ h => h) (by kernel_rfl) ?yt9 hS0 ?_
  case yt9 =>
    intro w' hw'; (try dsimp only at hw'); obtain ⟨e0, e1, e2, e3, e4⟩ := hw'; go_simp; try with_reducible rfl
  simp only [Act.put, List.setIfInBounds_toArray, List.set_cons_zero, List.set_cons_succ]
  refine takeY 15 (i := 12) (v := ?vt10) rfl rfl (by kernel_rfl) (by kernel_rfl) (by kernel_rfl) (fun _ _ _ h => h) (by kernel_rfl) ?yt10 hS0 ?_
  case yt10 =>
    intro w' hw'; (try dsimp only at hw'); obtain ⟨e0, e1, e2, e3, e4⟩ := hw'; go_simp; try with_reducible rfl
  simp only [Act.put, List.setIfInBounds_toArray, List.set_cons_zero, List.set_cons_succ]
  refine wpAnyH_ready (rs := [6, 10]) (by kernel_rfl) (by simp) ?_
  refine AllReadyH.cons rfl (fun K hK => ?_) (AllReadyH.cons rfl (fun K hK => ?_) AllReadyH.nil)
  · go_simp
    have o1 := OwnI.empty w0 (w.heap.size + 2) hs0
    try simp only [World.size_alloc] at o1
    have k1 := HK0.alloc hs0 (.cells #[] 3)
    have hs1 : w.heap.size + 2 ≤ (w0.alloc (.cells #[] 3)).heap.size := Nat.le_trans hs0 (by simp)
    refine hK.out _ _ ⟨(k1.cell (p := ⟨w.heap.size, 0, none⟩) (by simp)).trans X0.out, (k1.cell (p := ⟨w.heap.size, 1, none⟩) (by simp)).trans X1.out, (k1.cell (p := ⟨w.heap.size, 2, none⟩) (by simp)).trans X2.out, (k1.cell (p := ⟨w.heap.size, 3, none⟩) (by simp)).trans X3.out, (k1.cell (p := ⟨w.heap.size, 4, none⟩) (by simp)).trans X4.out⟩ (fun hS1 => ?_)
    clear hK K
    try simp only [Act.put, List.setIfInBounds_toArray, List.set_cons_zero, List.set_cons_succ]
    refine wpAnyH_ready (rs := [9, 10]) (by kernel_rfl) (by simp) ?_
    refine AllReadyH.cons rfl (fun K hK => ?_) (AllReadyH.cons rfl (fun K hK => ?_) AllReadyH.nil)
    · obtain ⟨v9, wa, hr9, ho9, hg9, ha9⟩ := run_spreadI (ty := 48) (c := t.Lc) o1 (HI.out _ k1) (by simpa using hcapI) hs1
      refine step_run _ (by rfl) (.tmp 9) (.tmp 11) 48 (by rfl) _ _ (by rfl) (by rfl) hr9 ?_
      have ka := k1.grown hg9 hs1 (fun k hk => ownI_lows o1 k hk)
      have hsa : w.heap.size + 2 ≤ wa.heap.size := Nat.le_trans hs1 hg9.size
      rw [List.nil_append] at ho9
      refine hK.out _ _ ⟨(ka.cell (p := ⟨w.heap.size, 0, none⟩) (by simp)).trans X0.out, (ka.cell (p := ⟨w.heap.size, 1, none⟩) (by simp)).trans X1.out, (ka.cell (p := ⟨w.heap.size, 2, none⟩) (by simp)).trans X2.out, (ka.cell (p := ⟨w.heap.size, 3, none⟩) (by simp)).trans X3.out, (ka.cell (p := ⟨w.heap.size, 4, none⟩) (by simp)).trans X4.out⟩ (fun hS2 => ?_)
      clear hK K
      try simp only [Act.put, List.setIfInBounds_toArray, List.set_cons_zero, List.set_cons_succ]
      refine wpAnyH_ready (rs := [10]) (by kernel_rfl) (by simp) ?_
      refine AllReadyH.cons rfl (fun K hK => ?_) AllReadyH.nil
      have ho9o := ho9
      go_simp
      have o2 := OwnP.empty wa (w.heap.size + 2) hsa
      try simp only [World.size_alloc] at o2
      have k3 := ka.alloc hsa (.cells #[] 108)
      have hs3 : w.heap.size + 2 ≤ (wa.alloc (.cells #[] 108)).heap.size := Nat.le_trans hsa (by simp)
      have ho9 := ownI_below ho9 ((Below.refl _ _).alloc (Nat.le_refl _) (.cells #[] 108))
      refine hK.out _ _ ⟨(k3.cell (p := ⟨w.heap.size, 0, none⟩) (by simp)).trans X0.out, (k3.cell (p := ⟨w.heap.size, 1, none⟩) (by simp)).trans X1.out, (k3.cell (p := ⟨w.heap.size, 2, none⟩) (by simp)).trans X2.out, (k3.cell (p := ⟨w.heap.size, 3, none⟩) (by simp)).trans X3.out, (k3.cell (p := ⟨w.heap.size, 4, none⟩) (by simp)).trans X4.out⟩ (fun hS3 => ?_)
      clear hK K
      try simp only [Act.put, List.setIfInBounds_toArray, List.set_cons_zero, List.set_cons_succ]
      refine wpAnyH_ready (rs := [13]) (by kernel_rfl) (by simp) ?_
      refine AllReadyH.cons rfl (fun K hK => ?_) AllReadyH.nil
      obtain ⟨vp, wb, hrp, hop, hgp, hap⟩ := run_spreadP (ty := 73) (c := t.Pc) o2 (HP.out _ k3) (by simpa using hcapP) hs3
      refine step_run _ (by rfl) (.tmp 13) (.tmp 15) 73 (by rfl) _ _ (by rfl) (by rfl) hrp ?_
      have kb := k3.grown hgp hs3 (fun k hk => o2.lows k hk)
      have hsb : w.heap.size + 2 ≤ wb.heap.size := Nat.le_trans hs3 hgp.size
      rw [List.nil_append] at hop
      have ho9b : OwnI wb (w.heap.size + 2) v9 t.ls := ownI_blocks ho9 fun k hk => hgp.block k (ownI_tops ho9 k hk) (fun e => by have h1 := ownI_tops ho9o k hk; cases e; exact absurd h1 (Nat.lt_irrefl _))
      have hapart : ∀ b, v9.ownBlock = some b → vp.ownBlock ≠ some b := fun b h1 h2 => by
        have h3 := ownI_tops ho9o b h1
        rcases hap with q | q
        · rw [q] at h2; cases h2; exact absurd h3 (Nat.lt_irrefl _)
        · rw [q] at h2; have := Option.some.inj h2; simp at this; omega
      refine hK.out _ _ ⟨(kb.cell (p := ⟨w.heap.size, 0, none⟩) (by simp)).trans X0.out, (kb.cell (p := ⟨w.heap.size, 1, none⟩) (by simp)).trans X1.out, (kb.cell (p := ⟨w.heap.size, 2, none⟩) (by simp)).trans X2.out, (kb.cell (p := ⟨w.heap.size, 3, none⟩) (by simp)).trans X3.out, (kb.cell (p := ⟨w.heap.size, 4, none⟩) (by simp)).trans X4.out⟩ (fun hS5 => ?_)
      clear hK K
      try simp only [Act.put, List.setIfInBounds_toArray, List.set_cons_zero, List.set_cons_succ]
      obtain ⟨LA', Ln', Lc', rfl, -⟩ := ho9b.ints
      obtain ⟨PA', Pn', Pc', rfl⟩ := ownP_shapeW hop
      refine takeY 17 (i := 14) (v := ?vt11) rfl rfl (by kernel_rfl) (by kernel_rfl) (by kernel_rfl) (fun _ _ _ h => h) (by kernel_rfl) ?yt11 hS5 ?_
      case yt11 =>
        intro w' hw'; (try dsimp only at hw'); obtain ⟨e0, e1, e2, e3, e4⟩ := hw'; go_simp; try with_reducible rfl
      simp only [Act.put, List.setIfInBounds_toArray, List.set_cons_zero, List.set_cons_succ]
      have hrow : wb.heap[w.heap.size + 1]? = some (.cells #[.int .i64 0, .int .i64 0, .int .i64 0, .slice none 0 0, .slice none 0 0] 75 (0, 0)) := (kb.block _ (by omega)).trans HZr.out
      have z0 : wb.cell? ⟨w.heap.size + 1, 0, none⟩ = some (.int .i64 0) := cell_of_row wb _ 0 _ _ (0, 0) hrow
      have z1 : wb.cell? ⟨w.heap.size + 1, 1, none⟩ = some (.int .i64 0) := cell_of_row wb _ 1 _ _ (0, 0) hrow
      have z2 : wb.cell? ⟨w.heap.size + 1, 2, none⟩ = some (.int .i64 0) := cell_of_row wb _ 2 _ _ (0, 0) hrow
      have z3 : wb.cell? ⟨w.heap.size + 1, 3, none⟩ = some (.slice none 0 0) := cell_of_row wb _ 3 _ _ (0, 0) hrow
      have z4 : wb.cell? ⟨w.heap.size + 1, 4, none⟩ = some (.slice none 0 0) := cell_of_row wb _ 4 _ _ (0, 0) hrow
      have f0 : wb.frozen? ⟨w.heap.size + 1, 0, none⟩ = false := frozen_of_row wb _ 0 _ _ hrow
      have f1 : wb.frozen? ⟨w.heap.size + 1, 1, none⟩ = false := frozen_of_row wb _ 1 _ _ hrow
      have f2 : wb.frozen? ⟨w.heap.size + 1, 2, none⟩ = false := frozen_of_row wb _ 2 _ _ hrow
      have f3 : wb.frozen? ⟨w.heap.size + 1, 3, none⟩ = false := frozen_of_row wb _ 3 _ _ hrow
      have f4 : wb.frozen? ⟨w.heap.size + 1, 4, none⟩ = false := frozen_of_row wb _ 4 _ _ hrow
      have HRow := Lib.hid hrow
      clear hrow
      refine wpAnyH_ready (rs := [15]) (by kernel_rfl) (by simp) ?_
      refine AllReadyH.cons rfl (fun K hK => ?_) AllReadyH.nil
      go_simp
      refine hK.out _ _ (by
        refine ⟨?_, ?_, ?_, ?_, ?_⟩
        · repeat rw [World.cell?_setCell_other _ _ _ _ (by simp)]
          exact (kb.cell (p := ⟨w.heap.size, 0, none⟩) (by simp)).trans X0.out
        · repeat rw [World.cell?_setCell_other _ _ _ _ (by simp)]
          exact (kb.cell (p := ⟨w.heap.size, 1, none⟩) (by simp)).trans X1.out
        · repeat rw [World.cell?_setCell_other _ _ _ _ (by simp)]
          exact (kb.cell (p := ⟨w.heap.size, 2, none⟩) (by simp)).trans X2.out
        · repeat rw [World.cell?_setCell_other _ _ _ _ (by simp)]
          exact (kb.cell (p := ⟨w.heap.size, 3, none⟩) (by simp)).trans X3.out
        · repeat rw [World.cell?_setCell_other _ _ _ _ (by simp)]
          exact (kb.cell (p := ⟨w.heap.size, 4, none⟩) (by simp)).trans X4.out) (fun hS9 => ?_)
      clear hK K
      refine wpAnyH_done (by kernel_rfl) ?_ _
      have HEnd := Lib.hid (And.intro ho9b (And.intro hop (And.intro hapart kb)))
      clear z0 z1 z2 z3 z4 f0 f1 f2 f3 f4
      go_wp2
      refine bodyPost_ret_by (results_cell_row rfl _ _ (w.heap.size + 1) 75 _ (0, 0) _ rfl (five_set HRow.out) Try.underlying75 rfl (by kernel_rfl)) rfl ?_
      exact wishcp_end HWf.out HEnd.out.1 HEnd.out.2.1 HEnd.out.2.2.1 (HB0.out.trans (HEnd.out.2.2.2.mono (by omega)))
    · go_simp
      have o2 := OwnP.empty (w0.alloc (.cells #[] 3)) (w.heap.size + 2) hs1
      try simp only [World.size_alloc] at o2
      have k2 := k1.alloc hs1 (.cells #[] 108)
      have hs2 : w.heap.size + 2 ≤ ((w0.alloc (.cells #[] 3)).alloc (.cells #[] 108)).heap.size := Nat.le_trans hs1 (by simp)
      have o1 := ownI_below o1 ((Below.refl _ _).alloc (Nat.le_refl _) (.cells #[] 108))
      refine hK.out _ _ ⟨(k2.cell (p := ⟨w.heap.size, 0, none⟩) (by simp)).trans X0.out, (k2.cell (p := ⟨w.heap.size, 1, none⟩) (by simp)).trans X1.out, (k2.cell (p := ⟨w.heap.size, 2, none⟩) (by simp)).trans X2.out, (k2.cell (p := ⟨w.heap.size, 3, none⟩) (by simp)).trans X3.out, (k2.cell (p := ⟨w.heap.size, 4, none⟩) (by simp)).trans X4.out⟩ (fun hS2 => ?_)
      clear hK K
      try simp only [Act.put, List.setIfInBounds_toArray, List.set_cons_zero, List.set_cons_succ]
      refine wpAnyH_ready (rs := [9]) (by kernel_rfl) (by simp) ?_
      refine AllReadyH.cons rfl (fun K hK => ?_) AllReadyH.nil
      obtain ⟨v9, wa, hr9, ho9, hg9, ha9⟩ := run_spreadI (ty := 48) (c := t.Lc) o1 (HI.out _ k2) (by simpa using hcapI) hs2
      refine step_run _ (by rfl) (.tmp 9) (.tmp 11) 48 (by rfl) _ _ (by rfl) (by rfl) hr9 ?_
      have ka := k2.grown hg9 hs2 (fun k hk => ownI_lows o1 k hk)
      have hsa : w.heap.size + 2 ≤ wa.heap.size := Nat.le_trans hs2 hg9.size
      rw [List.nil_append] at ho9
      have o2 : OwnP wa (w.heap.size + 2) _ [] := o2.blocks fun k hk => hg9.block k (o2.tops k hk) (fun e => by have h1 := Option.some.inj hk; have h2 := Option.some.inj e; simp at h1 h2; omega)
      refine hK.out _ _ ⟨(ka.cell (p := ⟨w.heap.size, 0, none⟩) (by simp)).trans X0.out, (ka.cell (p := ⟨w.heap.size, 1, none⟩) (by simp)).trans X1.out, (ka.cell (p := ⟨w.heap.size, 2, none⟩) (by simp)).trans X2.out, (ka.cell (p := ⟨w.heap.size, 3, none⟩) (by simp)).trans X3.out, (ka.cell (p := ⟨w.heap.size, 4, none⟩) (by simp)).trans X4.out⟩ (fun hS3 => ?_)
      clear hK K
      try simp only [Act.put, List.setIfInBounds_toArray, List.set_cons_zero, List.set_cons_succ]
      refine wpAnyH_ready (rs := [13]) (by kernel_rfl) (by simp) ?_
      refine AllReadyH.cons rfl (fun K hK => ?_) AllReadyH.nil
      obtain ⟨vp, wb, hrp, hop, hgp, hap⟩ := run_spreadP (ty := 73) (c := t.Pc) o2 (HP.out _ ka) (by simpa using hcapP) hsa
      refine step_run _ (by rfl) (.tmp 13) (.tmp 15) 73 (by rfl) _ _ (by rfl) (by rfl) hrp ?_
      have kb := ka.grown hgp hsa (fun k hk => o2.lows k hk)
      have hsb : w.heap.size + 2 ≤ wb.heap.size := Nat.le_trans hsa hgp.size
      rw [List.nil_append] at hop
      have ho9b : OwnI wb (w.heap.size + 2) v9 t.ls := ownI_blocks ho9 fun k hk => hgp.block k (ownI_tops ho9 k hk) (fun e => by rcases ha9 with q | q <;> (rw [q] at hk; have h1 := Option.some.inj hk; have h2 := Option.some.inj e; (try simp at h1); (try simp at h2); omega))
      have hapart : ∀ b, v9.ownBlock = some b → vp.ownBlock ≠ some b := fun b h1 h2 => by
        have h3 := ownI_tops ho9 b h1
        rcases hap with q | q
        · rw [q] at h2; rcases ha9 with q' | q' <;> (rw [q'] at h1; have h4 := Option.some.inj h1; have h5 := Option.some.inj h2; (try simp at h4); (try simp at h5); omega)
        · rw [q] at h2; have := Option.some.inj h2; omega
      refine hK.out _ _ ⟨(kb.cell (p := ⟨w.heap.size, 0, none⟩) (by simp)).trans X0.out, (kb.cell (p := ⟨w.heap.size, 1, none⟩) (by simp)).trans X1.out, (kb.cell (p := ⟨w.heap.size, 2, none⟩) (by simp)).trans X2.out, (kb.cell (p := ⟨w.heap.size, 3, none⟩) (by simp)).trans X3.out, (kb.cell (p := ⟨w.heap.size, 4, none⟩) (by simp)).trans X4.out⟩ (fun hS5 => ?_)
      clear hK K
      try simp only [Act.put, List.setIfInBounds_toArray, List.set_cons_zero, List.set_cons_succ]
      obtain ⟨LA', Ln', Lc', rfl, -⟩ := ho9b.ints
      obtain ⟨PA', Pn', Pc', rfl⟩ := ownP_shapeW hop
      refine takeY 17 (i := 14) (v := ?vt12) rfl rfl (by kernel_rfl) (by kernel_rfl) (by kernel_rfl) (fun _ _ _ h => h) (by kernel_rfl) ?yt12 hS5 ?_
      case yt12 =>
        intro w' hw'; (try dsimp only at hw'); obtain ⟨e0, e1, e2, e3, e4⟩ := hw'; go_simp; try with_reducible rfl
      simp only [Act.put, List.setIfInBounds_toArray, List.set_cons_zero, List.set_cons_succ]
      have hrow : wb.heap[w.heap.size + 1]? = some (.cells #[.int .i64 0, .int .i64 0, .int .i64 0, .slice none 0 0, .slice none 0 0] 75 (0, 0)) := (kb.block _ (by omega)).trans HZr.out
      have z0 : wb.cell? ⟨w.heap.size + 1, 0, none⟩ = some (.int .i64 0) := cell_of_row wb _ 0 _ _ (0, 0) hrow
      have z1 : wb.cell? ⟨w.heap.size + 1, 1, none⟩ = some (.int .i64 0) := cell_of_row wb _ 1 _ _ (0, 0) hrow
      have z2 : wb.cell? ⟨w.heap.size + 1, 2, none⟩ = some (.int .i64 0) := cell_of_row wb _ 2 _ _ (0, 0) hrow
      have z3 : wb.cell? ⟨w.heap.size + 1, 3, none⟩ = some (.slice none 0 0) := cell_of_row wb _ 3 _ _ (0, 0) hrow
      have z4 : wb.cell? ⟨w.heap.size + 1, 4, none⟩ = some (.slice none 0 0) := cell_of_row wb _ 4 _ _ (0, 0) hrow
      have f0 : wb.frozen? ⟨w.heap.size + 1, 0, none⟩ = false := frozen_of_row wb _ 0 _ _ hrow
      have f1 : wb.frozen? ⟨w.heap.size + 1, 1, none⟩ = false := frozen_of_row wb _ 1 _ _ hrow
      have f2 : wb.frozen? ⟨w.heap.size + 1, 2, none⟩ = false := frozen_of_row wb _ 2 _ _ hrow
      have f3 : wb.frozen? ⟨w.heap.size + 1, 3, none⟩ = false := frozen_of_row wb _ 3 _ _ hrow
      have f4 : wb.frozen? ⟨w.heap.size + 1, 4, none⟩ = false := frozen_of_row wb _ 4 _ _ hrow
      have HRow := Lib.hid hrow
      clear hrow
      refine wpAnyH_ready (rs := [15]) (by kernel_rfl) (by simp) ?_
      refine AllReadyH.cons rfl (fun K hK => ?_) AllReadyH.nil
      go_simp
      refine hK.out _ _ (by
        refine ⟨?_, ?_, ?_, ?_, ?_⟩
        · repeat rw [World.cell?_setCell_other _ _ _ _ (by simp)]
          exact (kb.cell (p := ⟨w.heap.size, 0, none⟩) (by simp)).trans X0.out
        · repeat rw [World.cell?_setCell_other _ _ _ _ (by simp)]
          exact (kb.cell (p := ⟨w.heap.size, 1, none⟩) (by simp)).trans X1.out
        · repeat rw [World.cell?_setCell_other _ _ _ _ (by simp)]
          exact (kb.cell (p := ⟨w.heap.size, 2, none⟩) (by simp)).trans X2.out
        · repeat rw [World.cell?_setCell_other _ _ _ _ (by simp)]
          exact (kb.cell (p := ⟨w.heap.size, 3, none⟩) (by simp)).trans X3.out
        · repeat rw [World.cell?_setCell_other _ _ _ _ (by simp)]
          exact (kb.cell (p := ⟨w.heap.size, 4, none⟩) (by simp)).trans X4.out) (fun hS9 => ?_)
      clear hK K
      refine wpAnyH_done (by kernel_rfl) ?_ _
      have HEnd := Lib.hid (And.intro ho9b (And.intro hop (And.intro hapart kb)))
      clear z0 z1 z2 z3 z4 f0 f1 f2 f3 f4
      go_wp2
      refine bodyPost_ret_by (results_cell_row rfl _ _ (w.heap.size + 1) 75 _ (0, 0) _ rfl (five_set HRow.out) Try.underlying75 rfl (by kernel_rfl)) rfl ?_
      exact wishcp_end HWf.out HEnd.out.1 HEnd.out.2.1 HEnd.out.2.2.1 (HB0.out.trans (HEnd.out.2.2.2.mono (by omega)))
  · go_simp
    have o2 := OwnP.empty w0 (w.heap.size + 2) hs0
    try simp only [World.size_alloc] at o2
    have k1 := HK0.alloc hs0 (.cells #[] 108)
    have hs1 : w.heap.size + 2 ≤ (w0.alloc (.cells #[] 108)).heap.size := Nat.le_trans hs0 (by simp)
    refine hK.out _ _ ⟨(k1.cell (p := ⟨w.heap.size, 0, none⟩) (by simp)).trans X0.out, (k1.cell (p := ⟨w.heap.size, 1, none⟩) (by simp)).trans X1.out, (k1.cell (p := ⟨w.heap.size, 2, none⟩) (by simp)).trans X2.out, (k1.cell (p := ⟨w.heap.size, 3, none⟩) (by simp)).trans X3.out, (k1.cell (p := ⟨w.heap.size, 4, none⟩) (by simp)).trans X4.out⟩ (fun hS1 => ?_)
    clear hK K
    try simp only [Act.put, List.setIfInBounds_toArray, List.set_cons_zero, List.set_cons_succ]
    refine wpAnyH_ready (rs := [6]) (by kernel_rfl) (by simp) ?_
    refine AllReadyH.cons rfl (fun K hK => ?_) AllReadyH.nil
    go_simp
    have o1 := OwnI.empty (w0.alloc (.cells #[] 108)) (w.heap.size + 2) hs1
    try simp only [World.size_alloc] at o1
    have k2 := k1.alloc hs1 (.cells #[] 3)
    have hs2 : w.heap.size + 2 ≤ ((w0.alloc (.cells #[] 108)).alloc (.cells #[] 3)).heap.size := Nat.le_trans hs1 (by simp)
    have o2 := o2.below ((Below.refl _ _).alloc (Nat.le_refl _) (.cells #[] 3))
    refine hK.out _ _ ⟨(k2.cell (p := ⟨w.heap.size, 0, none⟩) (by simp)).trans X0.out, (k2.cell (p := ⟨w.heap.size, 1, none⟩) (by simp)).trans X1.out, (k2.cell (p := ⟨w.heap.size, 2, none⟩) (by simp)).trans X2.out, (k2.cell (p := ⟨w.heap.size, 3, none⟩) (by simp)).trans X3.out, (k2.cell (p := ⟨w.heap.size, 4, none⟩) (by simp)).trans X4.out⟩ (fun hS2 => ?_)
    clear hK K
    try simp only [Act.put, List.setIfInBounds_toArray, List.set_cons_zero, List.set_cons_succ]
    refine wpAnyH_ready (rs := [9]) (by kernel_rfl) (by simp) ?_
    refine AllReadyH.cons rfl (fun K hK => ?_) AllReadyH.nil
    obtain ⟨v9, wa, hr9, ho9, hg9, ha9⟩ := run_spreadI (ty := 48) (c := t.Lc) o1 (HI.out _ k2) (by simpa using hcapI) hs2
    refine step_run _ (by rfl) (.tmp 9) (.tmp 11) 48 (by rfl) _ _ (by rfl) (by rfl) hr9 ?_
    have ka := k2.grown hg9 hs2 (fun k hk => ownI_lows o1 k hk)
    have hsa : w.heap.size + 2 ≤ wa.heap.size := Nat.le_trans hs2 hg9.size
    rw [List.nil_append] at ho9
    have o2 : OwnP wa (w.heap.size + 2) _ [] := o2.blocks fun k hk => hg9.block k (o2.tops k hk) (fun e => by have h1 := Option.some.inj hk; have h2 := Option.some.inj e; simp at h1 h2; omega)
    refine hK.out _ _ ⟨(ka.cell (p := ⟨w.heap.size, 0, none⟩) (by simp)).trans X0.out, (ka.cell (p := ⟨w.heap.size, 1, none⟩) (by simp)).trans X1.out, (ka.cell (p := ⟨w.heap.size, 2, none⟩) (by simp)).trans X2.out, (ka.cell (p := ⟨w.heap.size, 3, none⟩) (by simp)).trans X3.out, (ka.cell (p := ⟨w.heap.size, 4, none⟩) (by simp)).trans X4.out⟩ (fun hS3 => ?_)
    clear hK K
    try simp only [Act.put, List.setIfInBounds_toArray, List.set_cons_zero, List.set_cons_succ]
    refine wpAnyH_ready (rs := [13]) (by kernel_rfl) (by simp) ?_
    refine AllReadyH.cons rfl (fun K hK => ?_) AllReadyH.nil
    obtain ⟨vp, wb, hrp, hop, hgp, hap⟩ := run_spreadP (ty := 73) (c := t.Pc) o2 (HP.out _ ka) (by simpa using hcapP) hsa
    refine step_run _ (by rfl) (.tmp 13) (.tmp 15) 73 (by rfl) _ _ (by rfl) (by rfl) hrp ?_
    have kb := ka.grown hgp hsa (fun k hk => o2.lows k hk)
    have hsb : w.heap.size + 2 ≤ wb.heap.size := Nat.le_trans hsa hgp.size
    rw [List.nil_append] at hop
    have ho9b : OwnI wb (w.heap.size + 2) v9 t.ls := ownI_blocks ho9 fun k hk => hgp.block k (ownI_tops ho9 k hk) (fun e => by rcases ha9 with q | q <;> (rw [q] at hk; have h1 := Option.some.inj hk; have h2 := Option.some.inj e; (try simp at h1); (try simp at h2); omega))
    have hapart : ∀ b, v9.ownBlock = some b → vp.ownBlock ≠ some b := fun b h1 h2 => by
      have h3 := ownI_tops ho9 b h1
      rcases hap with q | q
      · rw [q] at h2; rcases ha9 with q' | q' <;> (rw [q'] at h1; have h4 := Option.some.inj h1; have h5 := Option.some.inj h2; (try simp at h4); (try simp at h5); omega)
      · rw [q] at h2; have := Option.some.inj h2; omega
    refine hK.out _ _ ⟨(kb.cell (p := ⟨w.heap.size, 0, none⟩) (by simp)).trans X0.out, (kb.cell (p := ⟨w.heap.size, 1, none⟩) (by simp)).trans X1.out, (kb.cell (p := ⟨w.heap.size, 2, none⟩) (by simp)).trans X2.out, (kb.cell (p := ⟨w.heap.size, 3, none⟩) (by simp)).trans X3.out, (kb.cell (p := ⟨w.heap.size, 4, none⟩) (by simp)).trans X4.out⟩ (fun hS5 => ?_)
    clear hK K
    try simp only [Act.put, List.setIfInBounds_toArray, List.set_cons_zero, List.set_cons_succ]
    obtain ⟨LA', Ln', Lc', rfl, -⟩ := ho9b.ints
    obtain ⟨PA', Pn', Pc', rfl⟩ := ownP_shapeW hop
    refine takeY 17 (i := 14) (v := ?vt13) rfl rfl (by kernel_rfl) (by kernel_rfl) (by kernel_rfl) (fun _ _ _ h => h) (by kernel_rfl) ?yt13 hS5 ?_
    case yt13 =>
      intro w' hw'; (try dsimp only at hw'); obtain ⟨e0, e1, e2, e3, e4⟩ := hw'; go_simp; try with_reducible rfl
    simp only [Act.put, List.setIfInBounds_toArray, List.set_cons_zero, List.set_cons_succ]
    have hrow : wb.heap[w.heap.size + 1]? = some (.cells #[.int .i64 0, .int .i64 0, .int .i64 0, .slice none 0 0, .slice none 0 0] 75 (0, 0)) := (kb.block _ (by omega)).trans HZr.out
    have z0 : wb.cell? ⟨w.heap.size + 1, 0, none⟩ = some (.int .i64 0) := cell_of_row wb _ 0 _ _ (0, 0) hrow
    have z1 : wb.cell? ⟨w.heap.size + 1, 1, none⟩ = some (.int .i64 0) := cell_of_row wb _ 1 _ _ (0, 0) hrow
    have z2 : wb.cell? ⟨w.heap.size + 1, 2, none⟩ = some (.int .i64 0) := cell_of_row wb _ 2 _ _ (0, 0) hrow
    have z3 : wb.cell? ⟨w.heap.size + 1, 3, none⟩ = some (.slice none 0 0) := cell_of_row wb _ 3 _ _ (0, 0) hrow
    have z4 : wb.cell? ⟨w.heap.size + 1, 4, none⟩ = some (.slice none 0 0) := cell_of_row wb _ 4 _ _ (0, 0) hrow
    have f0 : wb.frozen? ⟨w.heap.size + 1, 0, none⟩ = false := frozen_of_row wb _ 0 _ _ hrow
    have f1 : wb.frozen? ⟨w.heap.size + 1, 1, none⟩ = false := frozen_of_row wb _ 1 _ _ hrow
    have f2 : wb.frozen? ⟨w.heap.size + 1, 2, none⟩ = false := frozen_of_row wb _ 2 _ _ hrow
    have f3 : wb.frozen? ⟨w.heap.size + 1, 3, none⟩ = false := frozen_of_row wb _ 3 _ _ hrow
    have f4 : wb.frozen? ⟨w.heap.size + 1, 4, none⟩ = false := frozen_of_row wb _ 4 _ _ hrow
    have HRow := Lib.hid hrow
    clear hrow
    refine wpAnyH_ready (rs := [15]) (by kernel_rfl) (by simp) ?_
    refine AllReadyH.cons rfl (fun K hK => ?_) AllReadyH.nil
    go_simp
    refine hK.out _ _ (by
      refine ⟨?_, ?_, ?_, ?_, ?_⟩
      · repeat rw [World.cell?_setCell_other _ _ _ _ (by simp)]
        exact (kb.cell (p := ⟨w.heap.size, 0, none⟩) (by simp)).trans X0.out
      · repeat rw [World.cell?_setCell_other _ _ _ _ (by simp)]
        exact (kb.cell (p := ⟨w.heap.size, 1, none⟩) (by simp)).trans X1.out
      · repeat rw [World.cell?_setCell_other _ _ _ _ (by simp)]
        exact (kb.cell (p := ⟨w.heap.size, 2, none⟩) (by simp)).trans X2.out
      · repeat rw [World.cell?_setCell_other _ _ _ _ (by simp)]
        exact (kb.cell (p := ⟨w.heap.size, 3, none⟩) (by simp)).trans X3.out
      · repeat rw [World.cell?_setCell_other _ _ _ _ (by simp)]
        exact (kb.cell (p := ⟨w.heap.size, 4, none⟩) (by simp)).trans X4.out) (fun hS9 => ?_)
    clear hK K
    refine wpAnyH_done (by kernel_rfl) ?_ _
    have HEnd := Lib.hid (And.intro ho9b (And.intro hop (And.intro hapart kb)))
    clear z0 z1 z2 z3 z4 f0 f1 f2 f3 f4
    go_wp2
    refine bodyPost_ret_by (results_cell_row rfl _ _ (w.heap.size + 1) 75 _ (0, 0) _ rfl (five_set HRow.out) Try.underlying75 rfl (by kernel_rfl)) rfl ?_
    exact wishcp_end HWf.out HEnd.out.1 HEnd.out.2.1 HEnd.out.2.2.1 (HB0.out.trans (HEnd.out.2.2.2.mono (by omega)))
end Go.Proofs.Ytaijajajpnekbaa.num
namespace Go.Proofs.Ytaijajajpnekbaa.num
set_option maxRecDepth 20000
open Go.RowKit
set_option linter.unusedVariables false
set_option linter.unusedSimpArgs false

theorem cloneI (w : World) (B : Nat) (A : Option Addr) (n c : Nat) (xs : List Int) (hi : Ints w B A n xs) (hB : B ≤ w.heap.size) (hn : n ≤ 1048576) :
    Calls Try.prog 80 #[.slice A n c] w fun e w' => ∃ v, e = .returned v ∧ OwnI w' w.heap.size v xs ∧ Below w.heap.size w w' := by
  have hq : ∀ (w : World) (a : Option Addr) (n c n' c' : Nat), (binOp .eql 48 (.slice a n c) (.slice none n' c')).run Try.prog w = .ok (.bool a.isNone) w := fun w a n c n' c' => Lib.run_eql_slice_nil w _ _ a n c n' c' Try.underlying48
  have HB1 : Hid (Below B w (w.alloc (.cells #[] 3))) := Lib.hid ((Below.refl B w).alloc hB _)
  have HX := Lib.hid hi
  cases A with
  | none =>
    obtain rfl : xs = [] := by
      obtain ⟨h1, h2⟩ := hi
      rcases Nat.eq_zero_or_pos n with e | e
      · exact List.eq_nil_of_length_eq_zero (by omega)
      · obtain ⟨_, _, h, _⟩ := h2 0 e; cases h
    clear hi HB1
    go_enter Try.func80, Try.ntmps80
    go_wp2
    go_ret
    exact ⟨_, rfl, ownI_nil _ _, Below.refl _ _⟩
  | some a =>
    clear hi
    obtain ⟨v', w', hr, ho, hg, ha⟩ := run_spreadI (ty := 48) (c := c) (OwnI.empty w w.heap.size (Nat.le_refl _)) (HX.out.below HB1.out) (by simp; omega) (by simp)
    have HO := Lib.hid ho
    have HG := Lib.hid hg
    clear ho hg ha
    go_enter Try.func80, Try.ntmps80
    go_wp2_with (at_builtin; refine Go.Lib.wpList_append_run_sl _ (by rfl) (.tmp 5) (.tmp 6) 48 (by rfl) _ _ (by rfl) (by rfl) hr ?_)
    clear hr
    go_wp2
    go_ret
    exact ⟨_, rfl, by simpa using HO.out, ((Below.refl _ w).alloc (Nat.le_refl _) _).grown HG.out (by simp) (by intro k hk; simp [Value.ownBlock] at hk; omega)⟩
theorem cloneP (w : World) (B : Nat) (A : Option Addr) (n c : Nat) (xs : List (Int × Int)) (hi : Pairs w B A n xs) (hB : B ≤ w.heap.size) (hn : n ≤ 1048576) :
    Calls Try.prog 81 #[.slice A n c] w fun e w' => ∃ v, e = .returned v ∧ OwnP w' w.heap.size v xs ∧ Below w.heap.size w w' := by
  have hq : ∀ (w : World) (a : Option Addr) (n c n' c' : Nat), (binOp .eql 73 (.slice a n c) (.slice none n' c')).run Try.prog w = .ok (.bool a.isNone) w := fun w a n c n' c' => Lib.run_eql_slice_nil w _ _ a n c n' c' Try.underlying73
  have HB1 : Hid (Below B w (w.alloc (.cells #[] 108))) := Lib.hid ((Below.refl B w).alloc hB _)
  have HX := Lib.hid hi
  cases A with
  | none =>
    obtain rfl : xs = [] := by
      obtain ⟨h1, h2⟩ := hi
      cases xs with
      | nil => rfl
      | cons p r => obtain ⟨_, _, h, _⟩ := h2 0 p rfl; cases h
    clear hi HB1
    go_enter Try.func81, Try.ntmps81
    go_wp2
    go_ret
    exact ⟨_, rfl, OwnP.nil _ _, Below.refl _ _⟩
  | some a =>
    clear hi
    obtain ⟨v', w', hr, ho, hg, ha⟩ := run_spreadP (ty := 73) (c := c) (OwnP.empty w w.heap.size (Nat.le_refl _)) (HX.out.below HB1.out) (by simp; omega) (by simp)
    have HO := Lib.hid ho
    have HG := Lib.hid hg
    clear ho hg ha
    go_enter Try.func81, Try.ntmps81
    go_wp2_with (at_builtin; refine Go.Lib.wpList_append_run_sl _ (by rfl) (.tmp 5) (.tmp 6) 73 (by rfl) _ _ (by rfl) (by rfl) hr ?_)
    clear hr
    go_wp2
    go_ret
    exact ⟨_, rfl, by simpa using HO.out, ((Below.refl _ w).alloc (Nat.le_refl _) _).grown HG.out (by simp) (by intro k hk; simp [Value.ownBlock] at hk; omega)⟩
theorem cloneN (w : World) (B : Nat) (A : Option Addr) (n c : Nat) (xs : List Nd) (hi : Nodes w B A n xs) (hB : B ≤ w.heap.size) (hn : n ≤ 1048576) :
    Calls Try.prog 79 #[.slice A n c] w fun e w' => ∃ v, e = .returned v ∧ OwnG 77 nodeCells 6 w' w.heap.size v xs ∧ Below w.heap.size w w' := by
  have hq : ∀ (w : World) (a : Option Addr) (n c n' c' : Nat), (binOp .eql 24 (.slice a n c) (.slice none n' c')).run Try.prog w = .ok (.bool a.isNone) w := fun w a n c n' c' => Lib.run_eql_slice_nil w _ _ a n c n' c' Try.underlying24
  have HB1 : Hid (Below B w (w.alloc (.cells #[] 77))) := Lib.hid ((Below.refl B w).alloc hB _)
  have HX := Lib.hid hi
  cases A with
  | none =>
    obtain rfl : xs = [] := by
      cases xs with
      | nil => rfl
      | cons p r => obtain ⟨_, _, h, _⟩ := hi.r.at' 0 p rfl; cases h
    clear hi HB1
    go_enter Try.func79, Try.ntmps79
    go_wp2
    go_ret
    exact ⟨_, rfl, .nil _ _, Below.refl _ _⟩
  | some a =>
    clear hi
    obtain ⟨v', w', hr, ho, hg, ha⟩ := run_spreadG nodeCells_len nodeCells_one (ty := 24) (c := c) Try.underlying24 info_node rfl (by decide) (by decide) (OwnG.empty (T := 77) (f := nodeCells) (s := 6) w w.heap.size (Nat.le_refl _)) (HX.out.below HB1.out).r (by simp; omega) (by simp)
    have HO := Lib.hid ho
    have HG := Lib.hid hg
    clear ho hg ha
    go_enter Try.func79, Try.ntmps79
    go_wp2_with (at_builtin; refine Go.Lib.wpList_append_run_sl _ (by rfl) (.tmp 5) (.tmp 6) 24 (by rfl) _ _ (by rfl) (by rfl) hr ?_)
    clear hr
    go_wp2
    go_ret
    exact ⟨_, rfl, by simpa using HO.out, ((Below.refl _ w).alloc (Nat.le_refl _) _).grown HG.out (by simp) (by intro k hk; simp [Value.ownBlock] at hk; omega)⟩
theorem ownP_shape {w : World} {B : Nat} {v : Value} {l : List (Int × Int)} (h : OwnP w B v l) : ∃ A n c, v = .slice A n c := by
  rcases h.2 with ⟨rfl, _⟩ | ⟨g, cap, cur, rfl, _⟩
  · exact ⟨_, _, _, rfl⟩
  · exact ⟨_, _, _, rfl⟩
theorem OwnI.slen {w : World} {B : Nat} {A : Option Addr} {n c : Nat} {l : List Int} (h : OwnI w B (.slice A n c) l) : n = l.length := by
  rcases h.2 with ⟨e, hl⟩ | ⟨g, cap, cur, e, _⟩ <;> (injection e with e1 e2 e3 <;> omega)
theorem ownP_slen {w : World} {B : Nat} {A : Option Addr} {n c : Nat} {l : List (Int × Int)} (h : OwnP w B (.slice A n c) l) : n = l.length := by
  rcases h.2 with ⟨e, hl⟩ | ⟨g, cap, cur, e, _⟩ <;> (injection e with e1 e2 e3 <;> omega)
theorem OwnG.set2 {α : Type} {f : α → List Value} {s : Nat} (hf : ∀ x, (f x).length = s) {T : TypeId} {w : World} {B g n c k i1 i2 : Nat} {v1 v2 : Value} {l : List α} {x y : α} (h : OwnG T f s w B (.slice (some ⟨g, 0, none⟩) n c) l) (hk : l[k]? = some x) (hy : ∀ j, j < s → (f y)[j]? = if j = i2 then some v2 else if j = i1 then some v1 else (f x)[j]?) (h1 : i1 < s) (h2 : i2 < s) :
    OwnG T f s ((w.setCell ⟨g, k * s + i1, none⟩ v1).setCell ⟨g, k * s + i2, none⟩ v2) B (.slice (some ⟨g, 0, none⟩) n c) (l.set k y) := by
  have hlt : k < l.length := by
    rcases Nat.lt_or_ge k l.length with q | q
    · exact q
    · rw [List.getElem?_eq_none q] at hk; cases hk
  have hs : 0 < s := by omega
  rcases h.row with ⟨e, _⟩ | ⟨g', cap, F, e, hB, hle, hcap, hrow, hF⟩
  · cases e
  · injection e with e1 e2 e3
    injection e1 with e1
    injection e1 with e1
    subst e1 e2 e3
    refine OwnG.of_row hf hB (by simp) hle hcap (World.rowIs.set (World.rowIs.set hrow (k * s + i1) v1) (k * s + i2) v2) fun j hj => ?_
    rw [fm_set hf l k _ hlt j hj]
    have hd : j / s * s + j % s = j := by rw [Nat.mul_comm]; exact Nat.div_add_mod j s
    by_cases e : j / s = k
    · obtain ⟨r, hr, rfl⟩ : ∃ r, r < s ∧ j = k * s + r := ⟨j % s, Nat.mod_lt _ hs, by rw [← e]; exact hd.symm⟩
      have hm : (k * s + r) % s = r := by rw [Nat.mul_comm, Nat.mul_add_mod, Nat.mod_eq_of_lt hr]
      rw [if_pos e, hm, hy r hr]
      have hold := hF _ hj
      rw [fm_at hf l k r x hk hr] at hold
      by_cases q2 : r = i2
      · rw [if_pos q2, if_pos (show k * s + r = k * s + i2 by rw [q2])]
      · have n2 : ¬ (k * s + r = k * s + i2) := by omega
        by_cases q1 : r = i1
        · rw [if_neg q2, if_pos q1, if_neg n2, if_pos (show k * s + r = k * s + i1 by rw [q1])]
        · rw [if_neg q2, if_neg q1, if_neg n2, if_neg (show ¬ (k * s + r = k * s + i1) by omega), hold]
    · rw [if_neg e, hF j hj]
      have hm := Nat.mod_lt j hs
      have ne : ∀ i, i < s → j ≠ k * s + i := fun i hi hji => e (by rw [hji, Nat.mul_comm, Nat.mul_add_div hs, Nat.div_eq_of_lt hi, Nat.add_zero])
      rw [if_neg (ne i2 h2), if_neg (ne i1 h1)]
theorem set_mid {α : Type} {cs ns : List α} {k : Nat} {x y : α} (hl : cs.length = k) (h : ns[k]? = some x) : (cs ++ ns.drop k)[k]? = some x ∧ (cs ++ ns.drop k).set k y = (cs ++ [y]) ++ ns.drop (k + 1) := by
  have hlt : k < ns.length := by
    rcases Nat.lt_or_ge k ns.length with g | g
    · exact g
    · rw [List.getElem?_eq_none g] at h; cases h
  have hd : ns.drop k = x :: ns.drop (k + 1) := by
    rw [List.drop_eq_getElem_cons hlt]
    rw [List.getElem?_eq_getElem hlt] at h
    rw [Option.some.inj h]
  refine ⟨by rw [List.getElem?_append_right (by omega), hl, hd]; simp, ?_⟩
  rw [hd, List.set_append_right _ _ (by omega), hl, Nat.sub_self, List.set_cons_zero, List.append_assoc, List.singleton_append]

/-- As far as k, the elements hold copies of their own. -/
structure CopyInv (w w1 : World) (g n cap : Nat) (ns : List Nd) (k : Nat) (cs : List Nd) (wr : World) : Prop where
  len : cs.length = k
  own : OwnG 77 nodeCells 6 wr w.heap.size (.slice (some ⟨g, 0, none⟩) n cap) (cs ++ ns.drop k)
  dat : datN cs = datN (ns.take k)
  sh : ShortN cs
  x : ∀ (i : Nat) (x : Nd), cs[i]? = some x → (Lit.int .i64 x.op).wf = true ∧ WiO wr w1.heap.size x.t
  d : ∀ (i j : Nat) (x y : Nd) (b : Nat), i < j → cs[i]? = some x → cs[j]? = some y → x.t.has b → ¬ y.t.has b
  bel : Below w.heap.size w wr
  s1 : w1.heap.size ≤ wr.heap.size
set_option maxRecDepth 20000 in
theorem CopyInv.next {w w1 wr w2 w3 : World} {g n cap k : Nat} {ns cs : List Nd} {x : Nd} {LA' PA' : Option Addr} {Ln' Lc' Pn' Pc' : Nat} (h : CopyInv w w1 g n cap ns k cs wr) (hG : w.heap.size ≤ g ∧ g < w1.heap.size) (hat : ns[k]? = some x) (hls : x.t.ls.length ≤ 1048576 ∧ x.t.ps.length ≤ 1048576)
    (hwf : (Lit.int .i64 x.op).wf = true ∧ (Lit.int .i64 x.t.kind).wf = true ∧ (Lit.int .i64 x.t.field).wf = true ∧ (Lit.int .i64 x.t.value).wf = true)
    (hoa : OwnI w2 wr.heap.size (.slice LA' Ln' Lc') x.t.ls) (hb2 : Below wr.heap.size wr w2) (hob : OwnP w3 w2.heap.size (.slice PA' Pn' Pc') x.t.ps) (hb23 : Below w2.heap.size w2 w3) :
    CopyInv w w1 g n cap ns (k + 1) (cs ++ [⟨x.op, x.t.kind, x.t.field, x.t.value, LA', Ln', Lc', x.t.ls, PA', Pn', Pc', x.t.ps⟩]) ((w3.setCell ⟨g, k * 6 + 4, none⟩ (.slice LA' Ln' Lc')).setCell ⟨g, k * 6 + 5, none⟩ (.slice PA' Pn' Pc')) := by
  obtain ⟨y, hy⟩ : ∃ y : Nd, y = ⟨x.op, x.t.kind, x.t.field, x.t.value, LA', Ln', Lc', x.t.ls, PA', Pn', Pc', x.t.ps⟩ := ⟨_, rfl⟩
  rw [← hy]
  have hb3 : Below wr.heap.size wr w3 := below_on hb2 hb23
  have hgw : g < wr.heap.size := Nat.lt_of_lt_of_le hG.2 h.s1
  obtain ⟨hm1, hm2⟩ := set_mid (y := y) h.len hat
  have hoth : ∀ b, b ≠ g → ((w3.setCell ⟨g, k * 6 + 4, none⟩ (.slice LA' Ln' Lc')).setCell ⟨g, k * 6 + 5, none⟩ (.slice PA' Pn' Pc')).heap[b]? = w3.heap[b]? := fun b hb => by
    rw [heap_setCell_other _ _ _ _ (by simpa using hb), heap_setCell_other _ _ _ _ (by simpa using hb)]
  have hs1 := h.s1
  have hwy : WiO w3 wr.heap.size y.t := by
    rw [hy]
    refine ⟨hwf.2.1, hwf.2.2.1, hwf.2.2.2, ownI_blocks hoa fun b hb => hb23.block b (ownI_tops hoa b hb), ownP_lowE hob hb2.size, fun b h1 h2 => ?_⟩
    have q1 := ownI_tops hoa b h1
    have q2 := hob.lows b h2
    omega
  refine ⟨by rw [List.length_append, h.len]; rfl, ?_, ?_, ?_, ?_, ?_, ?_, ?_⟩
  · have h3 : OwnG 77 nodeCells 6 w3 w.heap.size (.slice (some ⟨g, 0, none⟩) n cap) (cs ++ ns.drop k) := h.own.blocks fun b hb => by
      have e : g = b := Option.some.inj hb
      rw [← e]; exact hb3.block g hgw
    have h4 := OwnG.set2 (k := k) (i1 := 4) (i2 := 5) (v1 := .slice LA' Ln' Lc') (v2 := .slice PA' Pn' Pc') (y := y) nodeCells_len h3 hm1 (fun j hj => by
      rw [hy]
      have hj' : j = 0 ∨ j = 1 ∨ j = 2 ∨ j = 3 ∨ j = 4 ∨ j = 5 := by omega
      rcases hj' with rfl | rfl | rfl | rfl | rfl | rfl <;> simp [nodeCells]) (by decide) (by decide)
    rw [← hm2]
    exact h4
  · rw [datN_at hat, ← h.dat]
    unfold datN
    rw [List.map_append, List.map_singleton, hy]
    rfl
  · intro u hu
    rcases List.mem_append.1 hu with hu | hu
    · exact h.sh u hu
    · rw [List.mem_singleton.1 hu, hy]
      have e1 := OwnI.slen hoa
      have e2 := ownP_slen hob
      exact ⟨by show Ln' ≤ _; rw [e1]; exact hls.1, by show Pn' ≤ _; rw [e2]; exact hls.2⟩
  · intro i u hu
    rcases get_snoc h.len hu with ⟨_, hu⟩ | ⟨_, rfl⟩
    · obtain ⟨e1, e2⟩ := h.x i u hu
      exact ⟨e1, (e2.below (hb3)).blocks fun b hb => hoth b (by have := (e2.has_in hb).1; omega)⟩
    · exact ⟨by rw [hy]; exact hwf.1, (hwy.blocks fun b hb => hoth b (by have := (hwy.has_in hb).1; omega)).low hs1⟩
  · intro i j u z b hij hu hz hb hb'
    rcases get_snoc h.len hz with ⟨hj, hz⟩ | ⟨_, rfl⟩
    · rcases get_snoc h.len hu with ⟨_, hu⟩ | ⟨e, _⟩
      · exact h.d i j u z b hij hu hz hb hb'
      · omega
    · rcases get_snoc h.len hu with ⟨_, hu⟩ | ⟨e, _⟩
      · have g1 := ((h.x i u hu).2.has_in hb).2
        have g2 := (hwy.has_in hb').1
        omega
      · omega
  · have hgl := hG.1
    exact ((below_on h.bel hb3).setCell (by show w.heap.size ≤ g; omega) _).setCell (by show w.heap.size ≤ g; omega) _
  · have := hb3.size
    simp
    omega
theorem CopyInv.done {w w1 wr : World} {g n cap k : Nat} {ns cs : List Nd} (h : CopyInv w w1 g n cap ns k cs wr) (hG : w.heap.size ≤ g ∧ g < w1.heap.size) (hk : ns.length = k) : datN cs = datN ns ∧ OwnN wr w.heap.size (.slice (some ⟨g, 0, none⟩) n cap) cs := by
  have hd : ns.drop k = [] := List.drop_eq_nil_of_le (by rw [hk]; exact Nat.le_refl _)
  have ht : ns.take k = ns := List.take_of_length_le (by rw [hk]; exact Nat.le_refl _)
  have h1 := h.own
  have h2 := h.dat
  rw [hd, List.append_nil] at h1
  rw [ht] at h2
  refine ⟨h2, h1, fun i x hi => ⟨(h.x i x hi).1, (h.x i x hi).2.low (Nat.le_of_lt (Nat.lt_of_le_of_lt hG.1 hG.2))⟩, fun i x b hi hb e => ?_, h.d⟩
  have h1 := ((h.x i x hi).2.has_in hb).1
  have h2 := hG.2
  have h3 : g = b := Option.some.inj e
  omega
set_option maxRecDepth 20000 in
set_option maxHeartbeats 3200000 in
theorem copyNodes_c (w : World) (B : Nat) (A : Option Addr) (n c : Nat) (ns : List Nd) (hi : Nodes w B A n ns) (hB : B ≤ w.heap.size) (hn : n ≤ 1048576) (hN : ShortN ns) :
    Calls Try.prog 51 #[.slice A n c] w fun e w' => ∃ v ns', e = .returned v ∧ datN ns' = datN ns ∧ ShortN ns' ∧ OwnN w' w.heap.size v ns' ∧ Below w.heap.size w w' := by
  have HX := Lib.hid hi
  have HN := Lib.hid hN
  have HC := Lib.hid (cloneN w B A n c ns hi hB hn)
  have HL : Hid (ns.length = n) := Lib.hid hi.len
  clear hi hN
  go_enter Try.func51, Try.ntmps51
  go_wp2_with fail
  refine HC.out.mono ?_
  rintro e w1 ⟨v, rfl, ho, hb1⟩
  have HO1 := Lib.hid ho
  have HB1 := Lib.hid hb1
  clear hb1 HC
  rcases ho.row with ⟨rfl, rfl⟩ | ⟨g, cap, F, rfl, hgl, hle, hcap, hrow, -⟩
  · obtain rfl : n = 0 := HL.out.symm
    go_wp2
    go_loopw [10] (fun i wr => i = .int .i64 0 ∧ wr = w1) (fun _ _ => 0)
    case atStart => exact ⟨rfl, rfl⟩
    case round =>
      obtain ⟨rfl, rfl⟩ := hrel
      go_wp2
      go_ret
      exact ⟨_, [], rfl, rfl, HN.out, .nil _ _, HB1.out⟩
  · have hcap' : cap ≤ 9223372036854775807 := by unfold maxLen at hcap; omega
    have HG : Hid (w.heap.size ≤ g ∧ g < w1.heap.size) := Lib.hid ⟨hgl, hrow.lt⟩
    rw [HL.out] at hle HO1 ⊢
    clear ho hrow hgl hcap
    go_wp2
    go_loopw [10] (fun i wr => ∃ (k : Nat) (cs : List Nd), k ≤ n ∧ i = .int .i64 k ∧ CopyInv w w1 g n cap ns k cs wr) (fun i _ => n - (intOf i).toNat)
    case atStart => exact ⟨0, [], Nat.zero_le _, rfl, ⟨rfl, by simpa using HO1.out, rfl, by simp [ShortN], by simp, by simp, HB1.out, Nat.le_refl _⟩⟩
    case round =>
      obtain ⟨k, cs, hk, rfl, hinv⟩ := hrel
      have HInv := Lib.hid hinv
      by_cases hlt : k < n
      · obtain ⟨x, hat⟩ : ∃ x, ns[k]? = some x := ⟨_, List.getElem?_eq_getElem (by rw [HL.out]; exact hlt)⟩
        have hmem := List.mem_of_getElem? hat
        obtain ⟨hwf, hwi⟩ := HX.out.x x hmem
        have hsx := HN.out x hmem
        have hown := hinv.own
        have hbel := hinv.bel
        obtain ⟨hm1, -⟩ := set_mid (y := x) hinv.len hat
        have hcell : ∀ (j : Nat) (v : Value), (nodeCells x)[j]? = some v → wr.cell? ⟨g, k * 6 + j, none⟩ = some v := fun j v hv => by
          obtain ⟨b, off, e, _, hc⟩ := (hown.read nodeCells_len).at' k x hm1
          injection e with e
          injection e with e1 e2
          subst e1 e2
          have := hc j v hv
          rwa [Nat.zero_add] at this
        have hfz : ∀ j, wr.frozen? ⟨g, j, none⟩ = false := fun j => by
          rcases hown.row with ⟨e, _⟩ | ⟨g', cap', f, e, _, _, _, hrow, _⟩
          · cases e
          · injection e with e _ _
            injection e with e
            injection e with e
            subst e
            exact World.rowIs.frozen hrow j
        have hgw : g < wr.heap.size := Nat.lt_of_lt_of_le HG.out.2 hinv.s1
        have z4 : wr.cell? ⟨g, k * 6 + 4, none⟩ = some (.slice x.t.LA x.t.Ln x.t.Lc) := hcell 4 _ rfl
        have z5 : wr.cell? ⟨g, k * 6 + 5, none⟩ = some (.slice x.t.PA x.t.Pn x.t.Pc) := hcell 5 _ rfl
        have HF4 := Lib.hid (hfz (k * 6 + 4))
        have HF5 := Lib.hid (hfz (k * 6 + 5))
        have HZ4 := Lib.hid z4
        have HZ5 := Lib.hid z5
        have HGw := Lib.hid hgw
        have HI : Hid (∀ W, Below wr.heap.size wr W → Calls Try.prog 80 #[.slice x.t.LA x.t.Ln x.t.Lc] W fun e w' => ∃ v, e = .returned v ∧ OwnI w' W.heap.size v x.t.ls ∧ Below W.heap.size W w') := Lib.hid fun W h => cloneI W B _ _ _ _ (hwi.l.below ((hbel.mono hB).trans (h.mono (Nat.le_trans hB hbel.size)))) (Nat.le_trans (Nat.le_trans hB hbel.size) h.size) hsx.1
        have HP : Hid (∀ W, Below wr.heap.size wr W → Calls Try.prog 81 #[.slice x.t.PA x.t.Pn x.t.Pc] W fun e w' => ∃ v, e = .returned v ∧ OwnP w' W.heap.size v x.t.ps ∧ Below W.heap.size W w') := Lib.hid fun W h => cloneP W B _ _ _ _ (hwi.p.below ((hbel.mono hB).trans (h.mono (Nat.le_trans hB hbel.size)))) (Nat.le_trans (Nat.le_trans hB hbel.size) h.size) hsx.2
        have HAt := Lib.hid hat
        have HWf : Hid ((Lit.int .i64 x.op).wf = true ∧ (Lit.int .i64 x.t.kind).wf = true ∧ (Lit.int .i64 x.t.field).wf = true ∧ (Lit.int .i64 x.t.value).wf = true) := Lib.hid ⟨hwf, hwi.k, hwi.f, hwi.v⟩
        have HLs : Hid (x.t.ls.length ≤ 1048576 ∧ x.t.ps.length ≤ 1048576) := Lib.hid ⟨by rw [hwi.l.1]; exact hsx.1, by rw [hwi.p.1]; exact hsx.2⟩
        clear hown hbel hinv hat hmem hwf hwi hsx hm1 hcell hfz hgw
        go_wp2
        go_region_law (first
          | (go_simp; go_at_call 80; refine (HI.out _ (Below.refl wr.heap.size wr).drew).mono ?_; rintro e w2 ⟨va, rfl, hoa, hb2⟩; obtain ⟨LA', Ln', Lc', rfl, -⟩ := hoa.ints; have hb2' : Below wr.heap.size wr w2 := (Below.refl wr.heap.size wr).drew.trans (hb2.mono (Nat.le_refl _)); have HOa : Hid (OwnI w2 wr.heap.size (.slice LA' Ln' Lc') x.t.ls) := Lib.hid hoa; have HB2 := Lib.hid hb2'; have y5 := (hb2'.cell (p := ⟨g, k * 6 + 5, none⟩) HGw.out).trans HZ5.out; clear hoa hb2 hb2')
          | (go_simp; go_at_call 81; refine (HP.out _ HB2.out).mono ?_; rintro e w3 ⟨vb, rfl, hob, hb3⟩; obtain ⟨PA', Pn', Pc', rfl⟩ := ownP_shape hob; have hb3' : Below wr.heap.size wr w3 := below_on HB2.out hb3; have HOb := Lib.hid hob; have HB23 := Lib.hid hb3; have x4 := (hb3'.cell (p := ⟨g, k * 6 + 4, none⟩) HGw.out).trans HZ4.out; have x5 := (hb3'.cell (p := ⟨g, k * 6 + 5, none⟩) HGw.out).trans HZ5.out; have f4 := (World.frozen?_of_block (a := ⟨g, k * 6 + 4, none⟩) (hb3'.block g HGw.out)).trans HF4.out; have f5 := (World.frozen?_of_block (a := ⟨g, k * 6 + 5, none⟩) (hb3'.block g HGw.out)).trans HF5.out; clear hob hb3 hb3'))
        all_goals
          have HNx := Lib.hid (HInv.out.next HG.out HAt.out HLs.out HWf.out HOa.out HB2.out HOb.out HB23.out)
          clear x4 x5 f4 f5 z4 z5
          go_wp2
          go_roundw
          case rel => exact ⟨k + 1, _, by omega, by go_num, HNx.out⟩
          case measure => simp [intOf]; omega
      · obtain rfl : k = n := by omega
        have HDn := Lib.hid (hinv.done HG.out HL.out)
        have HSh := Lib.hid hinv.sh
        have HBl := Lib.hid hinv.bel
        clear hinv
        go_wp2
        go_ret
        exact ⟨_, cs, rfl, HDn.out.1, HSh.out, HDn.out.2, HBl.out⟩
end Go.Proofs.Ytaijajajpnekbaa.num
namespace Go.Proofs.Ytaijajajpnekbaa.num
set_option maxRecDepth 20000
set_option linter.unusedVariables false

/-- Two expressions and an operator behind them. -/
theorem joinE {a b : List ND} {nd : ND} (ha : IsE a) (hb : IsE b) (hw : NoW nd.w) : IsE (a ++ b ++ [nd]) ↔ Bin nd.op ∧ a.length + b.length < 9 := by
  obtain ⟨la, ta, pa⟩ := ha
  obtain ⟨lb, tb, pb⟩ := hb
  have hs : Stk (a ++ b) [tb, ta] := pb.stk (post_stk.1 pa)
  constructor
  · rintro ⟨h1, t, ht⟩
    have h2 := post_stk.1 ht
    refine ⟨?_, by simp at h1; omega⟩
    rcases h2.inv with ⟨_, _, s, k, e⟩ | ⟨_, _, x, s, k, e⟩ | ⟨h, _⟩
    · have := hs.one k
      subst this
      simp at e
    · have := hs.one k
      simp only [List.cons.injEq] at this
      obtain ⟨_, rfl⟩ := this
      simp at e
    · exact h
  · rintro ⟨h1, h2⟩
    exact ⟨by simp; omega, _, .bin h1 hw pa pb⟩
theorem joinE' {a b : List ND} {nd : ND} (ha : IsE a) (hb : IsE b) (hw : NoW nd.w) {q : Bool} (hq : q = true ↔ Bin nd.op ∧ a.length + b.length < 9) : q = true ↔ IsE (a ++ b ++ [nd]) := hq.trans (joinE ha hb hw).symm

/-- The wishes of a list of nodes, in their order. -/
def wishL (nds : List ND) : List WD := nds.filterMap fun nd => if nd.op = 0 then some nd.w else none
theorem wishL_snoc_base {nds : List ND} {nd : ND} (h : nd.op = 0) : wishL (nds ++ [nd]) = wishL nds ++ [nd.w] := by
  unfold wishL; rw [List.filterMap_append]; simp [h]
theorem wishL_snoc_op {nds : List ND} {nd : ND} (h : nd.op ≠ 0) : wishL (nds ++ [nd]) = wishL nds := by
  unfold wishL; rw [List.filterMap_append]; simp [h]
theorem wishL_len (nds : List ND) : (wishL nds).length ≤ nds.length := List.length_filterMap_le _ _
/-- What WishesOf answers. -/
def wishesE (q : Bool) (nds : List ND) : List WD := if q then wishL nds else []
end Go.Proofs.Ytaijajajpnekbaa.num
namespace Go.Proofs.Ytaijajajpnekbaa.num
set_option maxRecDepth 20000
open Go.RowKit
set_option linter.unusedVariables false
set_option linter.unusedSimpArgs false

/-- append of one element, its run told. -/
theorem run_oneG {α : Type} {f : α → List Value} {s : Nat} (hf : ∀ x, (f x).length = s) (h1 : ∀ x, ∀ u ∈ f x, u.oneCell' = true) {T tS ty : TypeId} {z : Value} {bytes : Nat} (ht : Try.prog.underlying tS = some (.slice T)) (hinf : (Try.prog.info? T).map (fun i => (i.zero, i.size, i.bytes)) = some (some z, s, bytes)) (hzs : z.cells.size = s) (hs0 : 0 < s) (hbt : 0 < bytes)
    {w : World} {B N c : Nat} {v : Value} {l : List α} (y : α) {cs : Array Value} (hcs : cs = (f y).toArray) (h : OwnG T f s w B v l) (hN : w.heap.size = N) (hlen : (l.length + 1) * bytes ≤ 140737488355328) (hB : B ≤ w.heap.size) :
    ∃ v' w', (Builtin.append_ #[tS, tS] ty #[v, .slice (some ⟨N, 0, none⟩) 1 c]).run Try.prog (w.alloc (.cells cs T)) = .ok v' w' ∧ OwnG T f s w' B v' (l ++ [y]) ∧ w.grownBy w' v.ownBlock ∧ (v'.ownBlock = v.ownBlock ∨ v'.ownBlock = some (N + 1)) := by
  subst hcs hN
  obtain ⟨v', w', hr, ho, hg, hat⟩ := run_app_some (P := Try.prog) (ty := ty) ht hinf hzs hs0 hbt (World.ownsRow.alloc h (.cells (f y).toArray T)) ⟨w.heap.size, 0, none⟩ (m := 1) (c := c) (news := f y) (by rw [hf, Nat.one_mul]) (fun j u hj => by
    rw [addr_add, Nat.zero_add, World.cell?_alloc_at _ _ _ _ rfl]
    simpa using hj) (h1 y) hlen (by simp; omega)
  refine ⟨v', w', hr, ?_, ⟨hg.os, hg.tape, hg.output, Nat.le_trans (by simp) hg.size, fun k hk hv => (hg.block k (by simp; omega) hv).trans (Below.heap_alloc _ _ _ hk)⟩, by simpa using hat⟩
  unfold OwnG
  rw [List.length_append, List.length_singleton, List.flatMap_append, List.flatMap_singleton]
  exact ho

/-- Nodes whose lists are the call's own, apart from one another. -/
structure NodesO (w : World) (lo : Nat) (ns : List Nd) : Prop where
  x : ∀ (k : Nat) (x : Nd), ns[k]? = some x → (Lit.int .i64 x.op).wf = true ∧ WiO w lo x.t
  d : ∀ (i j : Nat) (x y : Nd) (b : Nat), i < j → ns[i]? = some x → ns[j]? = some y → x.t.has b → ¬ y.t.has b
theorem OwnN.no {w : World} {lo : Nat} {v : Value} {ns : List Nd} (h : OwnN w lo v ns) : NodesO w lo ns := ⟨h.x, h.d⟩
theorem NodesO.has_in {w : World} {lo : Nat} {ns : List Nd} (h : NodesO w lo ns) {x : Nd} (hx : x ∈ ns) {b : Nat} (hb : x.t.has b) : lo ≤ b ∧ b < w.heap.size := by
  obtain ⟨k, hk, rfl⟩ := List.getElem_of_mem hx
  exact (h.x k _ (List.getElem?_eq_getElem hk)).2.has_in hb
theorem NodesO.blocks {w w' : World} {lo : Nat} {ns : List Nd} (h : NodesO w lo ns) (hb : ∀ x ∈ ns, ∀ b, x.t.has b → w'.heap[b]? = w.heap[b]?) : NodesO w' lo ns :=
  ⟨fun k x hk => ⟨(h.x k x hk).1, (h.x k x hk).2.blocks fun b h' => hb x (List.mem_of_getElem? hk) b h'⟩, h.d⟩
theorem NodesO.low {w : World} {lo lo' : Nat} {ns : List Nd} (h : NodesO w lo ns) (hl : lo' ≤ lo) : NodesO w lo' ns := ⟨fun k x hk => ⟨(h.x k x hk).1, (h.x k x hk).2.low hl⟩, h.d⟩
theorem get_app {α : Type} {l m : List α} {i : Nat} {x : α} (h : (l ++ m)[i]? = some x) : (i < l.length ∧ l[i]? = some x) ∨ (l.length ≤ i ∧ m[i - l.length]? = some x) := by
  rcases Nat.lt_or_ge i l.length with g | g
  · exact .inl ⟨g, by rwa [List.getElem?_append_left g] at h⟩
  · exact .inr ⟨g, by rwa [List.getElem?_append_right g] at h⟩
theorem NodesO.cat {w : World} {lo hi : Nat} {ns1 ns2 : List Nd} (h1 : NodesO w lo ns1) (h2 : NodesO w hi ns2) (hle : lo ≤ hi) (htop : ∀ x ∈ ns1, ∀ b, x.t.has b → b < hi) : NodesO w lo (ns1 ++ ns2) := by
  refine ⟨fun k x hk => ?_, fun i j x y b hij hx hy hb hb' => ?_⟩
  · rcases get_app hk with ⟨_, h⟩ | ⟨_, h⟩
    · exact h1.x k x h
    · exact ⟨(h2.x _ x h).1, (h2.x _ x h).2.low hle⟩
  · rcases get_app hx with ⟨_, hx⟩ | ⟨_, hx⟩ <;> rcases get_app hy with ⟨_, hy⟩ | ⟨_, hy⟩
    · exact h1.d i j x y b hij hx hy hb hb'
    · have q1 := htop x (List.mem_of_getElem? hx) b hb
      have q2 := ((h2.x _ y hy).2.has_in hb').1
      omega
    · omega
    · exact h2.d _ _ x y b (by omega) hx hy hb hb'
/-- An operator's node. -/
def bareN (op : Int) : Nd := ⟨op, 0, 0, 0, none, 0, 0, [], none, 0, 0, []⟩
theorem bare_has (op : Int) (b : Nat) : ¬ (bareN op).t.has b := fun h => by
  rcases h with h | h <;> cases h
theorem NodesO.bare (w : World) (lo : Nat) {op : Int} (ho : (Lit.int .i64 op).wf = true) : NodesO w lo [bareN op] := by
  refine ⟨fun k x hk => ?_, fun i j x y b hij hx hy => ?_⟩
  · rcases k with _ | k
    · simp at hk
      subst hk
      exact ⟨ho, ⟨by show (Lit.int .i64 0).wf = true; decide, by show (Lit.int .i64 0).wf = true; decide, by show (Lit.int .i64 0).wf = true; decide, ownI_nil _ _, OwnP.nil _ _, fun b h => by cases h⟩⟩
    · simp at hk
  · rcases j with _ | j
    · omega
    · simp at hy
theorem OwnN.of {w : World} {lo : Nat} {v : Value} {ns : List Nd} (hr : OwnG 77 nodeCells 6 w lo v ns) (hn : NodesO w lo ns) (ha : ∀ x ∈ ns, ∀ b, x.t.has b → v.ownBlock ≠ some b) : OwnN w lo v ns :=
  ⟨hr, hn.x, fun k x b hk hb => ha x (List.mem_of_getElem? hk) b hb, hn.d⟩
def zeroWD : WD := ⟨0, 0, 0, [], []⟩
theorem noW_zero : NoW zeroWD := ⟨rfl, rfl, rfl, rfl, rfl⟩
/-- What JoinExpressions answers. -/
def joinD (r : Bool) (a b : List ND) (op : Int) : List ND := if r then a ++ b ++ [⟨op, zeroWD⟩] else []
theorem datN_app (l m : List Nd) : datN (l ++ m) = datN l ++ datN m := by unfold datN; rw [List.map_append]
theorem datN_bare (op : Int) : datN [bareN op] = [⟨op, zeroWD⟩] := rfl
theorem short_app {l m : List Nd} (h1 : ShortN l) (h2 : ShortN m) : ShortN (l ++ m) := fun x hx => by
  rcases List.mem_append.1 hx with h | h
  · exact h1 x h
  · exact h2 x h
theorem short_bare (op : Int) : ShortN [bareN op] := fun x hx => by
  rw [List.mem_singleton.1 hx]; exact ⟨Nat.zero_le _, Nat.zero_le _⟩
theorem datN_len {ns ns' : List Nd} (h : datN ns' = datN ns) : ns'.length = ns.length := by
  have := congrArg List.length h
  unfold datN at this
  rwa [List.length_map, List.length_map] at this
set_option maxRecDepth 20000 in
set_option maxHeartbeats 3200000 in
theorem sCopyN_c (w : World) (B : Nat) (A : Option Addr) (n c : Nat) (ns : List Nd) (hi : Nodes w B A n ns) (hB : B ≤ w.heap.size) (hn : n ≤ 1048576) (hN : ShortN ns) :
    Calls Try.prog 47 #[.slice A n c] w fun e w' => ∃ v ns', e = .returned v ∧ datN ns' = datN ns ∧ ShortN ns' ∧ OwnN w' w.heap.size v ns' ∧ Below w.heap.size w w' := by
  have HX := Lib.hid hi
  have HN := Lib.hid hN
  have HE : Hid (OwnN (w.alloc (.cells #[] 77)) w.heap.size (.slice (some ⟨w.heap.size, 0, none⟩) 0 0) []) := Lib.hid ⟨OwnG.empty w w.heap.size (Nat.le_refl _), by simp, by simp, by simp⟩
  have HBe : Hid (Below w.heap.size w (w.alloc (.cells #[] 77))) := Lib.hid ((Below.refl _ w).alloc (Nat.le_refl _) _)
  clear hi hN
  go_enter Try.func47, Try.ntmps47
  go_wp2
  go_loopw [3, 4] (fun v i wr => ∃ (k : Nat) (cs : List Nd) (V : Value), k ≤ n ∧ i = .int .i64 k ∧ V = v ∧ OwnN wr w.heap.size V cs ∧ datN cs = datN (ns.take k) ∧ ShortN cs ∧ Below w.heap.size w wr) (fun _ i _ => n - (intOf i).toNat)
  case atStart => exact ⟨0, [], _, Nat.zero_le _, rfl, rfl, HE.out, rfl, by simp [ShortN], HBe.out⟩
  case round =>
    obtain ⟨k, cs, v, hk, rfl, rfl, hown, hdat, hsh, hbel⟩ := hrel
    have HO := Lib.hid hown
    have HD := Lib.hid hdat
    have HS := Lib.hid hsh
    have HB := Lib.hid hbel
    clear hown hdat hsh
    by_cases hlt : k < n
    · obtain ⟨b1, off, ⟨op, t⟩, rfl, hb1, hat, hwf, g0, g1, g2, g3, g4, g5⟩ := HX.out.at k hlt
      dsimp only at g0 g1 g2 g3 g4 g5
      have hbw : b1 < w.heap.size := Nat.lt_of_lt_of_le hb1 hB
      have g0 := (hbel.cell (p := ⟨b1, off + k * 6, none⟩) hbw).trans g0
      have g1 := (hbel.cell (p := ⟨b1, off + k * 6 + 1, none⟩) hbw).trans g1
      have g2 := (hbel.cell (p := ⟨b1, off + k * 6 + 2, none⟩) hbw).trans g2
      have g3 := (hbel.cell (p := ⟨b1, off + k * 6 + 3, none⟩) hbw).trans g3
      have g4 := (hbel.cell (p := ⟨b1, off + k * 6 + 4, none⟩) hbw).trans g4
      have g5 := (hbel.cell (p := ⟨b1, off + k * 6 + 5, none⟩) hbw).trans g5
      have HT := Lib.hid hat
      have HWf := Lib.hid hwf.1
      have hsh0 : t.Short := HN.out _ (List.mem_of_getElem? hat)
      have HCp : Hid (∀ W, Below wr.heap.size wr W → Calls Try.prog 72 #[.agg #[.int .i64 t.kind, .int .i64 t.field, .int .i64 t.value, .slice t.LA t.Ln t.Lc, .slice t.PA t.Pn t.Pc]] W fun e w' => ∃ t' : Wi, e = .returned t'.val ∧ t'.dat = t.dat ∧ t'.Short ∧ WiO w' W.heap.size t' ∧ Below W.heap.size W w') := Lib.hid fun W h => sWish_c W B t (hwf.2.below ((hbel.mono hB).trans (h.mono (Nat.le_trans hB hbel.size)))) (Nat.le_trans (Nat.le_trans hB hbel.size) h.size) hsh0
      have HLn : Hid ((cs.length + 1) * 80 ≤ 140737488355328) := Lib.hid (by
        have h1 := congrArg List.length HD.out
        unfold datN at h1
        rw [List.length_map, List.length_map, List.length_take] at h1
        omega)
      have hlt' : (k : Int) < (n : Int) := by omega
      clear hat hwf hbel hsh0
      go_wp2
      have hS0 : (fun w' => Below w.heap.size wr w' ∧ w'.cell? ⟨b1, off + k * 6, none⟩ = some (.int .i64 op) ∧ w'.cell? ⟨b1, off + k * 6 + 1, none⟩ = some (.int .i64 t.kind) ∧ w'.cell? ⟨b1, off + k * 6 + 2, none⟩ = some (.int .i64 t.field) ∧ w'.cell? ⟨b1, off + k * 6 + 3, none⟩ = some (.int .i64 t.value) ∧ w'.cell? ⟨b1, off + k * 6 + 4, none⟩ = some (.slice t.LA t.Ln t.Lc) ∧ w'.cell? ⟨b1, off + k * 6 + 5, none⟩ = some (.slice t.PA t.Pn t.Pc)) wr.drew := ⟨(Below.refl _ _).drew, g0, g1, g2, g3, g4, g5⟩
      refine wp_region_held (S := fun w' => Below w.heap.size wr w' ∧ w'.cell? ⟨b1, off + k * 6, none⟩ = some (.int .i64 op) ∧ w'.cell? ⟨b1, off + k * 6 + 1, none⟩ = some (.int .i64 t.kind) ∧ w'.cell? ⟨b1, off + k * 6 + 2, none⟩ = some (.int .i64 t.field) ∧ w'.cell? ⟨b1, off + k * 6 + 3, none⟩ = some (.int .i64 t.value) ∧ w'.cell? ⟨b1, off + k * 6 + 4, none⟩ = some (.slice t.LA t.Ln t.Lc) ∧ w'.cell? ⟨b1, off + k * 6 + 5, none⟩ = some (.slice t.PA t.Pn t.Pc)) (by kernel_rfl) ?_
      change wpAnyH _ _ _ _ _ _ _ _ (World.drew _)
      refine takeY 12 (i := 0) (v := ?v0a) rfl rfl (by kernel_rfl) (by kernel_rfl) (by kernel_rfl) (fun _ _ _ h => h) (by kernel_rfl) ?y0a hS0 ?_
      case y0a =>
        intro w' hw'; (try dsimp only at hw'); obtain ⟨e0, e1, e2, e3, e4, e5, e6⟩ := hw'; go_simp; try with_reducible rfl
      simp only [Act.put, List.setIfInBounds_toArray, List.set_cons_zero, List.set_cons_succ]
      refine takeY 13 (i := 1) (v := ?v1a) rfl rfl (by kernel_rfl) (by kernel_rfl) (by kernel_rfl) (fun _ _ _ h => h) (by kernel_rfl) ?y1a hS0 ?_
      case y1a =>
        intro w' hw'; (try dsimp only at hw'); obtain ⟨e0, e1, e2, e3, e4, e5, e6⟩ := hw'; go_simp; try with_reducible rfl
      simp only [Act.put, List.setIfInBounds_toArray, List.set_cons_zero, List.set_cons_succ]
      refine takeY 14 (i := 2) (v := ?v2a) rfl rfl (by kernel_rfl) (by kernel_rfl) (by kernel_rfl) (fun _ _ _ h => h) (by kernel_rfl) ?y2a hS0 ?_
      case y2a =>
        intro w' hw'; (try dsimp only at hw'); obtain ⟨e0, e1, e2, e3, e4, e5, e6⟩ := hw'; go_simp; try with_reducible rfl
      simp only [Act.put, List.setIfInBounds_toArray, List.set_cons_zero, List.set_cons_succ]
      refine takeY 15 (i := 3) (v := ?v3a) rfl rfl (by kernel_rfl) (by kernel_rfl) (by kernel_rfl) (fun _ _ _ h => h) (by kernel_rfl) ?y3a hS0 ?_
      case y3a =>
        intro w' hw'; (try dsimp only at hw'); obtain ⟨e0, e1, e2, e3, e4, e5, e6⟩ := hw'; go_simp; try with_reducible rfl
      simp only [Act.put, List.setIfInBounds_toArray, List.set_cons_zero, List.set_cons_succ]
      refine takeY 16 (i := 4) (v := ?v4a) rfl rfl (by kernel_rfl) (by kernel_rfl) (by kernel_rfl) (fun _ _ _ h => h) (by kernel_rfl) ?y4a hS0 ?_
      case y4a =>
        intro w' hw'; (try dsimp only at hw'); obtain ⟨e0, e1, e2, e3, e4, e5, e6⟩ := hw'; go_simp; try with_reducible rfl
      simp only [Act.put, List.setIfInBounds_toArray, List.set_cons_zero, List.set_cons_succ]
      refine takeY 17 (i := 5) (v := ?v5a) rfl rfl (by kernel_rfl) (by kernel_rfl) (by kernel_rfl) (fun _ _ _ h => h) (by kernel_rfl) ?y5a hS0 ?_
      case y5a =>
        intro w' hw'; (try dsimp only at hw'); obtain ⟨e0, e1, e2, e3, e4, e5, e6⟩ := hw'; go_simp; try with_reducible rfl
      simp only [Act.put, List.setIfInBounds_toArray, List.set_cons_zero, List.set_cons_succ]
      refine takeY 18 (i := 6) (v := ?v6a) rfl rfl (by kernel_rfl) (by kernel_rfl) (by kernel_rfl) (fun _ _ _ h => h) (by kernel_rfl) ?y6a hS0 ?_
      case y6a =>
        intro w' hw'; (try dsimp only at hw'); obtain ⟨e0, e1, e2, e3, e4, e5, e6⟩ := hw'; go_simp; try with_reducible rfl
      simp only [Act.put, List.setIfInBounds_toArray, List.set_cons_zero, List.set_cons_succ]
      refine takeY 19 (i := 7) (v := ?v7a) rfl rfl (by kernel_rfl) (by kernel_rfl) (by kernel_rfl) (fun _ _ _ h => h) (by kernel_rfl) ?y7a hS0 ?_
      case y7a =>
        intro w' hw'; (try dsimp only at hw'); obtain ⟨e0, e1, e2, e3, e4, e5, e6⟩ := hw'; go_simp; try with_reducible rfl
      simp only [Act.put, List.setIfInBounds_toArray, List.set_cons_zero, List.set_cons_succ]
      refine takeY 20 (i := 8) (v := ?v8a) rfl rfl (by kernel_rfl) (by kernel_rfl) (by kernel_rfl) (fun _ _ _ h => h) (by kernel_rfl) ?y8a hS0 ?_
      case y8a =>
        intro w' hw'; (try dsimp only at hw'); obtain ⟨e0, e1, e2, e3, e4, e5, e6⟩ := hw'; go_simp; try with_reducible rfl
      simp only [Act.put, List.setIfInBounds_toArray, List.set_cons_zero, List.set_cons_succ]
      refine takeY 21 (i := 9) (v := ?v9a) rfl rfl (by kernel_rfl) (by kernel_rfl) (by kernel_rfl) (fun _ _ _ h => h) (by kernel_rfl) ?y9a hS0 ?_
      case y9a =>
        intro w' hw'; (try dsimp only at hw'); obtain ⟨e0, e1, e2, e3, e4, e5, e6⟩ := hw'; go_simp; try with_reducible rfl
      simp only [Act.put, List.setIfInBounds_toArray, List.set_cons_zero, List.set_cons_succ]
      refine takeY 22 (i := 10) (v := ?v10a) rfl rfl (by kernel_rfl) (by kernel_rfl) (by kernel_rfl) (fun _ _ _ h => h) (by kernel_rfl) ?y10a hS0 ?_
      case y10a =>
        intro w' hw'; (try dsimp only at hw'); obtain ⟨e0, e1, e2, e3, e4, e5, e6⟩ := hw'; go_simp; try with_reducible rfl
      simp only [Act.put, List.setIfInBounds_toArray, List.set_cons_zero, List.set_cons_succ]
      refine wpAnyH_ready (rs := [11]) (by kernel_rfl) (by simp) ?_
      refine AllReadyH.cons rfl (fun K hK => ?_) AllReadyH.nil
      go_simp; go_at_call 72; refine (HCp.out _ (Below.refl wr.heap.size wr).drew).mono ?_; rintro e w2 ⟨t', rfl, hd', hs', ho', hb2⟩; unfold Wi.val; have hb2' : Below wr.heap.size wr w2 := (Below.refl wr.heap.size wr).drew.trans (hb2.mono (Nat.le_refl _)); have hb2m : Below w.heap.size wr w2 := hb2'.mono HB.out.size; have HO2 := Lib.hid (HO.out.below hb2'); have HWo : Hid (WiO w2 wr.heap.size t') := Lib.hid ho'; have HD2 := Lib.hid hd'; have HS2 := Lib.hid hs'; have HB2 := Lib.hid hb2'; have hsz2 : w.heap.size ≤ w2.heap.size := Nat.le_trans HB.out.size hb2'.size; clear hd' hs' ho' hb2 hb2'
      refine hK.out _ _ ⟨hb2m, (hb2m.cell (p := ⟨b1, off + k * 6, none⟩) hbw).trans g0, (hb2m.cell (p := ⟨b1, off + k * 6 + 1, none⟩) hbw).trans g1, (hb2m.cell (p := ⟨b1, off + k * 6 + 2, none⟩) hbw).trans g2, (hb2m.cell (p := ⟨b1, off + k * 6 + 3, none⟩) hbw).trans g3, (hb2m.cell (p := ⟨b1, off + k * 6 + 4, none⟩) hbw).trans g4, (hb2m.cell (p := ⟨b1, off + k * 6 + 5, none⟩) hbw).trans g5⟩ (fun hS1 => ?_)
      clear hK K
      try simp only [Act.put, List.setIfInBounds_toArray, List.set_cons_zero, List.set_cons_succ]
      refine takeY 24 (i := 12) (v := ?v12a) rfl rfl (by kernel_rfl) (by kernel_rfl) (by kernel_rfl) (fun _ _ _ h => h) (by kernel_rfl) ?y12a hS1 ?_
      case y12a =>
        intro w' hw'; (try dsimp only at hw'); obtain ⟨e0, e1, e2, e3, e4, e5, e6⟩ := hw'; go_simp; try with_reducible rfl
      simp only [Act.put, List.setIfInBounds_toArray, List.set_cons_zero, List.set_cons_succ]
      refine wpAnyH_ready (rs := [13]) (by kernel_rfl) (by simp) ?_
      refine AllReadyH.cons rfl (fun K hK => ?_) AllReadyH.nil
      go_simp; have hb2a : Below w.heap.size wr (w2.alloc (.cells #[.int .i64 op, .int .i64 t'.kind, .int .i64 t'.field, .int .i64 t'.value, .slice t'.LA t'.Ln t'.Lc, .slice t'.PA t'.Pn t'.Pc] 77)) := hb2m.alloc hsz2 _
      refine hK.out _ _ ⟨hb2a, (hb2a.cell (p := ⟨b1, off + k * 6, none⟩) hbw).trans g0, (hb2a.cell (p := ⟨b1, off + k * 6 + 1, none⟩) hbw).trans g1, (hb2a.cell (p := ⟨b1, off + k * 6 + 2, none⟩) hbw).trans g2, (hb2a.cell (p := ⟨b1, off + k * 6 + 3, none⟩) hbw).trans g3, (hb2a.cell (p := ⟨b1, off + k * 6 + 4, none⟩) hbw).trans g4, (hb2a.cell (p := ⟨b1, off + k * 6 + 5, none⟩) hbw).trans g5⟩ (fun hS2 => ?_)
      clear hK K
      try simp only [Act.put, List.setIfInBounds_toArray, List.set_cons_zero, List.set_cons_succ]
      refine wpAnyH_ready (rs := [14]) (by kernel_rfl) (by simp) ?_
      refine AllReadyH.cons rfl (fun K hK => ?_) AllReadyH.nil
      obtain ⟨v', w3, hr, hown3, hg3, hat3⟩ := run_oneG nodeCells_len nodeCells_one (ty := 24) (c := 1) Try.underlying24 info_node rfl (by decide) (by decide) (⟨op, t'⟩ : Nd) rfl HO2.out.r rfl HLn.out hsz2; refine step_run _ (by rfl) (.tmp 12) (.tmp 25) 24 (by rfl) _ _ (by rfl) (by rfl) hr ?_; have hb3m : Below w.heap.size wr w3 := hb2m.grown hg3 hsz2 (fun k hk => HO2.out.r.lows k hk)
      refine hK.out _ _ ⟨hb3m, (hb3m.cell (p := ⟨b1, off + k * 6, none⟩) hbw).trans g0, (hb3m.cell (p := ⟨b1, off + k * 6 + 1, none⟩) hbw).trans g1, (hb3m.cell (p := ⟨b1, off + k * 6 + 2, none⟩) hbw).trans g2, (hb3m.cell (p := ⟨b1, off + k * 6 + 3, none⟩) hbw).trans g3, (hb3m.cell (p := ⟨b1, off + k * 6 + 4, none⟩) hbw).trans g4, (hb3m.cell (p := ⟨b1, off + k * 6 + 5, none⟩) hbw).trans g5⟩ (fun hS3 => ?_)
      clear hK K
      try simp only [Act.put, List.setIfInBounds_toArray, List.set_cons_zero, List.set_cons_succ]
      refine takeY 3 (i := 15) (v := ?v15a) rfl rfl (by kernel_rfl) (by kernel_rfl) (by kernel_rfl) (fun _ _ _ h => h) (by kernel_rfl) ?y15a hS3 ?_
      case y15a =>
        intro w' hw'; (try dsimp only at hw'); obtain ⟨e0, e1, e2, e3, e4, e5, e6⟩ := hw'; go_simp; try with_reducible rfl
      simp only [Act.put, List.setIfInBounds_toArray, List.set_cons_zero, List.set_cons_succ]
      refine wpAnyH_done (by kernel_rfl) ?_ _
      have HO3 := Lib.hid (HO2.out.snoc hg3 hat3 hown3 HWf.out (HWo.out.low HB.out.size) (fun b h1 h2 => by
        have q1 := (HWo.out.has_in h1).1
        have q2 := (HO.out.has_in h2).2
        omega))
      have HB3 := Lib.hid (HB.out.trans hb3m)
      clear hr hown3 hg3 hat3 hb3m hb2m hb2a hS0 hS1 hS2 hS3 g0 g1 g2 g3 g4 g5
      go_wp2
      go_roundw
      case rel =>
        refine ⟨k + 1, cs ++ [⟨op, t'⟩], _, by omega, by go_num, rfl, HO3.out, ?_, short_app HS.out (fun u hu => by rw [List.mem_singleton.1 hu]; exact HS2.out), HB3.out⟩
        rw [datN_at HT.out, datN_app, HD.out]
        unfold datN Nd.dat
        rw [List.map_singleton, HD2.out]
      case measure => simp [intOf]; omega
    · obtain rfl : k = n := by omega
      have ht : ns.take k = ns := List.take_of_length_le (by rw [HX.out.len]; exact Nat.le_refl _)
      clear hbel
      go_wp2
      go_ret
      exact ⟨_, cs, rfl, by rw [HD.out, ht], HS.out, HO.out, HB.out⟩
set_option maxRecDepth 20000 in
/-- slices.Grow of nil. -/
theorem growN (w : World) (n : Nat) (hn : n ≤ 1048576) :
    Calls Try.prog 104 #[.slice none 0 0, .int .i64 n] w fun e w' => ∃ v, e = .returned v ∧ OwnG 77 nodeCells 6 w' w.heap.size v [] ∧ Below w.heap.size w w' := by
  obtain ⟨i0, hi, hzz⟩ := Option.map_eq_some_iff.1 info_node
  simp only [Prod.mk.injEq] at hzz
  obtain ⟨hz0, hz1, hz2⟩ := hzz
  rcases Nat.eq_zero_or_pos n with e | e
  · subst e
    clear hi hz0 hz1 hz2
    go_enter Try.func104, Try.ntmps104
    go_wp2
    go_ret
    exact ⟨_, rfl, .nil _ _, Below.refl _ _⟩
  · have hr := Go.Lib.run_append_nil_zeros (P := Try.prog) w 24 3 24 77 i0 (.agg #[.int .i64 0, .int .i64 0, .int .i64 0, .int .i64 0, .slice none 0 0, .slice none 0 0]) .i64 .i64 Try.underlying24 Try.underlying3 hi hz0 n e (by rw [hz1]; decide) (by omega) (by rw [hz2]; omega)
    have hcap := grownCap_ge w n 0 77
    have hcapm : grownCap w n 0 77 ≤ maxLen := grownCap_le_maxLen w n 0 77 (by unfold maxLen; omega)
    generalize grownCap w n 0 77 = cap at hr hcap hcapm
    have hpos : (0 : Int) < (n : Int) := by omega
    have hcap' : cap ≤ 9223372036854775807 := by unfold maxLen at hcapm; omega
    have HC := Lib.hid (And.intro hcap hcapm)
    clear hi hz0 hz1 hz2 hcapm
    go_enter Try.func104, Try.ntmps104
    go_wp2_with (at_builtin; refine Go.Lib.wpList_append_run _ (by rfl) (.tmp 20) (.tmp 21) 24 3 (by rfl) _ _ (by rfl) (by rfl) _ _ hr ?_)
    clear hr
    go_wp2
    go_ret
    refine ⟨_, rfl, ?_, (Below.refl _ w).drew.alloc (Nat.le_refl _) _⟩
    refine ⟨rfl, .inr ⟨w.heap.size, cap, _, rfl, Nat.le_refl _, heap_alloc_new w.drew _, Nat.zero_le _, HC.out.2, ?_, ?_⟩⟩
    · have h := HC.out.1
      rw [Array.size_append, size_zeroCells, size_zeroCells]
      show n * 6 + (cap - n) * 6 = cap * 6
      rw [← Nat.add_mul]
      congr 1
      omega
    · simp
set_option maxRecDepth 20000 in
set_option maxHeartbeats 1600000 in
/-- slices.Concat of three slices of nodes. -/
theorem concatN (w : World) (B : Nat) (g c : Nat) (A1 A2 A3 : Option Addr) (n1 n2 n3 c1 c2 c3 : Nat) (l1 l2 l3 : List Nd) (h1 : ReadG nodeCells 6 w B A1 n1 l1) (h2 : ReadG nodeCells 6 w B A2 n2 l2) (h3 : ReadG nodeCells 6 w B A3 n3 l3) (hB : B ≤ w.heap.size) (hg : g < w.heap.size) (hn : n1 + n2 + n3 ≤ 1048576)
    (q0 : w.cell? ⟨g, 0, none⟩ = some (.slice A1 n1 c1)) (q1 : w.cell? ⟨g, 1, none⟩ = some (.slice A2 n2 c2)) (q2 : w.cell? ⟨g, 2, none⟩ = some (.slice A3 n3 c3)) :
    Calls Try.prog 82 #[.slice (some ⟨g, 0, none⟩) 3 c] w fun e w' => ∃ v, e = .returned v ∧ OwnG 77 nodeCells 6 w' w.heap.size v (l1 ++ l2 ++ l3) ∧ Below w.heap.size w w' := by
  have HR1 := Lib.hid h1
  have HR2 := Lib.hid h2
  have HR3 := Lib.hid h3
  have HQ := Lib.hid (And.intro q0 (And.intro q1 q2))
  have HGr := Lib.hid (fun w1 : World => growN w1 (n1 + n2 + n3) hn)
  have HLe : Hid (l1.length = n1 ∧ l2.length = n2 ∧ l3.length = n3) := Lib.hid ⟨h1.len, h2.len, h3.len⟩
  clear h1 h2 h3
  go_enter Try.func82, Try.ntmps82
  go_wp2
  go_loopw [3, 11] (fun s i wr => ∃ k : Nat, k ≤ 3 ∧ i = .int .i64 k ∧ s = .int .i64 ((if k = 0 then 0 else if k = 1 then n1 else if k = 2 then n1 + n2 else n1 + n2 + n3 : Nat) : Int) ∧ w = wr) (fun _ i _ => 3 - (intOf i).toNat)
  case atStart => exact ⟨0, by decide, rfl, rfl, rfl⟩
  case round =>
    obtain ⟨k, hk, rfl, rfl, rfl⟩ := hrel
    have hk' : k = 0 ∨ k = 1 ∨ k = 2 ∨ k = 3 := by omega
    rcases hk' with rfl | rfl | rfl | rfl
    · go_wp2
      go_roundw
      case rel => exact ⟨1, by decide, by go_num, by simp, by first | rfl | trivial⟩
      case measure => simp [intOf]
    · have hd : decide ((n1 : Int) + (n2 : Int) < 0) = false := by simp; omega
      have hw : IntKind.i64.wrap ((n1 : Int) + (n2 : Int)) = (n1 : Int) + (n2 : Int) := IntWalk.i64_in _ ⟨by omega, by omega⟩
      go_wp2
      go_roundw
      case rel => exact ⟨2, by decide, by go_num, by simp, by first | rfl | trivial⟩
      case measure => simp [intOf]
    · have hd : decide ((n1 : Int) + (n2 : Int) + (n3 : Int) < 0) = false := by simp; omega
      have hw : IntKind.i64.wrap ((n1 : Int) + (n2 : Int) + (n3 : Int)) = (n1 : Int) + (n2 : Int) + (n3 : Int) := IntWalk.i64_in _ ⟨by omega, by omega⟩
      go_wp2
      go_roundw
      case rel => exact ⟨3, by decide, by go_num, by simp, by first | rfl | trivial⟩
      case measure => simp [intOf]
    · have hsum : ((if (3 : Nat) = 0 then 0 else if (3 : Nat) = 1 then n1 else if (3 : Nat) = 2 then n1 + n2 else n1 + n2 + n3 : Nat) : Int) = ((n1 + n2 + n3 : Nat) : Int) := by simp
      rw [hsum]
      obtain ⟨m, hm⟩ : ∃ m, n1 + n2 + n3 = m := ⟨_, rfl⟩
      have HM := Lib.hid hm
      rw [hm]
      have HG2 : Hid (∀ w1, Calls Try.prog 104 #[.slice none 0 0, .int .i64 (m : Int)] w1 fun e w' => ∃ v, e = .returned v ∧ OwnG 77 nodeCells 6 w' w1.heap.size v [] ∧ Below w1.heap.size w1 w') := Lib.hid fun w1 => by rw [← hm]; exact HGr.out w1
      clear hm hsum
      go_wp2_with fail
      refine (HG2.out _).mono ?_
      rintro e w1 ⟨v, rfl, ho, hb1⟩
      have HO := Lib.hid ho
      have HB1 := Lib.hid hb1
      clear ho hb1 q0 q1 q2
      go_wp2
      go_loopw [6, 27] (fun x i wr => ∃ (k : Nat) (V : Value) (l : List Nd), k ≤ 3 ∧ i = .int .i64 k ∧ V = x ∧ OwnG 77 nodeCells 6 wr w.heap.size V l ∧ l = (if k = 0 then [] else if k = 1 then l1 else if k = 2 then l1 ++ l2 else l1 ++ l2 ++ l3) ∧ Below w.heap.size w wr) (fun _ i _ => 3 - (intOf i).toNat)
      case atStart => exact ⟨0, v, [], by decide, rfl, rfl, HO.out, rfl, HB1.out⟩
      case round =>
        obtain ⟨k, v, l, hk, rfl, rfl, hown, hl, hbel⟩ := hrel
        have HO1 := Lib.hid hown
        have HBe := Lib.hid hbel
        have hsz : w.heap.size ≤ wr.heap.size := hbel.size
        obtain ⟨q0, q1, q2⟩ := HQ.out
        have q0 := (hbel.cell (p := ⟨g, 0, none⟩) hg).trans q0
        have q1 := (hbel.cell (p := ⟨g, 1, none⟩) hg).trans q1
        have q2 := (hbel.cell (p := ⟨g, 2, none⟩) hg).trans q2
        have HL := Lib.hid hl
        clear hown hbel hl
        have hk' : k = 0 ∨ k = 1 ∨ k = 2 ∨ k = 3 := by omega
        rcases hk' with rfl | rfl | rfl | rfl
        · obtain rfl := HL.out
          obtain ⟨v', w3, hr, ho3, hg3, hat3⟩ := run_spreadG nodeCells_len nodeCells_one (ty := 24) (c := c1) Try.underlying24 info_node rfl (by decide) (by decide) HO1.out (HR1.out.below (HBe.out.mono hB)) (by simp only [if_true, if_neg (show ¬ (1 : Nat) = 0 by decide), if_neg (show ¬ (2 : Nat) = 0 by decide), if_neg (show ¬ (2 : Nat) = 1 by decide), List.length_nil, List.length_append, HLe.out.1, HLe.out.2.1]; omega) hsz
          have HO3 := Lib.hid ho3
          have HB3 := Lib.hid (HBe.out.grown hg3 hsz (fun k hk => HO1.out.lows k hk))
          clear ho3 hg3 hat3
          go_wp2_with (at_builtin; refine Go.Lib.wpList_append_run_sl _ (by rfl) (.tmp 31) (.tmp 32) 24 (by rfl) _ _ (by rfl) (by rfl) hr ?_)
          clear hr q0 q1 q2
          go_wp2
          go_roundw
          case rel => exact ⟨1, v', _, by decide, by go_num, rfl, HO3.out, by simp, HB3.out⟩
          case measure => simp [intOf]
        · obtain rfl := HL.out
          obtain ⟨v', w3, hr, ho3, hg3, hat3⟩ := run_spreadG nodeCells_len nodeCells_one (ty := 24) (c := c2) Try.underlying24 info_node rfl (by decide) (by decide) HO1.out (HR2.out.below (HBe.out.mono hB)) (by simp only [if_true, if_neg (show ¬ (1 : Nat) = 0 by decide), if_neg (show ¬ (2 : Nat) = 0 by decide), if_neg (show ¬ (2 : Nat) = 1 by decide), List.length_nil, List.length_append, HLe.out.1, HLe.out.2.1]; omega) hsz
          have HO3 := Lib.hid ho3
          have HB3 := Lib.hid (HBe.out.grown hg3 hsz (fun k hk => HO1.out.lows k hk))
          clear ho3 hg3 hat3
          go_wp2_with (at_builtin; refine Go.Lib.wpList_append_run_sl _ (by rfl) (.tmp 31) (.tmp 32) 24 (by rfl) _ _ (by rfl) (by rfl) hr ?_)
          clear hr q0 q1 q2
          go_wp2
          go_roundw
          case rel => exact ⟨2, v', _, by decide, by go_num, rfl, HO3.out, by simp, HB3.out⟩
          case measure => simp [intOf]
        · obtain rfl := HL.out
          obtain ⟨v', w3, hr, ho3, hg3, hat3⟩ := run_spreadG nodeCells_len nodeCells_one (ty := 24) (c := c3) Try.underlying24 info_node rfl (by decide) (by decide) HO1.out (HR3.out.below (HBe.out.mono hB)) (by simp only [if_true, if_neg (show ¬ (1 : Nat) = 0 by decide), if_neg (show ¬ (2 : Nat) = 0 by decide), if_neg (show ¬ (2 : Nat) = 1 by decide), List.length_nil, List.length_append, HLe.out.1, HLe.out.2.1]; omega) hsz
          have HO3 := Lib.hid ho3
          have HB3 := Lib.hid (HBe.out.grown hg3 hsz (fun k hk => HO1.out.lows k hk))
          clear ho3 hg3 hat3
          go_wp2_with (at_builtin; refine Go.Lib.wpList_append_run_sl _ (by rfl) (.tmp 31) (.tmp 32) 24 (by rfl) _ _ (by rfl) (by rfl) hr ?_)
          clear hr q0 q1 q2
          go_wp2
          go_roundw
          case rel => exact ⟨3, v', _, by decide, by go_num, rfl, HO3.out, by simp, HB3.out⟩
          case measure => simp [intOf]
        · go_wp2
          go_ret
          refine ⟨_, rfl, ?_, HBe.out⟩
          have := HL.out
          simp at this
          rw [← List.append_assoc] at this
          rw [← this]
          exact HO1.out
end Go.Proofs.Ytaijajajpnekbaa.num
namespace Go.Proofs.Ytaijajajpnekbaa.num
set_option maxRecDepth 20000
open Go.RowKit
set_option linter.unusedVariables false
set_option linter.unusedSimpArgs false

theorem info_wish : (Try.prog.info? 75).map (fun i => (i.zero, i.size, i.bytes)) = some (some (.agg #[.int .i64 0, .int .i64 0, .int .i64 0, .slice none 0 0, .slice none 0 0]), 5, 72) := by kernel_rfl
theorem datWs_snoc (ts : List Wi) (t : Wi) : datWs (ts ++ [t]) = datWs ts ++ [t.dat] := by unfold datWs; rw [List.map_append, List.map_singleton]
theorem short_snoc {ts : List Wi} {t : Wi} (h : ShortWs ts) (ht : t.Short) : ShortWs (ts ++ [t]) := fun u hu => by
  rcases List.mem_append.1 hu with h' | h'
  · exact h u h'
  · rw [List.mem_singleton.1 h']; exact ht
set_option maxRecDepth 20000 in
set_option maxHeartbeats 1600000 in
theorem sWishesOf (w : World) (B : Nat) (A : Option Addr) (n c : Nat) (ns : List Nd) (hi : Nodes w B A n ns) (hB : B ≤ w.heap.size) (hn : n ≤ 1048576) (hN : ShortN ns) (q : Bool) (hq : q = true ↔ IsE (datN ns)) :
    Calls Try.prog 41 #[.slice A n c] w fun e w' => ∃ v ts, e = .returned v ∧ datWs ts = wishesE q (datN ns) ∧ ShortWs ts ∧ OwnWs w' w.heap.size v ts ∧ Below w.heap.size w w' := by
  have HX := Lib.hid hi
  have HN := Lib.hid hN
  have HC : Hid (∀ w1, Below w.heap.size w w1 → Calls Try.prog 36 #[.slice A n c] w1 fun e w' => e = .returned (.bool q) ∧ Below w1.heap.size w1 w') := Lib.hid fun w1 h => sIsE w1 B A n c ns (hi.below (h.mono hB)) (Nat.le_trans hB h.size) hn hN q hq
  have HE : Hid (OwnWs (w.alloc (.cells #[] 75)) w.heap.size (.slice (some ⟨w.heap.size, 0, none⟩) 0 0) []) := Lib.hid ⟨OwnG.empty w w.heap.size (Nat.le_refl _), by simp, by simp, by simp⟩
  have HBe : Hid (Below w.heap.size w (w.alloc (.cells #[] 75))) := Lib.hid ((Below.refl _ w).alloc (Nat.le_refl _) _)
  clear hi hN hq
  go_enter Try.func41, Try.ntmps41
  go_wp2
  go_loopw [3, 4] (fun v i wr => ∃ (k : Nat) (ts : List Wi) (V : Value), k ≤ n ∧ i = .int .i64 k ∧ V = v ∧ OwnWs wr w.heap.size V ts ∧ datWs ts = wishL (datN (ns.take k)) ∧ ShortWs ts ∧ Below w.heap.size w wr ∧ (q = false → k = 0)) (fun _ i _ => n - (intOf i).toNat)
  case atStart => exact ⟨0, [], _, Nat.zero_le _, rfl, rfl, HE.out, rfl, by simp [ShortWs], HBe.out, fun _ => rfl⟩
  case round =>
    obtain ⟨k, ts, v, hk, rfl, rfl, hown, hdat, hsh, hbel, hq0⟩ := hrel
    have HO := Lib.hid hown
    have HD := Lib.hid hdat
    have HS := Lib.hid hsh
    have HB := Lib.hid hbel
    have HQ0 := Lib.hid hq0
    clear hown hdat hsh
    by_cases hlt : k < n
    · obtain ⟨b1, off, ⟨op, t⟩, rfl, hb1, hat, hwf, g0, g1, g2, g3, g4, g5⟩ := HX.out.at k hlt
      dsimp only at g0 g1 g2 g3 g4 g5
      have HT := Lib.hid hat
      have HWi : Hid (∀ W, Below wr.heap.size wr W → WiIn W B t) := Lib.hid fun W h => hwf.2.below ((hbel.mono hB).trans (h.mono (Nat.le_trans hB hbel.size)))
      have HBr : Hid (B ≤ wr.heap.size) := Lib.hid (Nat.le_trans hB hbel.size)
      have HSh : Hid t.Short := Lib.hid (HN.out _ (List.mem_of_getElem? hat))
      have hbw : b1 < w.heap.size := Nat.lt_of_lt_of_le hb1 hB
      have HG := Lib.hid (And.intro g0 (And.intro g1 (And.intro g2 (And.intro g3 (And.intro g4 g5)))))
      clear hat hwf hbel hq0 g0 g1 g2 g3 g4 g5
      go_wp2_with fail
      refine (HC.out _ HB.out).mono ?_
      rintro e w1 ⟨rfl, hb2⟩
      have HB1 := Lib.hid (below_on HB.out hb2)
      have HW1 := Lib.hid hb2
      clear hb2
      cases q
      · obtain rfl : k = 0 := HQ0.out rfl
        go_wp2
        go_ret
        refine ⟨_, ts, rfl, ?_, HS.out, HO.out.below HW1.out, HB1.out⟩
        rw [HD.out]; rfl
      · obtain ⟨h0, h1, h2, h3, h4, h5⟩ := HG.out
        have g0 := (HB1.out.cell (p := ⟨b1, off + k * 6, none⟩) hbw).trans h0
        have g1 := (HB1.out.cell (p := ⟨b1, off + k * 6 + 1, none⟩) hbw).trans h1
        have g2 := (HB1.out.cell (p := ⟨b1, off + k * 6 + 2, none⟩) hbw).trans h2
        have g3 := (HB1.out.cell (p := ⟨b1, off + k * 6 + 3, none⟩) hbw).trans h3
        have g4 := (HB1.out.cell (p := ⟨b1, off + k * 6 + 4, none⟩) hbw).trans h4
        have g5 := (HB1.out.cell (p := ⟨b1, off + k * 6 + 5, none⟩) hbw).trans h5
        clear h0 h1 h2 h3 h4 h5
        by_cases e0 : op = 0
        · subst e0
          have HCp : Hid (∀ W, Below wr.heap.size wr W → Calls Try.prog 72 #[.agg #[.int .i64 t.kind, .int .i64 t.field, .int .i64 t.value, .slice t.LA t.Ln t.Lc, .slice t.PA t.Pn t.Pc]] W fun e w' => ∃ t' : Wi, e = .returned t'.val ∧ t'.dat = t.dat ∧ t'.Short ∧ WiO w' W.heap.size t' ∧ Below W.heap.size W w') := Lib.hid fun W h => sWish_c W B t (HWi.out W h) (Nat.le_trans HBr.out h.size) HSh.out
          go_wp2_with fail
          refine (HCp.out _ HW1.out).mono ?_
          rintro e w2 ⟨t', rfl, hd', hs', ho', hb3⟩
          have HW2 := Lib.hid (below_on HW1.out hb3)
          have HB2 := Lib.hid (below_on HB1.out hb3)
          have HO2 := Lib.hid (HO.out.below HW2.out)
          have HTo : Hid (WiO w2 w.heap.size t') := Lib.hid (ho'.low HB1.out.size)
          have HAp : Hid (∀ b, t'.has b → ¬ hasWs v ts b) := Lib.hid fun b h1 h2 => by
            have q1 := (ho'.has_in h1).1
            have q2 := (HO.out.has_in h2).2
            have q3 := HW1.out.size
            omega
          have HD2 := Lib.hid hd'
          have HS2 := Lib.hid hs'
          have hlen : (ts.length + 1) * 72 ≤ 140737488355328 := by
            have h1 := congrArg List.length HD.out
            have h2 := wishL_len (datN (ns.take k))
            unfold datWs at h1
            rw [List.length_map] at h1
            have h3 : (datN (ns.take k)).length ≤ k := by unfold datN; rw [List.length_map, List.length_take]; omega
            omega
          have HLn := Lib.hid hlen
          clear hb3 hd' hs' ho' g0 g1 g2 g3 g4 g5 hlen
          unfold Wi.val
          go_wp2_with (at_builtin; refine wp_appG wishCells_len wishCells_one (T := 75) (tS := 59) Try.underlying59 info_wish rfl (by decide) w2 (by rfl) (.tmp 22) (.tmp 29) (by rfl) w.heap.size v ts (by rfl) HO2.out.r _ t' (by rfl) 1 _ rfl (by rfl) HLn.out (by decide) HB2.out.size ?_)
          intro v' w3 hr hg hat
          have HO3 := Lib.hid (HO2.out.snoc hg hat hr HTo.out HAp.out)
          have HB3 := Lib.hid (HB2.out.grown hg HB2.out.size (fun k hk => HO2.out.r.lows k hk))
          clear hr hg hat
          go_wp2
          go_roundw
          case rel =>
            refine ⟨k + 1, ts ++ [t'], _, by omega, by go_num, rfl, HO3.out, ?_, short_snoc HS.out HS2.out, HB3.out, fun h => by cases h⟩
            rw [datWs_snoc, datN_at HT.out, wishL_snoc_base rfl, HD.out, HD2.out]
            rfl
          case measure => simp [intOf]; omega
        · have f0 : (op == 0) = false := by simpa using e0
          have HO1 := Lib.hid (HO.out.below HW1.out)
          go_wp2
          go_roundw
          case rel =>
            refine ⟨k + 1, ts, _, by omega, by go_num, rfl, HO1.out, ?_, HS.out, HB1.out, fun h => by cases h⟩
            rw [datN_at HT.out, wishL_snoc_op (show (Nd.dat ⟨op, t⟩).op ≠ 0 from e0), HD.out]
          case measure => simp [intOf]; omega
    · obtain rfl : k = n := by omega
      clear hbel hq0
      go_wp2
      go_ret
      refine ⟨_, ts, rfl, ?_, HS.out, HO.out, HB.out⟩
      rw [HD.out]
      cases q
      · obtain rfl : k = 0 := HQ0.out rfl
        rfl
      · have ht : ns.take k = ns := List.take_of_length_le (by rw [HX.out.len]; exact Nat.le_refl _)
        rw [ht]; rfl

set_option maxRecDepth 20000 in
set_option maxHeartbeats 1600000 in
theorem iWishesOfW (w : World) (B : Nat) (A : Option Addr) (n c : Nat) (ns : List Nd) (hi : Nodes w B A n ns) (hB : B ≤ w.heap.size) (hnc : n ≤ c) (hc : c ≤ 9223372036854775807) (hn : n ≤ 1048576) (hN : ShortN ns) (q : Bool) (hq : q = true ↔ IsE (datN ns)) :
    Calls Try.prog 40 #[.slice A n c] w fun e w' => ∃ v ts, e = .returned v ∧ datWs ts = wishesE q (datN ns) ∧ ShortWs ts ∧ OwnWs w' w.heap.size v ts ∧ Below w.heap.size w w' := by
  have HC := Lib.hid (iIsEW w B A n c ns hi hB hnc hc hN q hq)
  have HCp : Hid (∀ w1, Below w.heap.size w w1 → Calls Try.prog 51 #[.slice A n c] w1 fun e w' => ∃ v ns', e = .returned v ∧ datN ns' = datN ns ∧ ShortN ns' ∧ OwnN w' w1.heap.size v ns' ∧ Below w1.heap.size w1 w') := Lib.hid fun w1 h => copyNodes_c w1 B A n c ns (hi.below (h.mono hB)) (Nat.le_trans hB h.size) hn hN
  have HLn : Hid (ns.length ≤ 1048576) := Lib.hid (by rw [hi.len]; omega)
  clear hi hN hq
  go_enter Try.func40, Try.ntmps40
  go_wp2_with fail
  refine HC.out.mono ?_
  rintro e w0 ⟨rfl, hb0⟩
  have HB0 := Lib.hid hb0
  clear hb0 HC
  cases q
  · go_wp2
    go_ret
    exact ⟨_, [], rfl, rfl, by simp [ShortWs], ⟨.nil _ _, by simp, by simp, by simp⟩, HB0.out⟩
  go_wp2_with fail
  refine (HCp.out _ HB0.out).mono ?_
  rintro e w1 ⟨v0, ns', rfl, hdn, hsn, ho0, hb1⟩
  obtain ⟨A0, c0, rfl, -, hc0⟩ := ho0.r.shape
  obtain ⟨m, hm⟩ : ∃ m, ns'.length = m := ⟨_, rfl⟩
  have hm' : m ≤ 1048576 := by
    have h1 := congrArg List.length hdn
    unfold datN at h1
    rw [List.length_map, List.length_map] at h1
    have := HLn.out
    omega
  rw [hm] at ho0 ⊢
  have HN0 := Lib.hid ho0
  have HNs := Lib.hid ho0.nodes
  have HDn := Lib.hid hdn
  have HSn := Lib.hid hsn
  have HB1 := Lib.hid (below_on HB0.out hb1)
  have HBs : Hid (w.heap.size ≤ w1.heap.size) := Lib.hid HB1.out.size
  have HLm := Lib.hid hm
  have HL0 : Hid (w.heap.size ≤ w0.heap.size) := Lib.hid HB0.out.size
  clear hdn hsn ho0 hb1 hc0 hm
  go_wp2
  go_loopw [3, 12] (fun v i wr => ∃ (k : Nat) (ts : List Wi) (V : Value), k ≤ m ∧ i = .int .i64 k ∧ V = v ∧ OwnWs wr w.heap.size V ts ∧ datWs ts = wishL (datN (ns'.take k)) ∧ ShortWs ts ∧ Below w1.heap.size w1 wr ∧ (∀ t ∈ ts, ∃ (i : Nat) (x : Nd), i < k ∧ ns'[i]? = some x ∧ x.t = t) ∧ ∀ b, V.ownBlock = some b → w1.heap.size ≤ b) (fun _ i _ => m - (intOf i).toNat)
  case atStart => exact ⟨0, [], _, Nat.zero_le _, rfl, rfl, ⟨.nil _ _, by simp, by simp, by simp⟩, rfl, by simp [ShortWs], Below.refl _ _, by simp, fun b h => by cases h⟩
  case round =>
    obtain ⟨k, ts, v, hk, rfl, rfl, hown, hdat, hsh, hbel, hfrom, hrow⟩ := hrel
    have HO := Lib.hid hown
    have HD := Lib.hid hdat
    have HS := Lib.hid hsh
    have HB := Lib.hid hbel
    have HF := Lib.hid hfrom
    have HR := Lib.hid hrow
    clear hown hdat hsh hfrom hrow
    by_cases hlt : k < m
    · obtain ⟨b1, off, ⟨op, t⟩, rfl, hb1, hat, hwf, g0, g1, g2, g3, g4, g5⟩ := HNs.out.at k hlt
      dsimp only at g0 g1 g2 g3 g4 g5
      have HT := Lib.hid hat
      have g0 := (hbel.cell (p := ⟨b1, off + k * 6, none⟩) hb1).trans g0
      have g1 := (hbel.cell (p := ⟨b1, off + k * 6 + 1, none⟩) hb1).trans g1
      have g2 := (hbel.cell (p := ⟨b1, off + k * 6 + 2, none⟩) hb1).trans g2
      have g3 := (hbel.cell (p := ⟨b1, off + k * 6 + 3, none⟩) hb1).trans g3
      have g4 := (hbel.cell (p := ⟨b1, off + k * 6 + 4, none⟩) hb1).trans g4
      have g5 := (hbel.cell (p := ⟨b1, off + k * 6 + 5, none⟩) hb1).trans g5
      obtain ⟨OB, hOB⟩ : ∃ OB : Obj, OB = .cells #[.int .i64 op, .int .i64 t.kind, .int .i64 t.field, .int .i64 t.value, .slice t.LA t.Ln t.Lc, .slice t.PA t.Pn t.Pc] 77 := ⟨_, rfl⟩
      have HW2 : Hid (Below wr.heap.size wr (wr.alloc (.cells #[.int .i64 op, .int .i64 t.kind, .int .i64 t.field, .int .i64 t.value, .slice t.LA t.Ln t.Lc, .slice t.PA t.Pn t.Pc] 77))) := Lib.hid ((Below.refl _ _).alloc (Nat.le_refl _) _)
      have HO2 := Lib.hid (HO.out.below HW2.out)
      have HB2 := Lib.hid (below_on HB.out HW2.out)
      have HTo : Hid (WiO (wr.alloc (.cells #[.int .i64 op, .int .i64 t.kind, .int .i64 t.field, .int .i64 t.value, .slice t.LA t.Ln t.Lc, .slice t.PA t.Pn t.Pc] 77)) w.heap.size t) := Lib.hid (((HN0.out.x k _ hat).2.low HL0.out).below HB2.out)
      have HAp : Hid (∀ b, t.has b → ¬ hasWs v ts b) := Lib.hid fun b h1 h2 => by
        have q1 := ((HN0.out.x k _ hat).2.has_in h1).2
        rcases h2 with h2 | ⟨u, hu, h2⟩
        · have := HR.out b h2; omega
        · obtain ⟨i, x, hik, hx, rfl⟩ := HF.out u hu
          exact HN0.out.d i k x _ b hik hx hat h2 h1
      have HSt : Hid t.Short := Lib.hid (HSn.out _ (List.mem_of_getElem? hat))
      have hlen : (ts.length + 1) * 72 ≤ 140737488355328 := by
        have h1 := congrArg List.length HD.out
        have h2 := wishL_len (datN (ns'.take k))
        unfold datWs at h1
        rw [List.length_map] at h1
        have h3 : (datN (ns'.take k)).length ≤ k := by unfold datN; rw [List.length_map, List.length_take]; omega
        omega
      have HLn2 := Lib.hid hlen
      clear hat hwf hbel hlen hOB OB
      by_cases e0 : op = 0
      · subst e0
        go_wp2_with (at_builtin; refine wp_appG wishCells_len wishCells_one (T := 75) (tS := 59) Try.underlying59 info_wish rfl (by decide) _ (by rfl) (.tmp 19) (.tmp 22) (by rfl) w.heap.size v ts (by rfl) HO2.out.r _ t (by rfl) 1 (wr.heap.size + 1) (by simp) (by rfl) HLn2.out (by decide) (Nat.le_trans HBs.out HB2.out.size) ?_)
        intro v' w3 hr hg hat
        have HO3 := Lib.hid (HO2.out.snoc hg (by simpa using hat) hr HTo.out HAp.out)
        have HB3 := Lib.hid (HB2.out.grown hg HB2.out.size (fun k hk => HR.out k hk))
        have HR3 : Hid (∀ b, v'.ownBlock = some b → w1.heap.size ≤ b) := Lib.hid fun b hb => by
          rcases hat with q | q
          · exact HR.out b (q ▸ hb)
          · rw [q] at hb
            have h1 := Option.some.inj hb
            have h2 := HB2.out.size
            simp at h2
            omega
        clear hr hg hat g0 g1 g2 g3 g4 g5
        go_wp2
        go_roundw
        case rel =>
          refine ⟨k + 1, ts ++ [t], _, by omega, by go_num, rfl, HO3.out, ?_, short_snoc HS.out HSt.out, HB3.out, fun u hu => ?_, HR3.out⟩
          · rw [datWs_snoc, datN_at HT.out, wishL_snoc_base rfl, HD.out]
            rfl
          · rcases List.mem_append.1 hu with h | h
            · obtain ⟨i, x, h1, h2, h3⟩ := HF.out u h
              exact ⟨i, x, by omega, h2, h3⟩
            · exact ⟨k, _, by omega, HT.out, (List.mem_singleton.1 h).symm⟩
        case measure => simp [intOf]; omega
      · have f0 : (op == 0) = false := by simpa using e0
        go_wp2
        go_roundw
        case rel =>
          refine ⟨k + 1, ts, _, by omega, by go_num, rfl, HO2.out, ?_, HS.out, HB2.out, fun u hu => ?_, HR.out⟩
          · rw [datN_at HT.out, wishL_snoc_op (show (Nd.dat ⟨op, t⟩).op ≠ 0 from e0), HD.out]
          · obtain ⟨i, x, h1, h2, h3⟩ := HF.out u hu
            exact ⟨i, x, by omega, h2, h3⟩
        case measure => simp [intOf]; omega
    · obtain rfl : k = m := by omega
      clear hbel
      go_wp2
      go_ret
      refine ⟨_, ts, rfl, ?_, HS.out, HO.out, HB1.out.trans (HB.out.mono HBs.out)⟩
      have ht : ns'.take k = ns' := List.take_of_length_le (by rw [HLm.out]; exact Nat.le_refl _)
      rw [HD.out, ht, HDn.out]
      rfl
theorem iWishesOf (w : World) (B : Nat) (A : Option Addr) (n c : Nat) (ns : List Nd) (hi : Nodes w B A n ns) (hB : B ≤ w.heap.size) (hnc : n ≤ c) (hc : c ≤ 1048576) (hN : ShortN ns) (q : Bool) (hq : q = true ↔ IsE (datN ns)) :
    Calls Try.prog 40 #[.slice A n c] w fun e w' => ∃ v ts, e = .returned v ∧ datWs ts = wishesE q (datN ns) ∧ ShortWs ts ∧ OwnWs w' w.heap.size v ts ∧ Below w.heap.size w w' := iWishesOfW w B A n c ns hi hB hnc (Nat.le_trans hc (by decide)) (Nat.le_trans hnc hc) hN q hq
end Go.Proofs.Ytaijajajpnekbaa.num
