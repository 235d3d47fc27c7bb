/- Contracts of functions that the laws of this chapter call, packed. -/
import Derived.Test.YtadjoiahllekdaaExpCopy
import Derived.Test.YtadjoiahllekdaaPairMarkI
import Derived.Test.YtadjoiahllekdaaWishSpecB
import Derived.Test.YtadjoiahllekdaaSpread
import Derived.Lib.SliceRun
import Derived.Deep.RegionLaw
import Derived.Test.YtadjoiahllekdaaItemEq
import Derived.Test.YtadjoiahllekdaaRegion
import Derived.Test.YtadjoiahllekdaaPairEq
import Derived.Test.YtadjoiahllekdaaWishSpec
import Derived.Test.YtadjoiahllekdaaPairProg
import Derived.Test.YtadjoiahllekdaaWishVal
import Derived.Test.YtadjoiahllekdaaWishSpecC
import Derived.BigRegion
import Derived.Test.YtadjoiahllekdaaExpMath
import Derived.Test.YtadjoiahllekdaaWishCp
import Derived.Lib.AppendZeros
import Derived.Test.YtadjoiahllekdaaItemDraw
import Derived.Test.YtadjoiahllekdaaItemSpec
import Derived.Test.YtadjoiahllekdaaPairDraw
import Derived.Test.YtadjoiahllekdaaDraw3
import Derived.Test.YtadjoiahllekdaaWishCmp
import Derived.Test.YtadjoiahllekdaaWishSpecD
import Derived.Test.YtadjoiahllekdaaWishLaw
import Derived.Test.YtadjoiahllekdaaItemImpl
namespace Go.Proofs.Ytadjoiahllekdaa.num
set_option maxRecDepth 20000
open Go.RowKit
set_option linter.unusedVariables false
set_option linter.unusedSimpArgs false

/-- w' is w but for the blocks in S. -/
structure OnlyS (S : Nat → Prop) (w w' : World) : Prop where
  os : w'.os = w.os
  tape : w'.tape = w.tape
  output : w'.output = w.output
  size : w'.heap.size = w.heap.size
  block : ∀ k, ¬ S k → w'.heap[k]? = w.heap[k]?
theorem OnlyS.refl (S : Nat → Prop) (w : World) : OnlyS S w w := ⟨rfl, rfl, rfl, rfl, fun _ _ => rfl⟩
theorem OnlyS.trans {S : Nat → Prop} {w w1 w2 : World} (h : OnlyS S w w1) (h' : OnlyS S w1 w2) : OnlyS S w w2 :=
  ⟨h'.os.trans h.os, h'.tape.trans h.tape, h'.output.trans h.output, h'.size.trans h.size, fun k hk => (h'.block k hk).trans (h.block k hk)⟩
theorem OnlyS.sub {S S' : Nat → Prop} {w w' : World} (h : OnlyS S w w') (hs : ∀ k, S k → S' k) : OnlyS S' w w' := ⟨h.os, h.tape, h.output, h.size, fun k hk => h.block k fun e => hk (hs k e)⟩
theorem OnlyS.set {S : Nat → Prop} {w w' : World} (h : OnlyS S w w') {g : Nat} (hg : S g) (j : Nat) (u : Value) : OnlyS S w (w'.setCell ⟨g, j, none⟩ u) :=
  ⟨h.os, h.tape, h.output, by simpa [World.setCell] using h.size, fun k hk => (Below.heap_setCell w' ⟨g, j, none⟩ u k (fun e => hk (by rw [e]; exact hg))).trans (h.block k hk)⟩
theorem OnlyV.s {v : Value} {S : Nat → Prop} {w w' : World} (h : OnlyV v w w') (hS : ∀ k, v.ownBlock = some k → S k) : OnlyS S w w' := ⟨h.os, h.tape, h.output, h.size, fun k hk => h.block k fun e => hk (hS k e)⟩
theorem OnlyS.below {S : Nat → Prop} {B : Nat} {w w' : World} (h : OnlyS S w w') (hB : ∀ k, S k → B ≤ k) : Below B w w' :=
  ⟨h.os, h.tape, h.output, by rw [h.size]; exact Nat.le_refl _, fun k hk => h.block k (fun e => by have := hB k e; omega)⟩
theorem wf_small {k : Nat} (h : k ≤ 9223372036854775807) : (Lit.int .i64 (k : Int)).wf = true := by simp [Lit.wf, IntKind.min, IntKind.max, IntKind.signed, IntKind.bits]; omega
theorem markI' (w : World) (B : Nat) (v : Value) (l : List Int) (h : OwnI w B v l) (hn : l.length ≤ 1048576) (z : Int) (k0 : Nat) (hz : z = (k0 : Int)) (hk0 : k0 ≤ 1152921504606846976) :
    Calls Try.prog 36 #[v, .int .i64 z] w fun e w' => e = .returned (.int .i64 ((k0 + l.length : Nat) : Int)) ∧ OwnI w' B v (marks k0 l.length) ∧ OnlyV v w w' := by
  rw [hz]; exact markI w B v l h hn k0 hk0
theorem heldI' (w : World) (B : Nat) (v : Value) (k0 n : Nat) (h : OwnI w B v (marks k0 n)) (hn : n ≤ 1048576) (z : Int) (hz : z = (k0 : Int)) (hk0 : k0 ≤ 1152921504606846976) :
    Calls Try.prog 37 #[v, .int .i64 z] w fun e w' => e = .returned (.int .i64 ((k0 + n : Nat) : Int)) ∧ w = w' := by
  rw [hz]; exact heldI w B v k0 n h hn hk0
theorem fm_set {α : Type} {f : α → List Value} {s : Nat} (hf : ∀ x, (f x).length = s) (l : List α) (k : Nat) (y : α) (hk : k < l.length) (j : Nat) (hj : j < l.length * s) : ((l.set k y).flatMap f)[j]? = if j / s = k then (f y)[j % s]? else (l.flatMap f)[j]? := by
  have hs : 0 < s := by
    rcases Nat.eq_zero_or_pos s with e | e
    · subst e; simp at hj
    · exact e
  have hi : j / s < l.length := by rw [Nat.div_lt_iff_lt_mul hs]; exact hj
  have hm := Nat.mod_lt j hs
  have e : j / s * s + j % s = j := by rw [Nat.mul_comm]; exact Nat.div_add_mod j s
  by_cases h : j / s = k
  · rw [if_pos h]
    have h1 := fm_at hf (l.set k y) (j / s) (j % s) y (by rw [h, List.getElem?_set_self hk]) hm
    rwa [e] at h1
  · rw [if_neg h]
    have hg : l[j / s]? = some l[j / s] := List.getElem?_eq_getElem hi
    have h1 := fm_at hf (l.set k y) (j / s) (j % s) l[j / s] (by rw [List.getElem?_set_ne (fun e => h e.symm)]; exact hg) hm
    have h2 := fm_at hf l (j / s) (j % s) l[j / s] hg hm
    rw [e] at h1 h2
    rw [h1, h2]
def markNd (k : Nat) (x : Nd) : Nd := ⟨((k : Nat) : Int), ⟨((k + 1 : Nat) : Int), ((k + 2 : Nat) : Int), ((k + 3 : Nat) : Int), x.t.LA, x.t.Ln, x.t.Lc, marks (k + 4) x.t.ls.length, x.t.PA, x.t.Pn, x.t.Pc, pmarks (k + 4 + x.t.ls.length) x.t.ps.length⟩⟩
def cntNd (x : Nd) : Nat := 4 + x.t.ls.length + 2 * x.t.ps.length
def markN : Nat → List Nd → List Nd
  | _, [] => []
  | k, x :: r => markNd k x :: markN (k + cntNd x) r
def cntN : List Nd → Nat
  | [] => 0
  | x :: r => cntNd x + cntN r
theorem cntN_snoc (l : List Nd) (x : Nd) : cntN (l ++ [x]) = cntN l + cntNd x := by
  induction l with
  | nil => simp [cntN]
  | cons y r ih => simp only [List.cons_append, cntN, ih]; omega
theorem markN_snoc (l : List Nd) (x : Nd) : ∀ k, markN k (l ++ [x]) = markN k l ++ [markNd (k + cntN l) x] := by
  induction l with
  | nil => intro k; simp [markN, cntN]
  | cons y r ih => intro k; simp only [List.cons_append, markN, cntN, ih]; rw [Nat.add_assoc]
theorem markN_len (l : List Nd) : ∀ k, (markN k l).length = l.length := by
  induction l with
  | nil => intro k; rfl
  | cons y r ih => intro k; simp [markN, ih]
theorem markN_at (l : List Nd) : ∀ (k i : Nat) (x : Nd), l[i]? = some x → (markN k l)[i]? = some (markNd (k + cntN (l.take i)) x) := by
  induction l with
  | nil => intro k i x h; simp at h
  | cons y r ih =>
    intro k i x h
    cases i with
    | zero => simp at h; subst h; simp [markN, cntN]
    | succ i =>
      have h' : r[i]? = some x := by simpa using h
      simp only [markN, List.getElem?_cons_succ, List.take_succ_cons, cntN]
      rw [ih _ i x h', Nat.add_assoc]
/-- Each count of a short list is small. -/
theorem cntN_le {l : List Nd} (h : ∀ x ∈ l, x.t.ls.length ≤ 1048576 ∧ x.t.ps.length ≤ 1048576) : cntN l ≤ l.length * 3145732 := by
  induction l with
  | nil => simp [cntN]
  | cons y r ih =>
    have h1 := ih fun x hx => h x (List.mem_cons_of_mem _ hx)
    have h2 := h y (List.mem_cons_self ..)
    simp only [cntN, cntNd, List.length_cons]
    omega
/-- As far as k, the marks; the rest as it was. -/
theorem markN_step {l : List Nd} {k k0 : Nat} {x : Nd} (h : l[k]? = some x) : (markN k0 (l.take k) ++ l.drop k)[k]? = some x ∧ (markN k0 (l.take k) ++ l.drop k).set k (markNd (k0 + cntN (l.take k)) x) = markN k0 (l.take (k + 1)) ++ l.drop (k + 1) := by
  have hlt : k < l.length := by
    rcases Nat.lt_or_ge k l.length with g | g
    · exact g
    · rw [List.getElem?_eq_none g] at h; cases h
  have hl : (markN k0 (l.take k)).length = k := by rw [markN_len, List.length_take]; omega
  have hd : l.drop k = x :: l.drop (k + 1) := by
    rw [List.drop_eq_getElem_cons hlt]
    rw [List.getElem?_eq_getElem hlt] at h
    rw [Option.some.inj h]
  refine ⟨by rw [List.getElem?_append_right (by omega), hl, hd]; simp, ?_⟩
  rw [hd, List.set_append_right _ _ (by omega), hl, Nat.sub_self, List.set_cons_zero, ptake_at h, markN_snoc, List.append_assoc, List.singleton_append]

theorem OwnN.cells_at {w : World} {B g n c k : Nat} {l : List Nd} {x : Nd} (h : OwnN w B (.slice (some ⟨g, 0, none⟩) n c) l) (hk : l[k]? = some x) : (∀ (j : Nat) (v : Value), (nodeCells x)[j]? = some v → w.cell? ⟨g, k * 6 + j, none⟩ = some v) ∧ ∀ j, w.frozen? ⟨g, j, none⟩ = false := by
  refine ⟨fun j v hv => ?_, fun j => ?_⟩
  · obtain ⟨b, off, e, _, hc⟩ := (h.r.read nodeCells_len).at' k x hk
    injection e with e
    injection e with e1 e2
    subst e1 e2
    have := hc j v hv
    rwa [Nat.zero_add] at this
  · rcases h.r.row with ⟨e, _⟩ | ⟨g', cap, f, e, _, _, _, hrow, _⟩
    · cases e
    · injection e with e _ _
      injection e with e
      injection e with e
      subst e
      exact World.rowIs.frozen hrow j
set_option maxRecDepth 20000 in
/-- One element is marked. -/
theorem OwnN.mark1 {w w5 w6 : World} {B g n c : Nat} {l : List Nd} {k m : Nat} {x : Nd} {u0 : Int} {u1 : Int} {u2 : Int} {u3 : Int} (hu0 : u0 = ((m : Nat) : Int)) (hu1 : u1 = ((m + 1 : Nat) : Int)) (hu2 : u2 = ((m + 2 : Nat) : Int)) (hu3 : u3 = ((m + 3 : Nat) : Int)) (hm : m ≤ 4700000000000000000) (h : OwnN w B (.slice (some ⟨g, 0, none⟩) n c) l) (hk : l[k]? = some x)
    (h5 : OnlyV (.slice x.t.LA x.t.Ln x.t.Lc) (((((w.setCell ⟨g, k * 6, none⟩ (.int .i64 u0)).setCell ⟨g, k * 6 + 1, none⟩ (.int .i64 u1)).setCell ⟨g, k * 6 + 2, none⟩ (.int .i64 u2)).setCell ⟨g, k * 6 + 3, none⟩ (.int .i64 u3))) w5) (hl : OwnI w5 B (.slice x.t.LA x.t.Ln x.t.Lc) (marks (m + 4) x.t.ls.length)) (h6 : OnlyV (.slice x.t.PA x.t.Pn x.t.Pc) w5 w6) (hp : OwnP w6 B (.slice x.t.PA x.t.Pn x.t.Pc) (pmarks (m + 4 + x.t.ls.length) x.t.ps.length)) :
    OwnN w6 B (.slice (some ⟨g, 0, none⟩) n c) (l.set k (markNd m x)) ∧ OnlyS (hasN (.slice (some ⟨g, 0, none⟩) n c) l) w w6 ∧ ∀ b, hasN (.slice (some ⟨g, 0, none⟩) n c) (l.set k (markNd m x)) b → hasN (.slice (some ⟨g, 0, none⟩) n c) l b := by
  have hlt : k < l.length := by
    rcases Nat.lt_or_ge k l.length with q | q
    · exact q
    · rw [List.getElem?_eq_none q] at hk; cases hk
  obtain ⟨hwf, hx⟩ := (⟨trivial, (h.x k x hk).2⟩ : True ∧ WiO w B x.t)
  have hmem : x ∈ l := List.mem_of_getElem? hk
  have a1 : (Value.slice x.t.LA x.t.Ln x.t.Lc).ownBlock ≠ some g := fun e => h.a k x g hk (.inl e) rfl
  have a2 : (Value.slice x.t.PA x.t.Pn x.t.Pc).ownBlock ≠ some g := fun e => h.a k x g hk (.inr e) rfl
  have hoth : ∀ b, b ≠ g → ¬ x.t.has b → w6.heap[b]? = w.heap[b]? := fun b hb hn => by
    rw [h6.block b fun e => hn (.inr e), h5.block b fun e => hn (.inl e)]
    repeat rw [heap_setCell_other _ _ _ _ (by simpa using hb)]
  have hget : ∀ (i : Nat) (y : Nd), (l.set k (markNd m x))[i]? = some y → (i = k ∧ y = markNd m x) ∨ (i ≠ k ∧ l[i]? = some y) := fun i y hy => by
    by_cases e : i = k
    · subst e
      rw [List.getElem?_set_self hlt] at hy
      exact .inl ⟨rfl, (Option.some.inj hy).symm⟩
    · rw [List.getElem?_set_ne (fun e' => e e'.symm)] at hy
      exact .inr ⟨e, hy⟩
  have hhas : ∀ b, (markNd m x).t.has b → x.t.has b := fun b hb => hb
  refine ⟨⟨?_, ?_, ?_, ?_⟩, ?_, ?_⟩
  · rcases h.r.row with ⟨e, _⟩ | ⟨g', cap, f, e, hB, hle, hcap, hrow, hf⟩
    · cases e
    · injection e with e1 e2 e3
      injection e1 with e1
      injection e1 with e1
      subst e1 e2 e3
      have hr6 := World.rowIs.of_block (World.rowIs.of_block (World.rowIs.set (World.rowIs.set (World.rowIs.set (World.rowIs.set hrow (k * 6) (.int .i64 u0)) (k * 6 + 1) (.int .i64 u1)) (k * 6 + 2) (.int .i64 u2)) (k * 6 + 3) (.int .i64 u3)) (h5.block g a1)) (h6.block g a2)
      refine OwnG.of_row nodeCells_len hB (by simp) hle hcap hr6 fun j hj => ?_
      rw [fm_set nodeCells_len l k _ hlt j hj]
      by_cases e : j / 6 = k
      · obtain ⟨r, hr, rfl⟩ : ∃ r, r < 6 ∧ j = k * 6 + r := ⟨j % 6, Nat.mod_lt _ (by decide), by omega⟩
        rw [if_pos e, show (k * 6 + r) % 6 = r by omega]
        have hold := hf _ hj
        rw [fm_at nodeCells_len l k r x hk hr] at hold
        have hr' : r = 0 ∨ r = 1 ∨ r = 2 ∨ r = 3 ∨ r = 4 ∨ r = 5 := by omega
        rcases hr' with rfl | rfl | rfl | rfl | rfl | rfl
        · rw [if_neg (by omega), if_neg (by omega), if_neg (by omega), if_pos (by omega)]; exact (congrArg some (congrArg (Value.int .i64) hu0)).symm
        · rw [if_neg (by omega), if_neg (by omega), if_pos rfl]; exact (congrArg some (congrArg (Value.int .i64) hu1)).symm
        · rw [if_neg (by omega), if_pos rfl]; exact (congrArg some (congrArg (Value.int .i64) hu2)).symm
        · rw [if_pos rfl]; exact (congrArg some (congrArg (Value.int .i64) hu3)).symm
        · rw [if_neg (by omega), if_neg (by omega), if_neg (by omega), if_neg (by omega)]
          exact hold
        · rw [if_neg (by omega), if_neg (by omega), if_neg (by omega), if_neg (by omega)]
          exact hold
      · rw [if_neg e, hf j hj]
        congr 1
        have hj' : ¬ (k * 6 ≤ j ∧ j < k * 6 + 6) := by omega
        rw [if_neg (by omega), if_neg (by omega), if_neg (by omega), if_neg (by omega)]
  · intro i y hy
    rcases hget i y hy with ⟨rfl, rfl⟩ | ⟨hne, hy⟩
    · exact ⟨wf_small (by omega), ⟨wf_small (by omega), wf_small (by omega), wf_small (by omega), ownI_blocks hl (fun b hb => h6.block b (hx.a b hb)), hp, hx.a⟩⟩
    · obtain ⟨q1, q2⟩ := h.x i y hy
      refine ⟨q1, q2.blocks fun b hb => hoth b (fun e => h.a i y b hy hb (by rw [e]; rfl)) fun hb' => ?_⟩
      rcases Nat.lt_or_gt_of_ne hne with q | q
      · exact h.d i k y x b q hy hk hb hb'
      · exact h.d k i x y b q hk hy hb' hb
  · intro i y b hy hb
    rcases hget i y hy with ⟨rfl, rfl⟩ | ⟨hne, hy⟩
    · exact h.a i x b hk (hhas b hb)
    · exact h.a i y b hy hb
  · intro i j y z b hij hy hz hb hb'
    rcases hget i y hy with ⟨ei, rfl⟩ | ⟨_, hy2⟩ <;> rcases hget j z hz with ⟨ej, rfl⟩ | ⟨_, hz2⟩
    · omega
    · exact h.d i j x z b hij (by rw [ei]; exact hk) hz2 (hhas b hb) hb'
    · exact h.d i j y x b hij hy2 (by rw [ej]; exact hk) hb (hhas b hb')
    · exact h.d i j y z b hij hy2 hz2 hb hb'
  · have hs : ∀ b, x.t.has b → hasN (.slice (some ⟨g, 0, none⟩) n c) l b := fun b hb => .inr ⟨x, hmem, hb⟩
    exact ((((((OnlyS.refl _ w).set (.inl rfl) _ _).set (.inl rfl) _ _).set (.inl rfl) _ _).set (.inl rfl) _ _).trans (h5.s fun b hb => hs b (.inl hb))).trans (h6.s fun b hb => hs b (.inr hb))
  · intro b hb
    rcases hb with hb | ⟨y, hy, hb⟩
    · exact .inl hb
    · obtain ⟨i, hi, rfl⟩ := List.getElem_of_mem hy
      rcases hget i _ (List.getElem?_eq_getElem hi) with ⟨_, e⟩ | ⟨_, hy'⟩
      · rw [e] at hb
        exact .inr ⟨x, hmem, hhas b hb⟩
      · exact .inr ⟨_, List.mem_of_getElem? hy', hb⟩
set_option maxRecDepth 20000 in
set_option maxHeartbeats 1600000 in
theorem markNodeS_c (w : World) (B : Nat) (v : Value) (ns : List Nd) (h : OwnN w B v ns) (hn : ns.length ≤ 1048576) (hN : ∀ x ∈ ns, x.t.ls.length ≤ 1048576 ∧ x.t.ps.length ≤ 1048576) (k0 : Nat) (hk0 : k0 ≤ 1125899906842624) :
    Calls Try.prog 35 #[v, .int .i64 k0] w fun e w' => e = .returned (.int .i64 ((k0 + cntN ns : Nat) : Int)) ∧ OwnN w' B v (markN k0 ns) ∧ OnlyS (hasN v ns) w w' := by
  rcases h.r.row with ⟨rfl, rfl⟩ | ⟨g, cap, f, rfl, hB, hle, hcap, hrow, hf⟩
  · go_enter Try.func35, Try.ntmps35
    go_wp2
    go_loopw [1, 5] (fun m i wr => i = .int .i64 0 ∧ m = .int .i64 k0 ∧ wr = w) (fun _ _ _ => 0)
    case atStart => exact ⟨rfl, rfl, rfl⟩
    case round =>
      obtain ⟨rfl, rfl, rfl⟩ := hrel
      go_wp2
      go_ret
      exact ⟨rfl, h, OnlyS.refl _ _⟩
  · obtain ⟨n, hn'⟩ : ∃ n, n = ns.length := ⟨_, rfl⟩
    rw [← hn'] at hn hle ⊢
    rw [← hn'] at h
    have HX := Lib.hid h
    have HN := Lib.hid hN
    have HLen := Lib.hid hn'
    have hcap' : cap ≤ 9223372036854775807 := by unfold maxLen at hcap; omega
    clear h hrow hf hN hn' hcap
    go_enter Try.func35, Try.ntmps35
    go_wp2
    go_loopw [1, 5] (fun m i wr => ∃ k : Nat, k ≤ n ∧ i = .int .i64 k ∧ m = .int .i64 ((k0 + cntN (ns.take k) : Nat) : Int) ∧ OwnN wr B (.slice (some ⟨g, 0, none⟩) n cap) (markN k0 (ns.take k) ++ ns.drop k) ∧ OnlyS (hasN (.slice (some ⟨g, 0, none⟩) n cap) ns) w wr ∧ ∀ b, hasN (.slice (some ⟨g, 0, none⟩) n cap) (markN k0 (ns.take k) ++ ns.drop k) b → hasN (.slice (some ⟨g, 0, none⟩) n cap) ns b) (fun _ i _ => n - (intOf i).toNat)
    case atStart => exact ⟨0, Nat.zero_le _, rfl, rfl, by simpa [markN] using HX.out, OnlyS.refl _ _, by simp [markN]⟩
    case round =>
      obtain ⟨k, hk, rfl, rfl, hown, honly, hsub⟩ := hrel
      have HR := Lib.hid hown
      have HO := Lib.hid honly
      have HSub := Lib.hid hsub
      have hcnt : cntN (ns.take k) ≤ k * 3145732 := by
        have := cntN_le (l := ns.take k) fun x hx => HN.out x (List.mem_of_mem_take hx)
        rw [List.length_take] at this
        have h2 : min k ns.length * 3145732 ≤ k * 3145732 := Nat.mul_le_mul_right _ (Nat.min_le_left _ _)
        exact Nat.le_trans this h2
      by_cases hlt : k < n
      · obtain ⟨x, hat⟩ : ∃ x, ns[k]? = some x := ⟨_, List.getElem?_eq_getElem (by rw [← HLen.out]; exact hlt)⟩
        obtain ⟨hst1, hst2⟩ := markN_step (k0 := k0) hat
        obtain ⟨hc, hz⟩ := hown.cells_at hst1
        obtain ⟨hl, hp⟩ := HN.out x (List.mem_of_getElem? hat)
        have hwio : WiO wr B x.t := (hown.x k x hst1).2
        have e0 : wr.cell? ⟨g, k * 6, none⟩ = some (.int .i64 x.op) := hc 0 _ rfl
        have e1 := hc 1 _ rfl
        have e2 := hc 2 _ rfl
        have e3 := hc 3 _ rfl
        have e4 := hc 4 _ rfl
        have e5 := hc 5 _ rfl
        have f0 := hz (k * 6)
        have f1 := hz (k * 6 + 1)
        have f2 := hz (k * 6 + 2)
        have f3 := hz (k * 6 + 3)
        have HST1 := Lib.hid hst1
        have HST2 := Lib.hid hst2
        have HCnt : Hid (cntN (ns.take (k + 1)) = cntN (ns.take k) + cntNd x) := Lib.hid (by rw [ptake_at hat, cntN_snoc])
        have HA1 : Hid ((Value.slice x.t.LA x.t.Ln x.t.Lc).ownBlock ≠ some g) := Lib.hid fun e => hown.a k x g hst1 (.inl e) rfl
        have HA2 : Hid ((Value.slice x.t.PA x.t.Pn x.t.Pc).ownBlock ≠ some g) := Lib.hid fun e => hown.a k x g hst1 (.inr e) rfl
        have HWo := Lib.hid hwio
        have HLp := Lib.hid (And.intro hl hp)
        obtain ⟨m, hm⟩ : ∃ m : Nat, m = k0 + cntN (ns.take k) := ⟨_, rfl⟩
        rw [← hm]
        have hm1 : m ≤ 1200000000000000 := by omega
        have HM := Lib.hid hm
        clear hown honly hsub hm hst1 hst2 hc hz hl hp hwio hcnt hat
        go_wp2_with fail
        refine (markI' _ B _ x.t.ls (ownI_blocks HWo.out.l fun b hb => by
          have hne : b ≠ g := fun e => HA1.out (by rw [← e]; exact hb)
          repeat rw [heap_setCell_other _ _ _ _ (by simpa using hne)]) HLp.out.1 _ (m + 4) (by omega) (by omega)).mono ?_
        rintro e w5 ⟨rfl, hm5, h5⟩
        have HM5 := Lib.hid hm5
        have H5 := Lib.hid h5
        have e5 := (World.cell?_of_block (a := ⟨g, k * 6 + 5, none⟩) (h5.block g HA1.out)).trans (((World.cell?_setCell_other _ _ _ _ (by simp)).trans ((World.cell?_setCell_other _ _ _ _ (by simp)).trans ((World.cell?_setCell_other _ _ _ _ (by simp)).trans (World.cell?_setCell_other _ _ _ _ (by simp))))).trans e5)
        have HP5 : Hid (OwnP w5 B (.slice x.t.PA x.t.Pn x.t.Pc) x.t.ps) := Lib.hid (HWo.out.p.blocks fun b hb => by
          have hne : b ≠ g := fun e => HA2.out (by rw [← e]; exact hb)
          rw [h5.block b fun e => HWo.out.a b e hb]
          repeat rw [heap_setCell_other _ _ _ _ (by simpa using hne)])
        clear hm5 h5 e0 e1 e2 e3 e4 f0 f1 f2 f3
        go_wp2_with fail
        refine (markP w5 B _ x.t.ps HP5.out HLp.out.2 (m + 4 + x.t.ls.length) (by have := HLp.out.1; omega)).mono ?_
        rintro e w6 ⟨rfl, hm6, h6⟩
        have HS := Lib.hid (OwnN.mark1 (by omega) (by omega) (by omega) (by omega) (Nat.le_trans hm1 (by decide)) HR.out HST1.out H5.out HM5.out h6 hm6)
        clear hm6 h6 e5
        go_wp2
        go_roundw
        case rel =>
          obtain ⟨s1, s2, s3⟩ := HS.out
          have e1 := HM.out
          refine ⟨k + 1, by omega, by go_num, ?_, ?_, ?_, ?_⟩
          · rw [HCnt.out]; congr 2; unfold cntNd; omega
          · rw [← HST2.out, ← e1]; exact s1
          · exact HO.out.trans (s2.sub HSub.out)
          · rw [← HST2.out, ← e1]; exact fun b hb => HSub.out b (s3 b hb)
        case measure => simp [intOf]; omega
      · obtain rfl : k = n := by omega
        have ht : ns.take k = ns := List.take_of_length_le (by rw [← HLen.out]; exact Nat.le_refl _)
        have hd : ns.drop k = [] := List.drop_eq_nil_of_le (by rw [← HLen.out]; exact Nat.le_refl _)
        rw [ht]
        have HR2 : Hid (OwnN wr B (.slice (some ⟨g, 0, none⟩) k cap) (markN k0 ns)) := Lib.hid (by have := HR.out; rwa [ht, hd, List.append_nil] at this)
        clear hown honly hsub ht hd
        obtain ⟨m, hm⟩ : ∃ m : Nat, m = k0 + cntN ns := ⟨_, rfl⟩
        rw [← hm]
        have HM := Lib.hid hm
        clear hm hcnt
        go_wp2
        go_ret
        exact ⟨by show Ending.returned (.int .i64 (m : Int)) = _; rw [HM.out], HR2.out, HO.out⟩
end Go.Proofs.Ytadjoiahllekdaa.num
namespace Go.Proofs.Ytadjoiahllekdaa.num
set_option maxRecDepth 20000
open Go.RowKit
set_option linter.unusedVariables false
set_option linter.unusedSimpArgs false

set_option maxRecDepth 20000 in
theorem sNoWish (w : World) (t : Wi) (hl : t.ls.length = t.Ln) (hp : t.ps.length = t.Pn) (q : Bool) (hq : q = true ↔ NoW t.dat) :
    Calls Try.prog 54 #[t.val] w fun e w' => e = .returned (.bool q) ∧ Below w.heap.size w w' := by
  obtain ⟨k, f, v, LA, Ln, Lc, ls, PA, Pn, Pc, ps⟩ := t
  simp only at hl hp
  have HW1 : Hid (∀ o : Obj, Below w.heap.size w (w.alloc o)) := Lib.hid fun o => (Below.refl _ w).alloc (Nat.le_refl _) _
  have HNo : Hid (¬ (k = 0 ∧ f = 0 ∧ v = 0 ∧ Ln = 0 ∧ Pn = 0) → q = false) := Lib.hid fun h => by
    cases q
    · rfl
    · obtain ⟨h1, h2, h3, h4, h5⟩ := hq.1 rfl
      simp only [Wi.dat] at h1 h2 h3 h4 h5
      exact absurd ⟨h1, h2, h3, by rw [← hl, h4]; rfl, by rw [← hp, h5]; rfl⟩ h
  have HYes : Hid (k = 0 → f = 0 → v = 0 → Ln = 0 → Pn = 0 → q = true) := Lib.hid fun h1 h2 h3 h4 h5 => hq.2 ⟨h1, h2, h3, List.eq_nil_of_length_eq_zero (by show ls.length = 0; omega), List.eq_nil_of_length_eq_zero (by show ps.length = 0; omega)⟩
  unfold Wi.val
  clear hq hl hp
  by_cases e1 : k = 0
  · by_cases e2 : f = 0
    · by_cases e3 : v = 0
      · by_cases e4 : Ln = 0
        · by_cases e5 : Pn = 0
          · obtain rfl := HYes.out e1 e2 e3 e4 e5
            subst e1 e2 e3 e4 e5
            go_enter Try.func54, Try.ntmps54
            go_wp2
            go_ret
            exact ⟨rfl, HW1.out _⟩
          · obtain rfl := HNo.out fun h => e5 h.2.2.2.2
            subst e1 e2 e3 e4
            have hx : ((Pn : Int) == 0) = false := by simpa using e5
            go_enter Try.func54, Try.ntmps54
            go_wp2
            go_ret
            exact ⟨rfl, HW1.out _⟩
        · obtain rfl := HNo.out fun h => e4 h.2.2.2.1
          subst e1 e2 e3
          have hx : ((Ln : Int) == 0) = false := by simpa using e4
          go_enter Try.func54, Try.ntmps54
          go_wp2
          go_ret
          exact ⟨rfl, HW1.out _⟩
      · obtain rfl := HNo.out fun h => e3 h.2.2.1
        subst e1 e2
        have hx : (v == 0) = false := by simpa using e3
        go_enter Try.func54, Try.ntmps54
        go_wp2
        go_ret
        exact ⟨rfl, HW1.out _⟩
    · obtain rfl := HNo.out fun h => e2 h.2.1
      subst e1
      have hx : (f == 0) = false := by simpa using e2
      go_enter Try.func54, Try.ntmps54
      go_wp2
      go_ret
      exact ⟨rfl, HW1.out _⟩
  · obtain rfl := HNo.out fun h => e1 h.1
    have hx : (k == 0) = false := by simpa using e1
    go_enter Try.func54, Try.ntmps54
    go_wp2
    go_ret
    exact ⟨rfl, HW1.out _⟩

/-- The data of a slice of nodes. -/
def datN (ns : List Nd) : List ND := ns.map Nd.dat
theorem datN_at {ns : List Nd} {k : Nat} {x : Nd} (h : ns[k]? = some x) : datN (ns.take (k + 1)) = datN (ns.take k) ++ [x.dat] := by
  unfold datN; rw [ptake_at h, List.map_append, List.map_singleton]
theorem datN_split (ns : List Nd) (k : Nat) : datN ns = datN (ns.take k) ++ datN (ns.drop k) := by
  unfold datN; rw [← List.map_append, List.take_append_drop]
theorem noE_base {L : List ND} {nd : ND} {st : List Tr} (h0 : nd.op = 0) (hw : ¬ IsW nd.w) : ¬ ∃ s, Stk (L ++ [nd]) s := fun ⟨s, hs⟩ => by
  rcases hs.inv with ⟨_, h, _⟩ | ⟨h, _⟩ | ⟨h, _⟩
  · exact hw h
  · omega
  · exact (bin_ne h).1 h0
theorem noE_dual {L : List ND} {nd : ND} {st : List Tr} (hst : Stk L st) (h3 : nd.op = 3) (hw : st.length < 1 ∨ ¬ NoW nd.w) : ¬ ∃ s, Stk (L ++ [nd]) s := fun ⟨s, hs⟩ => by
  rcases hs.inv with ⟨h, _⟩ | ⟨_, h, a, s', k, _⟩ | ⟨h, _⟩
  · omega
  · rcases hw with hw | hw
    · rw [hst.one k] at hw; simp at hw
    · exact hw h
  · exact (bin_ne h).2 h3
theorem noE_bin {L : List ND} {nd : ND} {st : List Tr} (hst : Stk L st) (hb : Bin nd.op) (hw : st.length < 2 ∨ ¬ NoW nd.w) : ¬ ∃ s, Stk (L ++ [nd]) s := fun ⟨s, hs⟩ => by
  rcases hs.inv with ⟨h, _⟩ | ⟨h, _⟩ | ⟨_, h, a, b, s', k, _⟩
  · exact (bin_ne hb).1 h
  · exact (bin_ne hb).2 h
  · rcases hw with hw | hw
    · rw [hst.one k] at hw; simp at hw; omega
    · exact hw h
theorem noE_odd {L : List ND} {nd : ND} (h0 : nd.op ≠ 0) (h3 : nd.op ≠ 3) (hb : ¬ Bin nd.op) : ¬ ∃ s, Stk (L ++ [nd]) s := fun ⟨s, hs⟩ => by
  rcases hs.inv with ⟨h, _⟩ | ⟨h, _⟩ | ⟨h, _⟩
  · exact h0 h
  · exact h3 h
  · exact hb h

set_option maxRecDepth 20000 in
set_option maxHeartbeats 1600000 in
theorem sIsEW (w : World) (B : Nat) (A : Option Addr) (n c : Nat) (ns : List Nd) (hi : Nodes w B A n ns) (hB : B ≤ w.heap.size) (hn : n ≤ 1048577) (hN : ShortN ns) (b : Bool) (hb : b = true ↔ IsE (datN ns)) :
    Calls Try.prog 24 #[.slice A n c] w fun e w' => e = .returned (.bool b) ∧ Below w.heap.size w w' := by
  have HX := Lib.hid hi
  have HN := Lib.hid hN
  have HBo := Lib.hid hb
  have HNo : Hid (∀ k, (¬ ∃ s, Stk (datN (ns.take k)) s) → b = false) := Lib.hid fun k h => by
    cases b
    · rfl
    · have h1 := hb.1 rfl
      rw [datN_split ns k] at h1
      exact absurd h1 (isE_pre h)
  clear hi hN hb
  go_enter Try.func24, Try.ntmps24
  go_wp2
  go_loopw [3, 4] (fun d i wr => ∃ (k : Nat) (dv : Int) (st : List Tr), k ≤ n ∧ i = .int .i64 k ∧ d = .int .i64 dv ∧ dv = st.length ∧ dv ≤ k ∧ Stk (datN (ns.take k)) st ∧ Below w.heap.size w wr) (fun _ i _ => n - (intOf i).toNat)
  case atStart => exact ⟨0, 0, [], Nat.zero_le _, rfl, rfl, rfl, by omega, .nil, Below.refl _ _⟩
  case round =>
    obtain ⟨k, dv, st, hk, rfl, rfl, hdv, hdk, hst, hbel⟩ := hrel
    have HSt := Lib.hid hst
    have HDv := Lib.hid hdv
    have HB := Lib.hid hbel
    have hd0 : 0 ≤ dv := by omega
    clear hst hdv
    by_cases hlt : k < n
    · obtain ⟨b1, off, ⟨op, t⟩, rfl, hb1, hat, hwf, g0, g1, g2, g3, g4, g5⟩ := HX.out.at k hlt
      dsimp only at g0 g1 g2 g3 g4 g5
      have HT := Lib.hid hat
      have g0 := (hbel.cell (p := ⟨b1, off + k * 6, none⟩) (Nat.lt_of_lt_of_le hb1 hB)).trans g0
      have g1 := (hbel.cell (p := ⟨b1, off + k * 6 + 1, none⟩) (Nat.lt_of_lt_of_le hb1 hB)).trans g1
      have g2 := (hbel.cell (p := ⟨b1, off + k * 6 + 2, none⟩) (Nat.lt_of_lt_of_le hb1 hB)).trans g2
      have g3 := (hbel.cell (p := ⟨b1, off + k * 6 + 3, none⟩) (Nat.lt_of_lt_of_le hb1 hB)).trans g3
      have g4 := (hbel.cell (p := ⟨b1, off + k * 6 + 4, none⟩) (Nat.lt_of_lt_of_le hb1 hB)).trans g4
      have g5 := (hbel.cell (p := ⟨b1, off + k * 6 + 5, none⟩) (Nat.lt_of_lt_of_le hb1 hB)).trans g5
      have hlt' : (k : Int) < (n : Int) := by omega
      have HWi : Hid (WiIn wr B t) := Lib.hid (hwf.2.below (hbel.mono hB))
      have hBr : B ≤ wr.heap.size := Nat.le_trans hB hbel.size
      have HSh : Hid t.Short := Lib.hid (HN.out _ (List.mem_of_getElem? hat))
      have HE : Hid (datN (ns.take (k + 1)) = datN (ns.take k) ++ [⟨op, t.dat⟩]) := Lib.hid (datN_at hat)
      clear hat hwf hbel
      have hvw : t.val = .agg #[.int .i64 t.kind, .int .i64 t.field, .int .i64 t.value, .slice t.LA t.Ln t.Lc, .slice t.PA t.Pn t.Pc] := rfl
      by_cases e0 : op = 0
      · subst e0
        obtain ⟨q, hq⟩ := bool_of (IsW t.dat)
        have HC : Hid (Calls Try.prog 53 #[.agg #[.int .i64 t.kind, .int .i64 t.field, .int .i64 t.value, .slice t.LA t.Ln t.Lc, .slice t.PA t.Pn t.Pc]] wr fun e w' => e = .returned (.bool q) ∧ Below wr.heap.size wr w') := Lib.hid (by rw [← hvw]; exact sIsWish wr B t HWi.out hBr HSh.out q hq)
        have HQ := Lib.hid hq
        clear hq hvw
        go_wp2_with fail
        refine HC.out.mono ?_
        rintro e w1 ⟨rfl, hb2⟩
        have HB1 := Lib.hid (below_on HB.out hb2)
        clear hb2 HC
        cases q
        · obtain rfl := HNo.out (k + 1) (by rw [HE.out]; exact noE_base (st := st) rfl (fun h => by have := HQ.out.2 h; cases this))
          go_wp2
          go_ret
          exact ⟨rfl, HB1.out⟩
        · have HS1 : Hid (Stk (datN (ns.take (k + 1))) (.base t.dat :: st)) := Lib.hid (by rw [HE.out]; exact .base HSt.out rfl (HQ.out.1 rfl))
          go_wp2
          go_roundw
          case rel => exact ⟨k + 1, dv + 1, _, by omega, by go_num, by go_num, by rw [HDv.out]; rfl, by omega, HS1.out, HB1.out⟩
          case measure => simp [intOf]; omega
      · have f0 : (op == 0) = false := by simpa using e0
        by_cases e3 : op = 3
        · subst e3
          clear f0
          obtain ⟨q, hq⟩ := bool_of (NoW t.dat)
          have HC : Hid (Calls Try.prog 54 #[.agg #[.int .i64 t.kind, .int .i64 t.field, .int .i64 t.value, .slice t.LA t.Ln t.Lc, .slice t.PA t.Pn t.Pc]] wr fun e w' => e = .returned (.bool q) ∧ Below wr.heap.size wr w') := Lib.hid (by rw [← hvw]; exact sNoWish wr t HWi.out.l.1 HWi.out.p.1 q hq)
          have HQ := Lib.hid hq
          clear hq hvw
          by_cases h1 : dv < 1
          · obtain rfl := HNo.out (k + 1) (by rw [HE.out]; exact noE_dual HSt.out rfl (.inl (by have := HDv.out; omega)))
            go_wp2
            go_ret
            exact ⟨rfl, HB.out⟩
          · have hd : decide (dv < 1) = false := by simpa using h1
            have Hh1 := Lib.hid h1
            clear h1
            go_wp2_with fail
            refine HC.out.mono ?_
            rintro e w1 ⟨rfl, hb2⟩
            have HB1 := Lib.hid (below_on HB.out hb2)
            clear hb2 HC
            cases q
            · obtain rfl := HNo.out (k + 1) (by rw [HE.out]; exact noE_dual HSt.out rfl (.inr (fun h => by have := HQ.out.2 h; cases this)))
              go_wp2
              go_ret
              exact ⟨rfl, HB1.out⟩
            · have HS1 : Hid (∃ s, Stk (datN (ns.take (k + 1))) s ∧ dv = s.length) := Lib.hid (by
                match st, HSt, HDv, Hh1 with
                | [], _, h, h' => exact absurd h.out (by have := h'.out; simp; omega)
                | a :: s, h, h', _ => exact ⟨.dual a :: s, by rw [HE.out]; exact .dual h.out rfl (HQ.out.1 rfl), by rw [h'.out]; rfl⟩)
              go_wp2
              go_roundw
              case rel =>
                obtain ⟨s, h1, h2⟩ := HS1.out
                exact ⟨k + 1, dv, s, by omega, by go_num, rfl, h2, by omega, h1, HB1.out⟩
              case measure => simp [intOf]; omega
        · have f3 : (op == 3) = false := by simpa using e3
          obtain ⟨qb, hqb⟩ := bool_of (Bin op)
          have HQb := Lib.hid hqb
          clear hqb
          cases qb
          · have hnb : ¬ Bin op := fun h => by have := HQb.out.2 h; cases this
            obtain rfl := HNo.out (k + 1) (by rw [HE.out]; exact noE_odd e0 e3 hnb)
            have f1 : (op == 1) = false := by
              have : op ≠ 1 := fun h => hnb (.inl h)
              simpa using this
            have f2 : (op == 2) = false := by
              have : op ≠ 2 := fun h => hnb (.inr (.inl h))
              simpa using this
            have f4 : (op == 4) = false := by
              have : op ≠ 4 := fun h => hnb (.inr (.inr h))
              simpa using this
            clear hnb hvw e0 e3
            go_wp2
            go_ret
            exact ⟨rfl, HB.out⟩
          · obtain ⟨q, hq⟩ := bool_of (NoW t.dat)
            have HC : Hid (Calls Try.prog 54 #[.agg #[.int .i64 t.kind, .int .i64 t.field, .int .i64 t.value, .slice t.LA t.Ln t.Lc, .slice t.PA t.Pn t.Pc]] wr fun e w' => e = .returned (.bool q) ∧ Below wr.heap.size wr w') := Lib.hid (by rw [← hvw]; exact sNoWish wr t HWi.out.l.1 HWi.out.p.1 q hq)
            have HQ := Lib.hid hq
            have HBin : Hid (Bin op) := Lib.hid (HQb.out.1 rfl)
            have HOr : Hid (op = 1 ∨ op = 2 ∨ op = 4) := Lib.hid (HQb.out.1 rfl)
            clear hq hvw HQb e0 e3 f0 f3
            have HGo : Hid (dv < 1 ∨ True) := Lib.hid (.inr trivial)
            by_cases h1 : dv < 2
            · obtain rfl := HNo.out (k + 1) (by rw [HE.out]; exact noE_bin HSt.out HBin.out (.inl (by have := HDv.out; omega)))
              rcases HOr.out with rfl | rfl | rfl
              · go_wp2
                go_ret
                exact ⟨rfl, HB.out⟩
              · go_wp2
                go_ret
                exact ⟨rfl, HB.out⟩
              · go_wp2
                go_ret
                exact ⟨rfl, HB.out⟩
            · have hd : decide (dv < 2) = false := by simpa using h1
              have Hh1 := Lib.hid h1
              have HS1 : Hid (q = true → ∃ s, Stk (datN (ns.take (k + 1))) s ∧ dv - 1 = s.length) := Lib.hid (by
                intro hqt
                match st, HSt, HDv, Hh1 with
                | [], _, h, h' => exact absurd h.out (by have := h'.out; simp; omega)
                | [_], _, h, h' => exact absurd h.out (by have := h'.out; simp; omega)
                | y :: x :: s, h, h', _ => exact ⟨.bin op x y :: s, by rw [HE.out]; exact .bin h.out HBin.out (HQ.out.1 hqt), by rw [h'.out]; simp⟩)
              have HF : Hid (q = false → b = false) := Lib.hid fun hqf => HNo.out (k + 1) (by rw [HE.out]; exact noE_bin HSt.out HBin.out (.inr (fun h => by have := HQ.out.2 h; rw [hqf] at this; cases this)))
              clear h1
              have HB0 := Lib.hid HB.out
              rcases HOr.out with rfl | rfl | rfl
              · go_wp2_with fail
                refine HC.out.mono ?_
                rintro e w1 ⟨rfl, hb2⟩
                have HB1 := Lib.hid (below_on HB.out hb2)
                clear hb2 HC
                cases q
                · obtain rfl := HF.out rfl
                  go_wp2
                  go_ret
                  exact ⟨rfl, HB1.out⟩
                · go_wp2
                  go_roundw
                  case rel =>
                    obtain ⟨s, h1, h2⟩ := HS1.out (by first | rfl | trivial)
                    exact ⟨k + 1, dv - 1, s, by omega, by go_num, by go_num, h2, by omega, h1, HB1.out⟩
                  case measure => simp [intOf]; omega
              · go_wp2_with fail
                refine HC.out.mono ?_
                rintro e w1 ⟨rfl, hb2⟩
                have HB1 := Lib.hid (below_on HB.out hb2)
                clear hb2 HC
                cases q
                · obtain rfl := HF.out rfl
                  go_wp2
                  go_ret
                  exact ⟨rfl, HB1.out⟩
                · go_wp2
                  go_roundw
                  case rel =>
                    obtain ⟨s, h1, h2⟩ := HS1.out (by first | rfl | trivial)
                    exact ⟨k + 1, dv - 1, s, by omega, by go_num, by go_num, h2, by omega, h1, HB1.out⟩
                  case measure => simp [intOf]; omega
              · go_wp2_with fail
                refine HC.out.mono ?_
                rintro e w1 ⟨rfl, hb2⟩
                have HB1 := Lib.hid (below_on HB.out hb2)
                clear hb2 HC
                cases q
                · obtain rfl := HF.out rfl
                  go_wp2
                  go_ret
                  exact ⟨rfl, HB1.out⟩
                · go_wp2
                  go_roundw
                  case rel =>
                    obtain ⟨s, h1, h2⟩ := HS1.out (by first | rfl | trivial)
                    exact ⟨k + 1, dv - 1, s, by omega, by go_num, by go_num, h2, by omega, h1, HB1.out⟩
                  case measure => simp [intOf]; omega
    · obtain rfl : k = n := by omega
      have HF : Hid (b = true ↔ k ≤ 9 ∧ dv = 1) := Lib.hid (by
        rw [HBo.out]
        have h := HSt.out
        rw [ptake_all HX.out.len] at h
        rw [isE_stk h]
        have hl : (datN ns).length = k := by unfold datN; rw [List.length_map, HX.out.len]
        rw [hl]
        have := HDv.out
        omega)
      clear hbel
      by_cases h1 : dv = 1
      · subst h1
        by_cases h9 : k ≤ 9
        · obtain rfl : b = true := HF.out.2 ⟨h9, rfl⟩
          have hd : decide ((k : Int) ≤ 9) = true := by simp; omega
          go_wp2
          go_ret
          exact ⟨by simp <;> omega, HB.out⟩
        · obtain rfl : b = false := by
            cases b
            · rfl
            · exact absurd (HF.out.1 rfl).1 h9
          go_wp2
          go_ret
          exact ⟨by simp <;> omega, HB.out⟩
      · obtain rfl : b = false := by
          cases b
          · rfl
          · exact absurd (HF.out.1 rfl).2 h1
        have hd : (dv == 1) = false := by simpa using h1
        go_wp2
        go_ret
        exact ⟨rfl, HB.out⟩
theorem sIsE (w : World) (B : Nat) (A : Option Addr) (n c : Nat) (ns : List Nd) (hi : Nodes w B A n ns) (hB : B ≤ w.heap.size) (hn : n ≤ 1048576) (hN : ShortN ns) (b : Bool) (hb : b = true ↔ IsE (datN ns)) :
    Calls Try.prog 24 #[.slice A n c] w fun e w' => e = .returned (.bool b) ∧ Below w.heap.size w w' := sIsEW w B A n c ns hi hB (Nat.le_succ_of_le hn) hN b hb
end Go.Proofs.Ytadjoiahllekdaa.num
namespace Go.Proofs.Ytadjoiahllekdaa.num
set_option maxRecDepth 20000
open Go.RowKit
set_option linter.unusedVariables false
set_option linter.unusedSimpArgs false

def wishCells (x : Wi) : List Value := [.int .i64 x.kind, .int .i64 x.field, .int .i64 x.value, .slice x.LA x.Ln x.Lc, .slice x.PA x.Pn x.Pc]
theorem wishCells_len (x : Wi) : (wishCells x).length = 5 := rfl
theorem wishCells_one (x : Wi) : ∀ u ∈ wishCells x, u.oneCell' = true := by
  intro u hu
  simp only [wishCells, List.mem_cons, List.not_mem_nil, or_false] at hu
  rcases hu with rfl | rfl | rfl | rfl | rfl <;> rfl
/-- A slice of wishes that reads as ns, below block B. -/
structure Wishes (w : World) (B : Nat) (A : Option Addr) (n : Nat) (ns : List Wi) : Prop where
  r : ReadG wishCells 5 w B A n ns
  x : ∀ x ∈ ns, WiIn w B x
theorem Wishes.below {w w' : World} {B : Nat} {A : Option Addr} {n : Nat} {ns : List Wi} (h : Wishes w B A n ns) (hb : Below B w w') : Wishes w' B A n ns := ⟨h.r.below hb, fun x hx => (h.x x hx).below hb⟩
theorem Wishes.more {w : World} {B B' : Nat} {A : Option Addr} {n : Nat} {ns : List Wi} (h : Wishes w B A n ns) (hB : B ≤ B') : Wishes w B' A n ns := ⟨h.r.more hB, fun x hx => (h.x x hx).more hB⟩
theorem Wishes.step {w w' : World} {A : Option Addr} {n : Nat} {ns : List Wi} (h : Wishes w w.heap.size A n ns) (hb : Below w.heap.size w w') : Wishes w' w'.heap.size A n ns := (h.below hb).more hb.size
theorem Wishes.len {w : World} {B : Nat} {A : Option Addr} {n : Nat} {ns : List Wi} (h : Wishes w B A n ns) : ns.length = n := h.r.len
theorem Wishes.nil (w : World) (B : Nat) (A : Option Addr) : Wishes w B A 0 [] := ⟨.nil _ _ _, by simp⟩
theorem Wishes.at {w : World} {B : Nat} {A : Option Addr} {n : Nat} {ns : List Wi} (h : Wishes w B A n ns) (k : Nat) (hk : k < n) :
    ∃ (b off : Nat) (x : Wi), A = some ⟨b, off, none⟩ ∧ b < B ∧ ns[k]? = some x ∧ WiIn w B x ∧ w.cell? ⟨b, off + k * 5, none⟩ = some (.int .i64 x.kind) ∧ w.cell? ⟨b, off + k * 5 + 1, none⟩ = some (.int .i64 x.field) ∧
      w.cell? ⟨b, off + k * 5 + 2, none⟩ = some (.int .i64 x.value) ∧ w.cell? ⟨b, off + k * 5 + 3, none⟩ = some (.slice x.LA x.Ln x.Lc) ∧ w.cell? ⟨b, off + k * 5 + 4, none⟩ = some (.slice x.PA x.Pn x.Pc) := by
  obtain ⟨x, hx⟩ := h.r.get hk
  obtain ⟨b, off, h1, h2, h3⟩ := h.r.at' k x hx
  exact ⟨b, off, x, h1, h2, hx, h.x x (List.mem_of_getElem? hx), h3 0 _ rfl, h3 1 _ rfl, h3 2 _ rfl, h3 3 _ rfl, h3 4 _ rfl⟩
def ShortWs (ns : List Wi) : Prop := ∀ x ∈ ns, x.Short
def datWs (ns : List Wi) : List WD := ns.map Wi.dat

/-- The slice of wishes v and all that its wishes hold are the call's own, apart from one another. -/
structure OwnWs (w : World) (B : Nat) (v : Value) (ns : List Wi) : Prop where
  r : OwnG 69 wishCells 5 w B v ns
  x : ∀ (k : Nat) (x : Wi), ns[k]? = some x → WiO w B x
  a : ∀ (k : Nat) (x : Wi) (b : Nat), ns[k]? = some x → x.has b → v.ownBlock ≠ some b
  d : ∀ (i j : Nat) (x y : Wi) (b : Nat), i < j → ns[i]? = some x → ns[j]? = some y → x.has b → ¬ y.has b
/-- The blocks of the slice v and of its wishes. -/
def hasWs (v : Value) (ns : List Wi) (b : Nat) : Prop := v.ownBlock = some b ∨ ∃ x ∈ ns, x.has b
theorem OwnWs.has_in {w : World} {B : Nat} {v : Value} {ns : List Wi} (h : OwnWs w B v ns) {b : Nat} (hb : hasWs v ns b) : B ≤ b ∧ b < w.heap.size := by
  rcases hb with hb | ⟨x, hx, hb⟩
  · exact ⟨h.r.lows b hb, h.r.tops b hb⟩
  · obtain ⟨k, hk, rfl⟩ := List.getElem_of_mem hx
    exact (h.x k _ (List.getElem?_eq_getElem hk)).has_in hb
theorem OwnWs.blocks {w w' : World} {B : Nat} {v : Value} {ns : List Wi} (h : OwnWs w B v ns) (hb : ∀ b, hasWs v ns b → w'.heap[b]? = w.heap[b]?) : OwnWs w' B v ns :=
  ⟨h.r.blocks fun k hk => hb k (.inl hk), fun k x hk => (h.x k x hk).blocks fun b hb' => hb b (.inr ⟨x, List.mem_of_getElem? hk, hb'⟩), h.a, h.d⟩
theorem OwnWs.below {w w' : World} {B : Nat} {v : Value} {ns : List Wi} (h : OwnWs w B v ns) (hb : Below w.heap.size w w') : OwnWs w' B v ns := h.blocks fun b k => hb.block b (h.has_in k).2
theorem OwnWs.low {w : World} {B B' : Nat} {v : Value} {ns : List Wi} (h : OwnWs w B v ns) (hB : B' ≤ B) : OwnWs w B' v ns := ⟨h.r.low hB, fun k x hk => (h.x k x hk).low hB, h.a, h.d⟩
theorem OwnWs.wishes {w : World} {B : Nat} {A : Option Addr} {n c : Nat} {ns : List Wi} (h : OwnWs w B (.slice A n c) ns) : Wishes w w.heap.size A n ns :=
  ⟨h.r.read wishCells_len, fun x hx => by
    obtain ⟨k, hk, rfl⟩ := List.getElem_of_mem hx
    exact (h.x k _ (List.getElem?_eq_getElem hk)).wi⟩
theorem OwnWs.nil (w : World) (B : Nat) : OwnWs w B (.slice none 0 0) [] := ⟨.nil _ _, by simp, by simp, by simp⟩

theorem ne_wi {l l' : List Wi} {k : Nat} {t t' : Wi} (h1 : l[k]? = some t) (h2 : l'[k]? = some t') (h : t.dat ≠ t'.dat) : l.map Wi.dat ≠ l'.map Wi.dat := fun e => h (by
  have := congrArg (·[k]?) e
  simpa [h1, h2] using this)
/-- append of one element to a slice of the call's own: the new slice lies in the old one's row or in a new block. -/
theorem wp_appG {α : Type} {f : α → List Value} {s : Nat} (hf : ∀ x, (f x).length = s) (h1 : ∀ x, ∀ u ∈ f x, u.oneCell' = true) {T tS : TypeId} {z : Value} {bytes : Nat} (ht : Try.prog.underlying tS = some (.slice T)) (hinf : (Try.prog.info? T).map (fun i => (i.zero, i.size, i.bytes)) = some (some z, s, bytes)) (hzs : z.cells.size = s) (hs0 : 0 < s)
    {ops : Array Oper} {rest : List Oper} {o : Oper} {a : Act} {Q : Exit → Act → World → Prop} (w : World) (hgd : o.guard = none) (sl x : Operand)
    (ho : o.op = .call { callee := .builtin .append, args := #[sl, x], argTypes := #[tS, tS] })
    (B : Nat) (v : Value) (l : List α) (hs : a.eval sl = v) (hown : OwnG T f s w B v l) (cs : Array Value) (y : α) (hcs : cs = (f y).toArray) (c : Nat)
    (N : Nat) (hNw : w.heap.size = N) (hx : a.eval x = .slice (some ⟨N, 0, none⟩) 1 c) (hlen : (l.length + 1) * bytes ≤ 140737488355328) (hbt : 0 < bytes) (hB : B ≤ w.heap.size)
    (h : ∀ v' w', OwnG T f s w' B v' (l ++ [y]) → w.grownBy w' v.ownBlock → (v'.ownBlock = v.ownBlock ∨ v'.ownBlock = some (w.heap.size + 1)) → wpList Try.prog ops Q rest (a.put o.dst v') w') :
    wpList Try.prog ops Q (o :: rest) a (w.alloc (.cells cs T)) := by
  obtain ⟨i0, hi, hz⟩ := Option.map_eq_some_iff.1 hinf
  simp only [Prod.mk.injEq] at hz
  obtain ⟨hz0, hz1, hz2⟩ := hz
  have hm : l.length + 1 ≤ 140737488355328 := Nat.le_trans (Nat.le_mul_of_pos_right _ hbt) hlen
  subst hcs hNw
  refine wpList_append_own_at _ hgd sl x tS ho B T i0 z s bytes ht hi hz0 hz1 hz2 hzs hs0 v l.length (l.flatMap f) hs (World.ownsRow.alloc hown _) ⟨w.heap.size, 0, none⟩ 1 c (f y) hx (by rw [hf, Nat.one_mul]) ?_ (h1 y) (by unfold maxLen; omega) hlen (by simp; omega) ?_
  · intro j u hj
    have e : (⟨w.heap.size, 0, none⟩ : Addr).add j = ⟨w.heap.size, j, none⟩ := by unfold Addr.add; split <;> simp_all
    rw [e, World.cell?_alloc_at _ _ _ _ rfl]
    simpa using hj
  · intro v' w' hown' hg _ hat
    refine h v' w' ?_ ⟨hg.os, hg.tape, hg.output, Nat.le_trans (by simp) hg.size, fun k hk hv => (hg.block k (by simp; omega) hv).trans (Below.heap_alloc _ _ _ hk)⟩ (by simpa using hat)
    unfold OwnG
    rw [List.length_append, List.length_singleton, List.flatMap_append, List.flatMap_singleton]
    exact hown'
theorem OwnWs.snoc {w w' : World} {B : Nat} {v v' : Value} {ns : List Wi} {x : Wi} (h : OwnWs w B v ns) (hg : w.grownBy w' v.ownBlock) (hat : v'.ownBlock = v.ownBlock ∨ v'.ownBlock = some (w.heap.size + 1)) (hr : OwnG 69 wishCells 5 w' B v' (ns ++ [x])) (hx : WiO w B x) (hap : ∀ b, x.has b → ¬ hasWs v ns b) : OwnWs w' B v' (ns ++ [x]) := by
  have hin : ∀ (i : Nat) (y : Wi) (b : Nat), ns[i]? = some y → y.has b → hasWs v ns b := fun i y b hy hb => .inr ⟨y, List.mem_of_getElem? hy, hb⟩
  have hnb : ∀ b, x.has b → some b ≠ v.ownBlock := fun b hb e => hap b hb (.inl e.symm)
  refine ⟨hr, ?_, ?_, ?_⟩
  · intro i y hy
    rcases get_snoc rfl hy with ⟨_, hy⟩ | ⟨_, rfl⟩
    · exact (h.x i y hy).blocks fun b hb => hg.block b ((h.x i y hy).has_in hb).2 fun e => h.a i y b hy hb e.symm
    · exact hx.blocks fun b hb => hg.block b (hx.has_in hb).2 (hnb b hb)
  · intro i y b hy hb e
    rcases get_snoc rfl hy with ⟨_, hy⟩ | ⟨_, rfl⟩
    · rcases hat with q | q
      · exact h.a i y b hy hb (q ▸ e)
      · have h2 := (h.has_in (hin i y b hy hb)).2
        rw [q] at e
        have := Option.some.inj e
        omega
    · rcases hat with q | q
      · exact hnb b hb (q ▸ e).symm
      · have h2 := (hx.has_in hb).2
        rw [q] at e
        have := Option.some.inj e
        omega
  · intro i j y z b hij hy hz hb hb'
    rcases get_snoc rfl hz with ⟨hj, hz⟩ | ⟨hj, rfl⟩
    · rcases get_snoc rfl hy with ⟨_, hy⟩ | ⟨hi, _⟩
      · exact h.d i j y z b hij hy hz hb hb'
      · omega
    · rcases get_snoc rfl hy with ⟨_, hy⟩ | ⟨hi, _⟩
      · exact hap b hb' (hin i y b hy hb)
      · omega
theorem OwnN.snoc {w w' : World} {B : Nat} {v v' : Value} {ns : List Nd} {x : Nd} (h : OwnN w B v ns) (hg : w.grownBy w' v.ownBlock) (hat : v'.ownBlock = v.ownBlock ∨ v'.ownBlock = some (w.heap.size + 1)) (hr : OwnG 71 nodeCells 6 w' B v' (ns ++ [x])) (hwf : (Lit.int .i64 x.op).wf = true) (hx : WiO w B x.t) (hap : ∀ b, x.t.has b → ¬ hasN v ns b) : OwnN w' B v' (ns ++ [x]) := by
  have hin : ∀ (i : Nat) (y : Nd) (b : Nat), ns[i]? = some y → y.t.has b → hasN v ns b := fun i y b hy hb => .inr ⟨y, List.mem_of_getElem? hy, hb⟩
  have hnb : ∀ b, x.t.has b → some b ≠ v.ownBlock := fun b hb e => hap b hb (.inl e.symm)
  refine ⟨hr, ?_, ?_, ?_⟩
  · intro i y hy
    rcases get_snoc rfl hy with ⟨_, hy⟩ | ⟨_, rfl⟩
    · exact ⟨(h.x i y hy).1, (h.x i y hy).2.blocks fun b hb => hg.block b ((h.x i y hy).2.has_in hb).2 fun e => h.a i y b hy hb e.symm⟩
    · exact ⟨hwf, hx.blocks fun b hb => hg.block b (hx.has_in hb).2 (hnb b hb)⟩
  · intro i y b hy hb e
    rcases get_snoc rfl hy with ⟨_, hy⟩ | ⟨_, rfl⟩
    · rcases hat with q | q
      · exact h.a i y b hy hb (q ▸ e)
      · have h2 := (h.has_in (hin i y b hy hb)).2
        rw [q] at e
        have := Option.some.inj e
        omega
    · rcases hat with q | q
      · exact hnb b hb (q ▸ e).symm
      · have h2 := (hx.has_in hb).2
        rw [q] at e
        have := Option.some.inj e
        omega
  · intro i j y z b hij hy hz hb hb'
    rcases get_snoc rfl hz with ⟨hj, hz⟩ | ⟨hj, rfl⟩
    · rcases get_snoc rfl hy with ⟨_, hy⟩ | ⟨hi, _⟩
      · exact h.d i j y z b hij hy hz hb hb'
      · omega
    · rcases get_snoc rfl hy with ⟨_, hy⟩ | ⟨hi, _⟩
      · exact hap b hb' (hin i y b hy hb)
      · omega
end Go.Proofs.Ytadjoiahllekdaa.num
namespace Go.Proofs.Ytadjoiahllekdaa.num
set_option maxRecDepth 20000
open Go.RowKit
set_option linter.unusedVariables false
set_option linter.unusedSimpArgs false

theorem ownP_shape {w : World} {B : Nat} {v : Value} {l : List (Int × Int)} (h : OwnP w B v l) : ∃ A n c, v = .slice A n c := by
  rcases h.2 with ⟨rfl, _⟩ | ⟨g, cap, cur, rfl, _⟩
  · exact ⟨_, _, _, rfl⟩
  · exact ⟨_, _, _, rfl⟩
theorem OwnI.slen {w : World} {B : Nat} {A : Option Addr} {n c : Nat} {l : List Int} (h : OwnI w B (.slice A n c) l) : n = l.length := by
  rcases h.2 with ⟨e, hl⟩ | ⟨g, cap, cur, e, _⟩ <;> (injection e with e1 e2 e3 <;> omega)
theorem ownP_slen {w : World} {B : Nat} {A : Option Addr} {n c : Nat} {l : List (Int × Int)} (h : OwnP w B (.slice A n c) l) : n = l.length := by
  rcases h.2 with ⟨e, hl⟩ | ⟨g, cap, cur, e, _⟩ <;> (injection e with e1 e2 e3 <;> omega)
theorem OwnG.set2 {α : Type} {f : α → List Value} {s : Nat} (hf : ∀ x, (f x).length = s) {T : TypeId} {w : World} {B g n c k i1 i2 : Nat} {v1 v2 : Value} {l : List α} {x y : α} (h : OwnG T f s w B (.slice (some ⟨g, 0, none⟩) n c) l) (hk : l[k]? = some x) (hy : ∀ j, j < s → (f y)[j]? = if j = i2 then some v2 else if j = i1 then some v1 else (f x)[j]?) (h1 : i1 < s) (h2 : i2 < s) :
    OwnG T f s ((w.setCell ⟨g, k * s + i1, none⟩ v1).setCell ⟨g, k * s + i2, none⟩ v2) B (.slice (some ⟨g, 0, none⟩) n c) (l.set k y) := by
  have hlt : k < l.length := by
    rcases Nat.lt_or_ge k l.length with q | q
    · exact q
    · rw [List.getElem?_eq_none q] at hk; cases hk
  have hs : 0 < s := by omega
  rcases h.row with ⟨e, _⟩ | ⟨g', cap, F, e, hB, hle, hcap, hrow, hF⟩
  · cases e
  · injection e with e1 e2 e3
    injection e1 with e1
    injection e1 with e1
    subst e1 e2 e3
    refine OwnG.of_row hf hB (by simp) hle hcap (World.rowIs.set (World.rowIs.set hrow (k * s + i1) v1) (k * s + i2) v2) fun j hj => ?_
    rw [fm_set hf l k _ hlt j hj]
    have hd : j / s * s + j % s = j := by rw [Nat.mul_comm]; exact Nat.div_add_mod j s
    by_cases e : j / s = k
    · obtain ⟨r, hr, rfl⟩ : ∃ r, r < s ∧ j = k * s + r := ⟨j % s, Nat.mod_lt _ hs, by rw [← e]; exact hd.symm⟩
      have hm : (k * s + r) % s = r := by rw [Nat.mul_comm, Nat.mul_add_mod, Nat.mod_eq_of_lt hr]
      rw [if_pos e, hm, hy r hr]
      have hold := hF _ hj
      rw [fm_at hf l k r x hk hr] at hold
      by_cases q2 : r = i2
      · rw [if_pos q2, if_pos (show k * s + r = k * s + i2 by rw [q2])]
      · have n2 : ¬ (k * s + r = k * s + i2) := by omega
        by_cases q1 : r = i1
        · rw [if_neg q2, if_pos q1, if_neg n2, if_pos (show k * s + r = k * s + i1 by rw [q1])]
        · rw [if_neg q2, if_neg q1, if_neg n2, if_neg (show ¬ (k * s + r = k * s + i1) by omega), hold]
    · rw [if_neg e, hF j hj]
      have hm := Nat.mod_lt j hs
      have ne : ∀ i, i < s → j ≠ k * s + i := fun i hi hji => e (by rw [hji, Nat.mul_comm, Nat.mul_add_div hs, Nat.div_eq_of_lt hi, Nat.add_zero])
      rw [if_neg (ne i2 h2), if_neg (ne i1 h1)]
theorem set_mid {α : Type} {cs ns : List α} {k : Nat} {x y : α} (hl : cs.length = k) (h : ns[k]? = some x) : (cs ++ ns.drop k)[k]? = some x ∧ (cs ++ ns.drop k).set k y = (cs ++ [y]) ++ ns.drop (k + 1) := by
  have hlt : k < ns.length := by
    rcases Nat.lt_or_ge k ns.length with g | g
    · exact g
    · rw [List.getElem?_eq_none g] at h; cases h
  have hd : ns.drop k = x :: ns.drop (k + 1) := by
    rw [List.drop_eq_getElem_cons hlt]
    rw [List.getElem?_eq_getElem hlt] at h
    rw [Option.some.inj h]
  refine ⟨by rw [List.getElem?_append_right (by omega), hl, hd]; simp, ?_⟩
  rw [hd, List.set_append_right _ _ (by omega), hl, Nat.sub_self, List.set_cons_zero, List.append_assoc, List.singleton_append]

/-- As far as k, the elements hold copies of their own. -/
structure CopyInv (w w1 : World) (g n cap : Nat) (ns : List Nd) (k : Nat) (cs : List Nd) (wr : World) : Prop where
  len : cs.length = k
  own : OwnG 71 nodeCells 6 wr w.heap.size (.slice (some ⟨g, 0, none⟩) n cap) (cs ++ ns.drop k)
  dat : datN cs = datN (ns.take k)
  sh : ShortN cs
  x : ∀ (i : Nat) (x : Nd), cs[i]? = some x → (Lit.int .i64 x.op).wf = true ∧ WiO wr w1.heap.size x.t
  d : ∀ (i j : Nat) (x y : Nd) (b : Nat), i < j → cs[i]? = some x → cs[j]? = some y → x.t.has b → ¬ y.t.has b
  bel : Below w.heap.size w wr
  s1 : w1.heap.size ≤ wr.heap.size
set_option maxRecDepth 20000 in
theorem CopyInv.next {w w1 wr w2 w3 : World} {g n cap k : Nat} {ns cs : List Nd} {x : Nd} {LA' PA' : Option Addr} {Ln' Lc' Pn' Pc' : Nat} (h : CopyInv w w1 g n cap ns k cs wr) (hG : w.heap.size ≤ g ∧ g < w1.heap.size) (hat : ns[k]? = some x) (hls : x.t.ls.length ≤ 1048576 ∧ x.t.ps.length ≤ 1048576)
    (hwf : (Lit.int .i64 x.op).wf = true ∧ (Lit.int .i64 x.t.kind).wf = true ∧ (Lit.int .i64 x.t.field).wf = true ∧ (Lit.int .i64 x.t.value).wf = true)
    (hoa : OwnI w2 wr.heap.size (.slice LA' Ln' Lc') x.t.ls) (hb2 : Below wr.heap.size wr w2) (hob : OwnP w3 w2.heap.size (.slice PA' Pn' Pc') x.t.ps) (hb23 : Below w2.heap.size w2 w3) :
    CopyInv w w1 g n cap ns (k + 1) (cs ++ [⟨x.op, x.t.kind, x.t.field, x.t.value, LA', Ln', Lc', x.t.ls, PA', Pn', Pc', x.t.ps⟩]) ((w3.setCell ⟨g, k * 6 + 4, none⟩ (.slice LA' Ln' Lc')).setCell ⟨g, k * 6 + 5, none⟩ (.slice PA' Pn' Pc')) := by
  obtain ⟨y, hy⟩ : ∃ y : Nd, y = ⟨x.op, x.t.kind, x.t.field, x.t.value, LA', Ln', Lc', x.t.ls, PA', Pn', Pc', x.t.ps⟩ := ⟨_, rfl⟩
  rw [← hy]
  have hb3 : Below wr.heap.size wr w3 := below_on hb2 hb23
  have hgw : g < wr.heap.size := Nat.lt_of_lt_of_le hG.2 h.s1
  obtain ⟨hm1, hm2⟩ := set_mid (y := y) h.len hat
  have hoth : ∀ b, b ≠ g → ((w3.setCell ⟨g, k * 6 + 4, none⟩ (.slice LA' Ln' Lc')).setCell ⟨g, k * 6 + 5, none⟩ (.slice PA' Pn' Pc')).heap[b]? = w3.heap[b]? := fun b hb => by
    rw [heap_setCell_other _ _ _ _ (by simpa using hb), heap_setCell_other _ _ _ _ (by simpa using hb)]
  have hs1 := h.s1
  have hwy : WiO w3 wr.heap.size y.t := by
    rw [hy]
    refine ⟨hwf.2.1, hwf.2.2.1, hwf.2.2.2, ownI_blocks hoa fun b hb => hb23.block b (ownI_tops hoa b hb), ownP_lowE hob hb2.size, fun b h1 h2 => ?_⟩
    have q1 := ownI_tops hoa b h1
    have q2 := hob.lows b h2
    omega
  refine ⟨by rw [List.length_append, h.len]; rfl, ?_, ?_, ?_, ?_, ?_, ?_, ?_⟩
  · have h3 : OwnG 71 nodeCells 6 w3 w.heap.size (.slice (some ⟨g, 0, none⟩) n cap) (cs ++ ns.drop k) := h.own.blocks fun b hb => by
      have e : g = b := Option.some.inj hb
      rw [← e]; exact hb3.block g hgw
    have h4 := OwnG.set2 (k := k) (i1 := 4) (i2 := 5) (v1 := .slice LA' Ln' Lc') (v2 := .slice PA' Pn' Pc') (y := y) nodeCells_len h3 hm1 (fun j hj => by
      rw [hy]
      have hj' : j = 0 ∨ j = 1 ∨ j = 2 ∨ j = 3 ∨ j = 4 ∨ j = 5 := by omega
      rcases hj' with rfl | rfl | rfl | rfl | rfl | rfl <;> simp [nodeCells]) (by decide) (by decide)
    rw [← hm2]
    exact h4
  · rw [datN_at hat, ← h.dat]
    unfold datN
    rw [List.map_append, List.map_singleton, hy]
    rfl
  · intro u hu
    rcases List.mem_append.1 hu with hu | hu
    · exact h.sh u hu
    · rw [List.mem_singleton.1 hu, hy]
      have e1 := OwnI.slen hoa
      have e2 := ownP_slen hob
      exact ⟨by show Ln' ≤ _; rw [e1]; exact hls.1, by show Pn' ≤ _; rw [e2]; exact hls.2⟩
  · intro i u hu
    rcases get_snoc h.len hu with ⟨_, hu⟩ | ⟨_, rfl⟩
    · obtain ⟨e1, e2⟩ := h.x i u hu
      exact ⟨e1, (e2.below (hb3)).blocks fun b hb => hoth b (by have := (e2.has_in hb).1; omega)⟩
    · exact ⟨by rw [hy]; exact hwf.1, (hwy.blocks fun b hb => hoth b (by have := (hwy.has_in hb).1; omega)).low hs1⟩
  · intro i j u z b hij hu hz hb hb'
    rcases get_snoc h.len hz with ⟨hj, hz⟩ | ⟨_, rfl⟩
    · rcases get_snoc h.len hu with ⟨_, hu⟩ | ⟨e, _⟩
      · exact h.d i j u z b hij hu hz hb hb'
      · omega
    · rcases get_snoc h.len hu with ⟨_, hu⟩ | ⟨e, _⟩
      · have g1 := ((h.x i u hu).2.has_in hb).2
        have g2 := (hwy.has_in hb').1
        omega
      · omega
  · have hgl := hG.1
    exact ((below_on h.bel hb3).setCell (by show w.heap.size ≤ g; omega) _).setCell (by show w.heap.size ≤ g; omega) _
  · have := hb3.size
    simp
    omega
theorem CopyInv.done {w w1 wr : World} {g n cap k : Nat} {ns cs : List Nd} (h : CopyInv w w1 g n cap ns k cs wr) (hG : w.heap.size ≤ g ∧ g < w1.heap.size) (hk : ns.length = k) : datN cs = datN ns ∧ OwnN wr w.heap.size (.slice (some ⟨g, 0, none⟩) n cap) cs := by
  have hd : ns.drop k = [] := List.drop_eq_nil_of_le (by rw [hk]; exact Nat.le_refl _)
  have ht : ns.take k = ns := List.take_of_length_le (by rw [hk]; exact Nat.le_refl _)
  have h1 := h.own
  have h2 := h.dat
  rw [hd, List.append_nil] at h1
  rw [ht] at h2
  refine ⟨h2, h1, fun i x hi => ⟨(h.x i x hi).1, (h.x i x hi).2.low (Nat.le_of_lt (Nat.lt_of_le_of_lt hG.1 hG.2))⟩, fun i x b hi hb e => ?_, h.d⟩
  have h1 := ((h.x i x hi).2.has_in hb).1
  have h2 := hG.2
  have h3 : g = b := Option.some.inj e
  omega
end Go.Proofs.Ytadjoiahllekdaa.num
namespace Go.Proofs.Ytadjoiahllekdaa.num
set_option maxRecDepth 20000
open Go.RowKit
set_option linter.unusedSimpArgs false

theorem slEqual (w : World) (B : Nat) (A A' : Option Addr) (n n' c c' : Nat) (xs ys : List Int) (hx : Ints w B A n xs) (hy : Ints w B A' n' ys) (hn : n ≤ 1048576) (b : Bool) (hb : b = true ↔ xs = ys) :
    Calls Try.prog 119 #[.slice A n c, .slice A' n' c'] w fun e w' => e = .returned (.bool b) ∧ ∃ m, w' = w.drewN m := by
  have HX := Lib.hid hx
  have HY := Lib.hid hy
  by_cases hl : n = n'
  · subst hl
    have HB := Lib.hid hb
    clear hx hy hb
    go_enter Try.func119, Try.ntmps119
    go_wp2
    go_loopw [13] (fun i wr => ∃ k : Nat, k ≤ n ∧ i = .int .i64 k ∧ xs.take k = ys.take k ∧ ∃ m, wr = w.drewN m) (fun i _ => n - (intOf i).toNat)
    case atStart => exact ⟨0, Nat.zero_le _, rfl, rfl, 0, rfl⟩
    case round =>
      obtain ⟨k, hk, rfl, htake, m, rfl⟩ := hrel
      have HT := Lib.hid htake
      clear htake
      by_cases hlt : k < n
      · obtain ⟨b1, off1, rfl, hb1, hc1⟩ := HX.out.2 k hlt
        obtain ⟨b2, off2, rfl, hb2, hc2⟩ := HY.out.2 k hlt
        generalize hv1 : xs.getD k 0 = v1 at *
        generalize hv2 : ys.getD k 0 = v2 at *
        have HV1 := Lib.hid hv1
        have HV2 := Lib.hid hv2
        clear hv1 hv2
        have hlt' : (k : Int) < (n : Int) := by omega
        by_cases he : v1 = v2
        · subst he
          go_wp2
          go_quiet (fail)
          go_wp2
          go_roundw
          case rel => exact ⟨k + 1, by omega, by go_num, by rw [take_snoc_getD HX.out.1 hlt, take_snoc_getD HY.out.1 hlt, HT.out, HV1.out, HV2.out], _, rfl⟩
          case measure => simp [intOf]; omega
        · have hne : (v1 != v2) = true := by simpa using he
          have hxy : xs ≠ ys := ne_at (k := k) (by rw [HV1.out, HV2.out]; exact he)
          obtain rfl : b = false := by
            cases b
            · rfl
            · exact absurd (HB.out.1 rfl) hxy
          have HE := Lib.hid he
          clear he hxy
          go_wp2
          go_quiet (fail)
          go_wp2
          go_ret
          exact ⟨rfl, _, World.drewN_drewN _ _ _⟩
      · obtain rfl : k = n := by omega
        obtain rfl : b = true := HB.out.2 (by
          have h1 := HT.out
          rwa [List.take_of_length_le (by rw [HX.out.1]; exact Nat.le_refl _), List.take_of_length_le (by rw [HY.out.1]; exact Nat.le_refl _)] at h1)
        go_wp2
        go_ret
        exact ⟨rfl, _, rfl⟩
  · obtain rfl : b = false := by
      cases b
      · rfl
      · exact absurd (by rw [← hx.1, hb.1 rfl, hy.1]) hl
    clear hx hy hb
    go_enter Try.func119, Try.ntmps119
    go_wp2
    go_ret
    exact ⟨rfl, 0, rfl⟩

end Go.Proofs.Ytadjoiahllekdaa.num
namespace Go.Proofs.Ytadjoiahllekdaa.num
set_option maxRecDepth 20000
open Go.RowKit
set_option linter.unusedVariables false
set_option linter.unusedSimpArgs false

set_option maxRecDepth 20000 in
theorem pair_neq (w : World) (x1 y1 x2 y2 : Int) : (binOp .neq 105 (.agg #[.int .i64 x1, .int .i64 y1]) (.agg #[.int .i64 x2, .int .i64 y2])).run Try.prog w = .ok (.bool (!(x1 == x2 && y1 == y2))) w := by
  have hu := Try.underlying105
  by_cases h1 : x1 = x2
  · go_simp
    by_cases h2 : y1 = y2 <;> simp [h1, h2]
  · go_simp

set_option maxRecDepth 20000 in
theorem slEqualP (w : World) (B : Nat) (A A' : Option Addr) (n n' c c' : Nat) (ps qs : List (Int × Int)) (h1 : Pairs w B A n ps) (h2 : Pairs w B A' n' qs) (hn : n ≤ 1048576) (b : Bool) (hb : b = true ↔ ps = qs) :
    Calls Try.prog 120 #[.slice A n c, .slice A' n' c'] w fun e w' => e = .returned (.bool b) ∧ ∃ m, w' = w.drewN m := by
  have HX := Lib.hid h1
  have HY := Lib.hid h2
  by_cases hl : n = n'
  · subst hl
    have HBo := Lib.hid hb
    clear h1 h2 hb
    go_enter Try.func120, Try.ntmps120
    go_wp2
    go_loopw [13] (fun i wr => ∃ k : Nat, k ≤ n ∧ i = .int .i64 k ∧ ps.take k = qs.take k ∧ ∃ m, wr = w.drewN m) (fun i _ => n - (intOf i).toNat)
    case atStart => exact ⟨0, Nat.zero_le _, rfl, rfl, 0, rfl⟩
    case round =>
      obtain ⟨k, hk, rfl, htake, m, rfl⟩ := hrel
      have HT := Lib.hid htake
      clear htake
      by_cases hlt : k < n
      · obtain ⟨b1, off1, x1, y1, rfl, hb1, hat1, hc1, hd1⟩ := HX.out.at k hlt
        obtain ⟨b2, off2, x2, y2, rfl, hb2, hat2, hc2, hd2⟩ := HY.out.at k hlt
        have HA1 := Lib.hid hat1
        have HA2 := Lib.hid hat2
        have hlt' : (k : Int) < (n : Int) := by omega
        obtain ⟨q, hq⟩ : ∃ q : Bool, q = true ↔ (x1, y1) = (x2, y2) := bool_of _
        have HQ := Lib.hid hq
        have hne : ∀ w1, (binOp .neq 105 (.agg #[.int .i64 x1, .int .i64 y1]) (.agg #[.int .i64 x2, .int .i64 y2])).run Try.prog w1 = .ok (.bool (!q)) w1 := fun w1 => by
          rw [pair_neq]
          congr 2
          cases q
          · have : (x1 == x2 && y1 == y2) = false := by
              cases h : (x1 == x2 && y1 == y2)
              · rfl
              · simp at h; exact absurd (HQ.out.2 (by rw [h.1, h.2])) (by simp)
            rw [this]
          · have h := Prod.mk.inj (HQ.out.1 rfl)
            rw [h.1, h.2]; simp
        clear hat1 hat2 hq
        cases q
        · have HF := Lib.hid (ne_atP HA1.out HA2.out (fun e => by have := HQ.out.2 e; cases this))
          obtain rfl : b = false := by
            cases b
            · rfl
            · exact absurd (HBo.out.1 rfl) HF.out
          go_wp2
          go_quiet (fail)
          go_wp2
          go_ret
          exact ⟨rfl, _, World.drewN_drewN _ _ _⟩
        · have HD := Lib.hid (HQ.out.1 rfl)
          go_wp2
          go_quiet (fail)
          go_wp2
          go_roundw
          case rel => exact ⟨k + 1, by omega, by go_num, by rw [ptake_at HA1.out, ptake_at HA2.out, HT.out, HD.out], _, rfl⟩
          case measure => simp [intOf]; omega
      · obtain rfl : k = n := by omega
        obtain rfl : b = true := HBo.out.2 (by have := HT.out; rwa [ptake_all HX.out.1, ptake_all HY.out.1] at this)
        go_wp2
        go_ret
        exact ⟨rfl, _, rfl⟩
  · obtain rfl : b = false := by
      cases b
      · rfl
      · exact absurd (by rw [← h1.1, hb.1 rfl, h2.1]) hl
    clear h1 h2 hb
    go_enter Try.func120, Try.ntmps120
    go_wp2
    go_ret
    exact ⟨rfl, 0, rfl⟩

set_option maxRecDepth 20000 in
theorem iSameWish (w : World) (B : Nat) (t t' : Wi) (h1 : WiIn w B t) (h2 : WiIn w B t') (hB : B ≤ w.heap.size) (hn : t.Short) (b : Bool) (hb : b = true ↔ t.dat = t'.dat) :
    Calls Try.prog 108 #[t.val, t'.val] w fun e w' => e = .returned (.bool b) ∧ Below w.heap.size w w' := by
  obtain ⟨k, f, v, LA, Ln, Lc, ls, PA, Pn, Pc, ps⟩ := t
  obtain ⟨k', f', v', LA', Ln', Lc', ls', PA', Pn', Pc', ps'⟩ := t'
  obtain ⟨-, -, -, hl, hp⟩ := h1
  obtain ⟨-, -, -, hl', hp'⟩ := h2
  unfold Wi.val
  simp only [Wi.dat, WD.mk.injEq, Wi.Short] at hl hp hl' hp' hn hb ⊢
  have HB2 : Hid (∀ o1 o2 : Obj, Below B w ((w.alloc o1).alloc o2)) := Lib.hid fun o1 o2 => ((Below.refl B w).alloc hB _).alloc (by simp; omega) _
  have HW2 : Hid (∀ o1 o2 : Obj, Below w.heap.size w ((w.alloc o1).alloc o2)) := Lib.hid fun o1 o2 => ((Below.refl _ w).alloc (Nat.le_refl _) _).alloc (by simp) _
  obtain ⟨q1, hq1⟩ := bool_of (ls = ls')
  obtain ⟨q2, hq2⟩ := bool_of (ps = ps')
  have HI : Hid (∀ w1, Below B w w1 → Calls Try.prog 119 #[.slice LA Ln Lc, .slice LA' Ln' Lc'] w1 fun e w' => e = .returned (.bool q1) ∧ ∃ m, w' = w1.drewN m) := Lib.hid fun w1 h => slEqual w1 B LA LA' Ln Ln' Lc Lc' ls ls' (hl.below h) (hl'.below h) hn.1 q1 hq1
  have HP : Hid (∀ w1, Below B w w1 → Calls Try.prog 120 #[.slice PA Pn Pc, .slice PA' Pn' Pc'] w1 fun e w' => e = .returned (.bool q2) ∧ ∃ m, w' = w1.drewN m) := Lib.hid fun w1 h => slEqualP w1 B PA PA' Pn Pn' Pc Pc' ps ps' (hp.below h) (hp'.below h) hn.2 q2 hq2
  have HNo : Hid (¬ (k = k' ∧ f = f' ∧ v = v' ∧ q1 = true ∧ q2 = true) → b = false) := Lib.hid fun h => by
    cases b
    · rfl
    · obtain ⟨e1, e2, e3, e4, e5⟩ := hb.1 rfl
      exact absurd ⟨e1, e2, e3, hq1.2 e4, hq2.2 e5⟩ h
  have HYes : Hid (k = k' → f = f' → v = v' → q1 = true → q2 = true → b = true) := Lib.hid fun e1 e2 e3 e4 e5 => hb.2 ⟨e1, e2, e3, hq1.1 e4, hq2.1 e5⟩
  clear hl hp hl' hp' hb hq1 hq2 hn
  by_cases e1 : k = k'
  · by_cases e2 : f = f'
    · by_cases e3 : v = v'
      · cases q1
        · obtain rfl := HNo.out fun h => by have := h.2.2.2.1; cases this
          subst e1 e2 e3
          go_enter Try.func108, Try.ntmps108
          go_wp2_with fail
          refine (HI.out _ (HB2.out _ _)).mono ?_
          rintro e w1 ⟨rfl, m1, rfl⟩
          go_wp2
          go_ret
          exact ⟨rfl, below_drewN (HW2.out _ _) _⟩
        · have HR : Hid (b = q2) := Lib.hid (by
            cases q2
            · exact HNo.out fun h => by have := h.2.2.2.2; cases this
            · exact HYes.out e1 e2 e3 rfl rfl)
          obtain rfl := HR.out
          subst e1 e2 e3
          go_enter Try.func108, Try.ntmps108
          go_wp2_with fail
          refine (HI.out _ (HB2.out _ _)).mono ?_
          rintro e w1 ⟨rfl, m1, rfl⟩
          go_wp2_with fail
          refine (HP.out _ (below_drewN (HB2.out _ _) _)).mono ?_
          rintro e w1 ⟨rfl, m2, rfl⟩
          go_wp2
          go_ret
          exact ⟨rfl, below_drewN (HW2.out _ _) _⟩
      · obtain rfl := HNo.out fun h => e3 h.2.2.1
        subst e1 e2
        have hne : (v == v') = false := by simpa using e3
        go_enter Try.func108, Try.ntmps108
        go_wp2
        go_ret
        exact ⟨rfl, HW2.out _ _⟩
    · obtain rfl := HNo.out fun h => e2 h.2.1
      subst e1
      have hne : (f == f') = false := by simpa using e2
      go_enter Try.func108, Try.ntmps108
      go_wp2
      go_ret
      exact ⟨rfl, HW2.out _ _⟩
  · obtain rfl := HNo.out fun h => e1 h.1
    have hne : (k == k') = false := by simpa using e1
    go_enter Try.func108, Try.ntmps108
    go_wp2
    go_ret
    exact ⟨rfl, HW2.out _ _⟩

end Go.Proofs.Ytadjoiahllekdaa.num
namespace Go.Proofs.Ytadjoiahllekdaa.num
set_option maxRecDepth 20000
open Go.RowKit Go.Maps
set_option linter.unusedVariables false


set_option maxRecDepth 20000 in
theorem iList (w : World) (B : Nat) (A : Option Addr) (n c : Nat) (xs : List Int) (hi : Ints w B A n xs) (hn : n ≤ 1048576) (b : Bool) (hb : b = true ↔ Asc xs) :
    Calls Try.prog 117 #[.slice A n c] w fun e w' => e = .returned (.bool b) ∧ w' = w := by
  have HX := Lib.hid hi
  have HB := Lib.hid hb
  clear hi hb
  have HNo : Hid (¬ AscUp xs → b = false) := Lib.hid fun h => by
    cases b
    · rfl
    · exact absurd (HB.out.1 rfl).2 h
  go_enter Try.func117, Try.ntmps117
  go_wp2
  go_loopw [7] (fun i wr => ∃ k : Nat, k ≤ n ∧ i = .int .i64 k ∧ AscUp (xs.take k) ∧ wr = w) (fun i _ => n - (intOf i).toNat)
  case atStart => exact ⟨0, Nat.zero_le _, rfl, by rw [List.take_zero]; exact AscUp.nil, rfl⟩
  case round =>
    obtain ⟨k, hk, rfl, hasc, rfl⟩ := hrel
    have HA := Lib.hid hasc
    clear hasc
    by_cases hlt : k < n
    · obtain ⟨b1, off, x, hA1, hb1, hat, hc⟩ := HX.out.at k hlt
      have HT := Lib.hid hat
      have hlt' : (k : Int) < (n : Int) := by omega
      obtain ⟨q, hq⟩ := bool_of (InR x)
      have HQ := Lib.hid hq
      clear hat hq
      cases q
      · obtain rfl : b = false := HNo.out fun h => by have := HQ.out.2 (h.1 x (List.mem_of_getElem? HT.out)); cases this
        subst hA1
        go_wp2_with fail
        refine (isValue_of x false HQ.out _).mono ?_
        rintro e w1 ⟨rfl, rfl⟩
        go_wp2
        go_ret
        exact ⟨rfl, rfl⟩
      · have HD := Lib.hid (HQ.out.1 rfl)
        rcases Nat.eq_zero_or_pos k with h0 | h0
        · have HK := Lib.hid h0
          subst hA1
          clear h0
          have hk0 : decide (0 < k) = false := decide_eq_false (by have := HK.out; omega)
          go_wp2_with fail
          refine (isValue_of x true ⟨fun _ => HD.out, fun _ => rfl⟩ _).mono ?_
          rintro e w1 ⟨rfl, rfl⟩
          go_wp2
          clear hk0
          go_roundw
          case rel => exact ⟨k + 1, by omega, by go_num, ascUp_snoc HA.out HT.out HD.out (fun j u hj _ => by have := HK.out; omega), by first | rfl | trivial⟩
          case measure => simp [intOf]; omega
        · obtain ⟨j, hj⟩ : ∃ j, j + 1 = k := ⟨k - 1, by omega⟩
          obtain ⟨b2, off2, y, hA2, hb2, hat2, hc2⟩ := HX.out.at j (by omega)
          obtain ⟨rfl, rfl⟩ : b1 = b2 ∧ off = off2 := by rw [hA1] at hA2; injection hA2 with h; injection h with h1 h2; exact ⟨h1, h2⟩
          have HT0 := Lib.hid hat2
          have HJ := Lib.hid hj
          have HK0 : Hid ((0 : Int) < (k : Int)) := by show _ < _; omega
          have hkj : (k : Int) - 1 = (j : Int) := by omega
          have hkw : IntKind.i64.wrap ((k : Int) - 1) = (j : Int) := by rw [hkj]; exact IntWalk.i64_in _ ⟨by omega, by omega⟩
          have hjw : IntKind.i64.wrap (j : Int) = (j : Int) := IntWalk.i64_in _ ⟨by omega, by omega⟩
          have hjn : (j : Int) < (n : Int) := by omega
          have hjn' : j < n := by omega
          have hk0 : decide (0 < k) = true := decide_eq_true (by have := HK0.out; omega)
          subst hA1
          clear h0 hj hat2 hA2
          by_cases hle : x ≤ y
          · obtain rfl : b = false := HNo.out (asc_bad (by rw [HJ.out]; exact HT.out) HT0.out hle)
            go_wp2_with fail
            refine (isValue_of x true ⟨fun _ => HD.out, fun _ => rfl⟩ _).mono ?_
            rintro e w1 ⟨rfl, rfl⟩
            go_wp2
            go_ret
            exact ⟨rfl, rfl⟩
          · have HLe : Hid (y < x) := by show _ < _; omega
            go_wp2_with fail
            refine (isValue_of x true ⟨fun _ => HD.out, fun _ => rfl⟩ _).mono ?_
            rintro e w1 ⟨rfl, rfl⟩
            go_wp2
            clear hk0
            go_roundw
            case rel => exact ⟨k + 1, by omega, by go_num, ascUp_snoc HA.out HT.out HD.out (asc_next HJ.out HT0.out HLe.out), by first | rfl | trivial⟩
            case measure => simp [intOf]; omega
    · obtain rfl : k = n := by omega
      have h := HA.out
      rw [ptake_all HX.out.1] at h
      have HH := Lib.hid h
      clear h
      by_cases h0 : (0 : Int) < (k : Int)
      · have hd : decide (0 < k) = true := by simp; omega
        obtain rfl : b = true := HB.out.2 ⟨fun e => by have := HX.out.1; rw [e] at this; simp at this; omega, HH.out⟩
        go_wp2
        go_ret
        exact ⟨by simp, rfl⟩
      · obtain rfl : b = false := by
          cases b
          · rfl
          · exact absurd (List.length_eq_zero_iff.1 (by rw [HX.out.1]; omega)) (HB.out.1 rfl).1
        go_wp2
        go_ret
        exact ⟨by simp; omega, rfl⟩

set_option maxRecDepth 20000 in
theorem iOther (w : World) (t : Wi) (hl : t.Ln ≤ 1048576) (hp : t.Pn ≤ 1048576) (q : Bool) (hq : q = true ↔ (t.kind ≠ 2 ∧ t.value ≠ 0) ∨ (t.kind ≠ 3 ∧ t.Ln ≠ 0) ∨ (t.kind ≠ 4 ∧ t.Pn ≠ 0)) :
    Calls Try.prog 115 #[t.val] w fun e w' => e = .returned (.bool q) ∧ Below w.heap.size w w' := by
  obtain ⟨k, f, v, LA, Ln, Lc, ls, PA, Pn, Pc, ps⟩ := t
  unfold Wi.val
  simp only [] at hl hp hq ⊢
  have HW1 : Hid (∀ o : Obj, Below w.heap.size w (w.alloc o)) := Lib.hid fun o => (Below.refl _ w).alloc (Nat.le_refl _) _
  by_cases k2 : k = 2
  · subst k2
    by_cases hL : Ln = 0
    · have hL' : decide (0 < Ln) = false := by simp [hL]
      have hL2 : ¬ ((0 : Int) < (Ln : Int)) := by omega
      by_cases hP : Pn = 0
      · have hP' : decide (0 < Pn) = false := by simp [hP]
        have hP2 : ¬ ((0 : Int) < (Pn : Int)) := by omega
        obtain rfl : q = false := by
          cases q
          · rfl
          · exact absurd (hq.1 rfl) (by omega)
        clear hq hL hP
        go_enter Try.func115, Try.ntmps115
        go_wp2
        go_ret
        exact ⟨by first | rfl | simp, HW1.out _⟩
      · have hP' : decide (0 < Pn) = true := by simp; omega
        have hP2 : (0 : Int) < (Pn : Int) := by omega
        obtain rfl : q = true := hq.2 (by omega)
        clear hq hL hP
        go_enter Try.func115, Try.ntmps115
        go_wp2
        go_ret
        exact ⟨by first | rfl | simp, HW1.out _⟩
    · have hL' : decide (0 < Ln) = true := by simp; omega
      have hL2 : (0 : Int) < (Ln : Int) := by omega
      obtain rfl : q = true := hq.2 (by omega)
      clear hq hL
      go_enter Try.func115, Try.ntmps115
      go_wp2
      go_ret
      exact ⟨by first | rfl | simp, HW1.out _⟩
  · by_cases k3 : k = 3
    · subst k3
      clear k2
      by_cases hv : v = 0
      · have hv' : (v != 0) = false := by simp [hv]
        by_cases hP : Pn = 0
        · have hP' : decide (0 < Pn) = false := by simp [hP]
          have hP2 : ¬ ((0 : Int) < (Pn : Int)) := by omega
          obtain rfl : q = false := by
            cases q
            · rfl
            · exact absurd (hq.1 rfl) (by omega)
          clear hq hv hP
          go_enter Try.func115, Try.ntmps115
          go_wp2
          go_ret
          exact ⟨by first | rfl | simp, HW1.out _⟩
        · have hP' : decide (0 < Pn) = true := by simp; omega
          have hP2 : (0 : Int) < (Pn : Int) := by omega
          obtain rfl : q = true := hq.2 (by omega)
          clear hq hv hP
          go_enter Try.func115, Try.ntmps115
          go_wp2
          go_ret
          exact ⟨by first | rfl | simp, HW1.out _⟩
      · have hv' : (v != 0) = true := by simp [hv]
        obtain rfl : q = true := hq.2 (by omega)
        clear hq hv
        go_enter Try.func115, Try.ntmps115
        go_wp2
        go_ret
        exact ⟨by first | rfl | simp, HW1.out _⟩
    · by_cases k4 : k = 4
      · subst k4
        clear k2 k3
        by_cases hv : v = 0
        · have hv' : (v != 0) = false := by simp [hv]
          by_cases hL : Ln = 0
          · have hL' : decide (0 < Ln) = false := by simp [hL]
            have hL2 : ¬ ((0 : Int) < (Ln : Int)) := by omega
            obtain rfl : q = false := by
              cases q
              · rfl
              · exact absurd (hq.1 rfl) (by omega)
            clear hq hv hL
            go_enter Try.func115, Try.ntmps115
            go_wp2
            go_ret
            exact ⟨by first | rfl | simp, HW1.out _⟩
          · have hL' : decide (0 < Ln) = true := by simp; omega
            have hL2 : (0 : Int) < (Ln : Int) := by omega
            obtain rfl : q = true := hq.2 (by omega)
            clear hq hv hL
            go_enter Try.func115, Try.ntmps115
            go_wp2
            go_ret
            exact ⟨by first | rfl | simp, HW1.out _⟩
        · have hv' : (v != 0) = true := by simp [hv]
          obtain rfl : q = true := hq.2 (by omega)
          clear hq hv
          go_enter Try.func115, Try.ntmps115
          go_wp2
          go_ret
          exact ⟨by first | rfl | simp, HW1.out _⟩
      · have f2 : (k != 2) = true := by simpa using k2
        have f3 : (k != 3) = true := by simpa using k3
        have f4 : (k != 4) = true := by simpa using k4
        by_cases hv : v = 0
        · have hv' : (v != 0) = false := by simp [hv]
          by_cases hL : Ln = 0
          · have hL' : decide (0 < Ln) = false := by simp [hL]
            have hL2 : ¬ ((0 : Int) < (Ln : Int)) := by omega
            by_cases hP : Pn = 0
            · have hP' : decide (0 < Pn) = false := by simp [hP]
              have hP2 : ¬ ((0 : Int) < (Pn : Int)) := by omega
              obtain rfl : q = false := by
                cases q
                · rfl
                · exact absurd (hq.1 rfl) (by omega)
              clear hq k2 k3 k4 hv hL hP
              go_enter Try.func115, Try.ntmps115
              go_wp2
              go_ret
              exact ⟨by first | rfl | simp, HW1.out _⟩
            · have hP' : decide (0 < Pn) = true := by simp; omega
              have hP2 : (0 : Int) < (Pn : Int) := by omega
              obtain rfl : q = true := hq.2 (by omega)
              clear hq k2 k3 k4 hv hL hP
              go_enter Try.func115, Try.ntmps115
              go_wp2
              go_ret
              exact ⟨by first | rfl | simp, HW1.out _⟩
          · have hL' : decide (0 < Ln) = true := by simp; omega
            have hL2 : (0 : Int) < (Ln : Int) := by omega
            obtain rfl : q = true := hq.2 (by omega)
            clear hq k2 k3 k4 hv hL
            go_enter Try.func115, Try.ntmps115
            go_wp2
            go_ret
            exact ⟨by first | rfl | simp, HW1.out _⟩
        · have hv' : (v != 0) = true := by simp [hv]
          obtain rfl : q = true := hq.2 (by omega)
          clear hq k2 k3 k4 hv
          go_enter Try.func115, Try.ntmps115
          go_wp2
          go_ret
          exact ⟨by first | rfl | simp, HW1.out _⟩
end Go.Proofs.Ytadjoiahllekdaa.num
namespace Go.Proofs.Ytadjoiahllekdaa.num
set_option maxRecDepth 20000
open Go.RowKit Go.Maps
set_option linter.unusedVariables false

/-- v is the taste of the valid wish t. -/
def TasteAt (w : World) (t : Wi) (v : Value) : Prop :=
  (t.kind ≠ 4 ∧ ∃ b, InR b ∧ v = nearI b ∧ ∀ x, InR x → rankW t.dat x = if x < b then b - x else x - b) ∨
  (t.kind ≠ 4 ∧ v = amongI t.LA t.Ln t.Lc ∧ ∀ x, rankW t.dat x = if x ∈ t.ls then 0 else 1) ∨
  (t.kind = 4 ∧ ∃ o B, v = orderI o ∧ AboveP t.ps B true o w)
theorem TasteAt.below {w w' : World} {t : Wi} {v : Value} (h : TasteAt w t v) (hb : Below w.heap.size w w') : TasteAt w' t v := by
  rcases h with h | h | ⟨h, o, B, e, a⟩
  · exact .inl h
  · exact .inr (.inl h)
  · exact .inr (.inr ⟨h, o, B, e, a.below hb⟩)
theorem value_same (v : Int) (q : Bool) (hq : q = true ↔ InR v) (w : World) :
    Calls Try.prog 116 #[.int .i64 v] w fun e w' => e = .returned (.bool q) ∧ w' = w :=
  (isValue_of v q hq w).mono fun _ _ h => ⟨h.1, h.2.symm⟩

/-- .. and what it holds lies from block lo on. -/
def TasteFrom (w : World) (lo : Nat) (t : Wi) (v : Value) : Prop :=
  (t.kind ≠ 4 ∧ ∃ b, InR b ∧ v = nearI b ∧ ∀ x, InR x → rankW t.dat x = if x < b then b - x else x - b) ∨
  (t.kind ≠ 4 ∧ v = amongI t.LA t.Ln t.Lc ∧ ∀ x, rankW t.dat x = if x ∈ t.ls then 0 else 1) ∨
  (t.kind = 4 ∧ ∃ o B, lo ≤ B ∧ v = orderI o ∧ AboveP t.ps B true o w)
theorem TasteFrom.at' {w : World} {lo : Nat} {t : Wi} {v : Value} (h : TasteFrom w lo t v) : TasteAt w t v := by
  rcases h with h | h | ⟨h, o, B, _, e, a⟩
  · exact .inl h
  · exact .inr (.inl h)
  · exact .inr (.inr ⟨h, o, B, e, a⟩)
theorem TasteFrom.low {w : World} {lo lo' : Nat} {t : Wi} {v : Value} (h : TasteFrom w lo t v) (hl : lo' ≤ lo) : TasteFrom w lo' t v := by
  rcases h with h | h | ⟨h, o, B, hB, e, a⟩
  · exact .inl h
  · exact .inr (.inl h)
  · exact .inr (.inr ⟨h, o, B, Nat.le_trans hl hB, e, a⟩)
theorem AboveP.kept {ps : List (Int × Int)} {B : Nat} {q : Bool} {o : Option Nat} {w w' : World} (h : AboveP ps B q o w) (hb : ∀ k, B ≤ k → k < w.heap.size → w'.heap[k]? = w.heap[k]?) : AboveP ps B q o w' :=
  ⟨h.1, fun hq => by
    obtain ⟨b, n, M, h1, h2, h3⟩ := h.2 hq
    exact ⟨b, n, M, h1, h2, MapAt.block h3.out (hb _ h3.low (MapAt.lt h3.out)), h3.low, h3.has, h3.rng, fun v x hx => by
      obtain ⟨g1, g2, g3⟩ := h3.sets v x hx
      exact ⟨g1, g2, MapAt.block g3 (hb _ g1 (MapAt.lt g3))⟩, h3.inj⟩⟩
theorem TasteFrom.kept {w w' : World} {lo : Nat} {t : Wi} {v : Value} (h : TasteFrom w lo t v) (hb : ∀ k, lo ≤ k → k < w.heap.size → w'.heap[k]? = w.heap[k]?) : TasteFrom w' lo t v := by
  rcases h with h | h | ⟨h, o, B, hB, e, a⟩
  · exact .inl h
  · exact .inr (.inl h)
  · exact .inr (.inr ⟨h, o, B, hB, e, a.kept fun k hk => hb k (Nat.le_trans hB hk)⟩)
/-- An interface's value. -/
def IfV (v : Value) : Prop := v = .nilIface ∨ ∃ T x, v = .iface T x
set_option maxRecDepth 20000 in
set_option maxHeartbeats 1600000 in
theorem taste_ofV (w : World) (B : Nat) (t : Wi) (hi : WiIn w B t) (hB : B ≤ w.heap.size) (hn : t.Short) (q : Bool) (hq : q = true ↔ IsW t.dat) :
    Calls Try.prog 107 #[t.val] w fun e w' => (∃ v, e = .returned (.tuple #[v, .bool q]) ∧ (q = true → TasteFrom w' w.heap.size t v) ∧ IfV v) ∧ Below w.heap.size w w' := by
  have HO : Hid (∀ (w1 : World) (p : Bool), (p = true ↔ (t.kind ≠ 2 ∧ t.value ≠ 0) ∨ (t.kind ≠ 3 ∧ t.Ln ≠ 0) ∨ (t.kind ≠ 4 ∧ t.Pn ≠ 0)) → Calls Try.prog 115 #[t.val] w1 fun e w' => e = .returned (.bool p) ∧ Below w1.heap.size w1 w') := Lib.hid fun w1 p hp => iOther w1 t hn.1 hn.2 p hp
  obtain ⟨k, f, v, LA, Ln, Lc, ls, PA, Pn, Pc, ps⟩ := t
  obtain ⟨-, -, -, hl, hp⟩ := hi
  unfold Wi.val at HO ⊢
  simp only [Wi.dat, Wi.Short] at hl hp hn hq HO ⊢
  have HL := Lib.hid hl
  have HP := Lib.hid hp
  have HQ := Lib.hid hq
  have HN := Lib.hid hn
  have HB1 : Hid (∀ o : Obj, Below B w (w.alloc o)) := Lib.hid fun o => (Below.refl B w).alloc hB _
  have HW1 : Hid (∀ o : Obj, Below w.heap.size w (w.alloc o)) := Lib.hid fun o => (Below.refl _ w).alloc (Nat.le_refl _) _
  have HLn : Hid (ls = [] ↔ Ln = 0) := by
    show _ ↔ _
    rw [← hl.1, List.length_eq_zero_iff]
  have HPn : Hid (ps = [] ↔ Pn = 0) := by
    show _ ↔ _
    rw [← hp.1, List.length_eq_zero_iff]
  clear hl hp hq hn
  have HNo : Hid (¬ IsW ⟨k, f, v, ls, ps⟩ → q = false) := Lib.hid fun h => by
    cases q
    · rfl
    · exact absurd (HQ.out.1 rfl) h
  by_cases f0 : f < 0
  · obtain rfl := HNo.out fun h => by have := h.f.1; dsimp only at this; omega
    go_enter Try.func107, Try.ntmps107
    go_wp2
    go_ret2
    first | exact ⟨⟨_, rfl, fun h => (by cases h), .inl rfl⟩, HW1.out _⟩ | exact ⟨⟨_, rfl, .inl rfl⟩, HW1.out _⟩
  by_cases f3 : 3 ≤ f
  · obtain rfl := HNo.out fun h => by have := h.f.2; dsimp only at this; omega
    go_enter Try.func107, Try.ntmps107
    go_wp2
    go_ret2
    first | exact ⟨⟨_, rfl, fun h => (by cases h), .inl rfl⟩, HW1.out _⟩ | exact ⟨⟨_, rfl, .inl rfl⟩, HW1.out _⟩
  have HF : Hid (0 ≤ f ∧ f ≤ 2) := Lib.hid ⟨by omega, by omega⟩
  obtain ⟨p, hp⟩ := bool_of ((k ≠ 2 ∧ v ≠ 0) ∨ (k ≠ 3 ∧ Ln ≠ 0) ∨ (k ≠ 4 ∧ Pn ≠ 0))
  have HPp := Lib.hid hp
  clear hp
  cases p
  · have HK2 : Hid (k ≠ 2 → v = 0) := Lib.hid fun h => by
      by_cases hv : v = 0
      · exact hv
      · have := HPp.out.2 (.inl ⟨h, hv⟩); cases this
    have HK3 : Hid (k ≠ 3 → ls = []) := Lib.hid fun h => by
      by_cases hv : Ln = 0
      · exact HLn.out.2 hv
      · have := HPp.out.2 (.inr (.inl ⟨h, hv⟩)); cases this
    have HK4 : Hid (k ≠ 4 → ps = []) := Lib.hid fun h => by
      by_cases hv : Pn = 0
      · exact HPn.out.2 hv
      · have := HPp.out.2 (.inr (.inr ⟨h, hv⟩)); cases this
    by_cases k0 : k = 0
    · subst k0
      obtain rfl := HQ.out.2 ((isW01 (.inl rfl) HF.out).2 ⟨HK2.out (by decide), HK3.out (by decide), HK4.out (by decide)⟩)
      have HT : Hid (∀ w', TasteFrom w' w.heap.size ⟨0, f, v, LA, Ln, Lc, ls, PA, Pn, Pc, ps⟩ (nearI 0)) := Lib.hid fun w' => .inl ⟨by show (0 : Int) ≠ 4; decide, 0, ⟨by decide, by decide⟩, rfl, fun x hx => by
        have h0 := hx.1
        have h9 := hx.2
        have e : rankW (Wi.dat ⟨0, f, v, LA, Ln, Lc, ls, PA, Pn, Pc, ps⟩) x = x := rfl
        rw [e]
        split <;> omega⟩
      go_enter Try.func107, Try.ntmps107
      go_wp2_with fail
      refine (HO.out _ false HPp.out).mono ?_
      rintro e w1 ⟨rfl, hb1⟩
      obtain ⟨c0, c1, c2, c3, c4, hg⟩ := box5 hb1
      have HBB := Lib.hid (And.intro ((HW1.out _).trans (hb1.mono (by simp))) ((HB1.out _).trans (hb1.mono (by simp; omega))))
      clear hb1
      go_wp2
      go_ret2
      exact ⟨⟨_, rfl, fun _ => HT.out _, by first | exact .inl rfl | exact .inr ⟨_, _, rfl⟩⟩, HBB.out.1⟩
    · by_cases k1 : k = 1
      · subst k1
        clear k0
        obtain rfl := HQ.out.2 ((isW01 (.inr rfl) HF.out).2 ⟨HK2.out (by decide), HK3.out (by decide), HK4.out (by decide)⟩)
        have HT : Hid (∀ w', TasteFrom w' w.heap.size ⟨1, f, v, LA, Ln, Lc, ls, PA, Pn, Pc, ps⟩ (nearI 9)) := Lib.hid fun w' => .inl ⟨by show (1 : Int) ≠ 4; decide, 9, ⟨by decide, by decide⟩, rfl, fun x hx => by
          have h0 := hx.1
          have h9 := hx.2
          have e : rankW (Wi.dat ⟨1, f, v, LA, Ln, Lc, ls, PA, Pn, Pc, ps⟩) x = 9 - x := rfl
          rw [e]
          split <;> omega⟩
        go_enter Try.func107, Try.ntmps107
        go_wp2_with fail
        refine (HO.out _ false HPp.out).mono ?_
        rintro e w1 ⟨rfl, hb1⟩
        obtain ⟨c0, c1, c2, c3, c4, hg⟩ := box5 hb1
        have HBB := Lib.hid (And.intro ((HW1.out _).trans (hb1.mono (by simp))) ((HB1.out _).trans (hb1.mono (by simp; omega))))
        clear hb1
        go_wp2
        go_ret2
        exact ⟨⟨_, rfl, fun _ => HT.out _, by first | exact .inl rfl | exact .inr ⟨_, _, rfl⟩⟩, HBB.out.1⟩
      · by_cases k2 : k = 2
        · subst k2
          clear k0 k1
          obtain ⟨qv, hqv⟩ := bool_of (InR v)
          obtain rfl : qv = q := by
            rw [Bool.eq_iff_iff, HQ.out, hqv, isW2 HF.out]
            exact ⟨fun h => ⟨h, HK3.out (by decide), HK4.out (by decide)⟩, fun h => h.1⟩
          have HV := Lib.hid hqv
          clear hqv
          go_enter Try.func107, Try.ntmps107
          go_wp2_with fail
          refine (HO.out _ false HPp.out).mono ?_
          rintro e w1 ⟨rfl, hb1⟩
          obtain ⟨c0, c1, c2, c3, c4, hg⟩ := box5 hb1
          have HBB := Lib.hid (And.intro ((HW1.out _).trans (hb1.mono (by simp))) ((HB1.out _).trans (hb1.mono (by simp; omega))))
          clear hb1
          go_wp2
          go_quiet ((go_at_call 116; refine Calls.quiet_of_same (value_same v qv HV.out _)))
          go_wp2
          go_ret2
          refine ⟨⟨_, rfl, fun h => .inl ⟨by show (2 : Int) ≠ 4; decide, v, HV.out.1 (by first | exact h | trivial), rfl, fun x hx => rfl⟩, by first | exact .inl rfl | exact .inr ⟨_, _, rfl⟩⟩, below_drewN HBB.out.1 _⟩
        · by_cases k3 : k = 3
          · subst k3
            clear k0 k1 k2
            obtain ⟨ql, hql⟩ := bool_of (Asc ls)
            obtain rfl : ql = q := by
              rw [Bool.eq_iff_iff, HQ.out, hql, isW3 HF.out]
              exact ⟨fun h => ⟨HK2.out (by decide), h, HK4.out (by decide)⟩, fun h => h.2.1⟩
            have HV := Lib.hid hql
            clear hql
            go_enter Try.func107, Try.ntmps107
            go_wp2_with fail
            refine (HO.out _ false HPp.out).mono ?_
            rintro e w1 ⟨rfl, hb1⟩
            obtain ⟨c0, c1, c2, c3, c4, hg⟩ := box5 hb1
            have HBB := Lib.hid (And.intro ((HW1.out _).trans (hb1.mono (by simp))) ((HB1.out _).trans (hb1.mono (by simp; omega))))
            clear hb1
            go_wp2
            go_quiet ((go_at_call 117; refine Calls.quiet_of_same (iList _ B LA Ln Lc ls (HL.out.below (below_drewN HBB.out.2 _)) HN.out.1 ql HV.out)))
            go_wp2
            go_ret2
            exact ⟨⟨_, rfl, fun h => .inr (.inl ⟨by show (3 : Int) ≠ 4; decide, rfl, fun x => rfl⟩), by first | exact .inl rfl | exact .inr ⟨_, _, rfl⟩⟩, below_drewN HBB.out.1 _⟩
          · by_cases k4 : k = 4
            · subst k4
              clear k0 k1 k2 k3
              have HV : Hid (q = true ↔ OkP ps) := Lib.hid (by
                rw [HQ.out, isW4 HF.out]
                exact ⟨fun h => h.2.2, fun h => ⟨HK2.out (by decide), HK3.out (by decide), h⟩⟩)
              go_enter Try.func107, Try.ntmps107
              go_wp2_with fail
              refine (HO.out _ false HPp.out).mono ?_
              rintro e w1 ⟨rfl, hb1⟩
              obtain ⟨c0, c1, c2, c3, c4, hg⟩ := box5 hb1
              have HBB := Lib.hid (And.intro ((HW1.out _).trans (hb1.mono (by simp))) ((HB1.out _).trans (hb1.mono (by simp; omega))))
              clear hb1
              go_wp2_with fail
              refine (above_of _ B PA Pn Pc ps (HP.out.below HBB.out.2) (by omega) HN.out.2 q HV.out).mono ?_
              rintro e w2 ⟨⟨o, rfl, hab⟩, hb2⟩
              have HAB := Lib.hid hab
              have HSz := Lib.hid HBB.out.1.size
              have HBC := Lib.hid (HBB.out.1.trans (hb2.mono HBB.out.1.size))
              clear hb2 hab c0 c1 c2 c3 c4
              go_wp2
              go_ret2
              exact ⟨⟨_, rfl, fun h => .inr (.inr ⟨rfl, o, _, HSz.out, rfl, h ▸ HAB.out⟩), by first | exact .inl rfl | exact .inr ⟨_, _, rfl⟩⟩, HBC.out⟩
            · have f0 : (k == 0) = false := by simpa using k0
              have f1 : (k == 1) = false := by simpa using k1
              have f2 : (k == 2) = false := by simpa using k2
              have f3 : (k == 3) = false := by simpa using k3
              have f4 : (k == 4) = false := by simpa using k4
              obtain rfl := HNo.out fun h => by have := h.k; dsimp only at this; omega
              clear k0 k1 k2 k3 k4
              go_enter Try.func107, Try.ntmps107
              go_wp2_with fail
              refine (HO.out _ false HPp.out).mono ?_
              rintro e w1 ⟨rfl, hb1⟩
              obtain ⟨c0, c1, c2, c3, c4, hg⟩ := box5 hb1
              have HBB := Lib.hid (And.intro ((HW1.out _).trans (hb1.mono (by simp))) ((HB1.out _).trans (hb1.mono (by simp; omega))))
              clear hb1
              go_wp2
              go_ret2
              first | exact ⟨⟨_, rfl, fun h => (by cases h), .inl rfl⟩, HBB.out.1⟩ | exact ⟨⟨_, rfl, .inl rfl⟩, HBB.out.1⟩
  · obtain rfl := HNo.out fun h => by
      have hv := h.v
      have hl := h.l
      have hp := h.p
      dsimp only at hv hl hp
      rcases HPp.out.1 rfl with ⟨h1, h2⟩ | ⟨h1, h2⟩ | ⟨h1, h2⟩
      · rw [if_neg h1] at hv; exact h2 hv
      · rw [if_neg h1] at hl; exact h2 (HLn.out.1 hl)
      · rw [if_neg h1] at hp; exact h2 (HPn.out.1 hp)
    have HPt := Lib.hid (HPp.out.1 rfl)
    clear HPp
    go_enter Try.func107, Try.ntmps107
    go_wp2_with fail
    refine (HO.out _ true ⟨fun _ => HPt.out, fun _ => rfl⟩).mono ?_
    rintro e w1 ⟨rfl, hb1⟩
    have HBB := Lib.hid ((HW1.out _).trans (hb1.mono (by simp)))
    clear hb1
    go_wp2
    go_ret2
    first | exact ⟨⟨_, rfl, fun h => (by cases h), .inl rfl⟩, HBB.out⟩ | exact ⟨⟨_, rfl, .inl rfl⟩, HBB.out⟩
theorem taste_of (w : World) (B : Nat) (t : Wi) (hi : WiIn w B t) (hB : B ≤ w.heap.size) (hn : t.Short) (q : Bool) (hq : q = true ↔ IsW t.dat) :
    Calls Try.prog 107 #[t.val] w fun e w' => (∃ v, e = .returned (.tuple #[v, .bool q]) ∧ (q = true → TasteAt w' t v)) ∧ Below w.heap.size w w' :=
  (taste_ofV w B t hi hB hn q hq).mono fun _ _ ⟨⟨v, h1, h2, _⟩, h3⟩ => ⟨⟨v, h1, fun h => (h2 h).at'⟩, h3⟩
end Go.Proofs.Ytadjoiahllekdaa.num
namespace Go.Proofs.Ytadjoiahllekdaa.num
set_option maxRecDepth 20000
open Go.RowKit Go.Maps
set_option linter.unusedVariables false
set_option linter.unusedSimpArgs false

/-- A part's row: its node, its taste, its operands. -/
def partRow (op : Int) (t : Wi) (v6 v7 v8 : Value) : Obj := .cells #[.int .i64 op, .int .i64 t.kind, .int .i64 t.field, .int .i64 t.value, .slice t.LA t.Ln t.Lc, .slice t.PA t.Pn t.Pc, v6, v7, v8] 121 (0, 0)
theorem part0 {w : World} {p : Nat} {op : Int} {t : Wi} {v6 v7 v8 : Value} (h : w.heap[p]? = some (partRow op t v6 v7 v8)) : w.cell? ⟨p, 0, none⟩ = some (.int .i64 op) := cell_of_row w _ 0 _ _ (0, 0) h
theorem part2 {w : World} {p : Nat} {op : Int} {t : Wi} {v6 v7 v8 : Value} (h : w.heap[p]? = some (partRow op t v6 v7 v8)) : w.cell? ⟨p, 2, none⟩ = some (.int .i64 t.field) := cell_of_row w _ 2 _ _ (0, 0) h
theorem part6 {w : World} {p : Nat} {op : Int} {t : Wi} {v6 v7 v8 : Value} (h : w.heap[p]? = some (partRow op t v6 v7 v8)) : w.cell? ⟨p, 6, none⟩ = some v6 := cell_of_row w _ 6 _ _ (0, 0) h
theorem part7 {w : World} {p : Nat} {op : Int} {t : Wi} {v6 v7 v8 : Value} (h : w.heap[p]? = some (partRow op t v6 v7 v8)) : w.cell? ⟨p, 7, none⟩ = some v7 := cell_of_row w _ 7 _ _ (0, 0) h
theorem part8 {w : World} {p : Nat} {op : Int} {t : Wi} {v6 v7 v8 : Value} (h : w.heap[p]? = some (partRow op t v6 v7 v8)) : w.cell? ⟨p, 8, none⟩ = some v8 := cell_of_row w _ 8 _ _ (0, 0) h
/-- The tree t lies at block p, all its own memory from block lo on; its wishes' slices below block B. -/
def PartAt (w : World) (B lo : Nat) : Tr → Nat → Prop
  | .base d, p => lo ≤ p ∧ p < w.heap.size ∧ ∃ (t : Wi) (v : Value), w.heap[p]? = some (partRow 0 t v (.pointer none) (.pointer none)) ∧ t.dat = d ∧ t.Short ∧ WiIn w B t ∧ IsW d ∧ TasteFrom w lo t v
  | .dual a, p => lo ≤ p ∧ p < w.heap.size ∧ ∃ (t : Wi) (q : Nat), w.heap[p]? = some (partRow 3 t .nilIface (.pointer (some ⟨q, 0, none⟩)) (.pointer none)) ∧ NoW t.dat ∧ t.Short ∧ WiIn w B t ∧ PartAt w B lo a q
  | .bin op a b, p => lo ≤ p ∧ p < w.heap.size ∧ Bin op ∧ ∃ (t : Wi) (q r : Nat), w.heap[p]? = some (partRow op t .nilIface (.pointer (some ⟨q, 0, none⟩)) (.pointer (some ⟨r, 0, none⟩))) ∧ NoW t.dat ∧ t.Short ∧ WiIn w B t ∧ PartAt w B lo a q ∧ PartAt w B lo b r
theorem WiIn.blocks {w w' : World} {B : Nat} {t : Wi} (h : WiIn w B t) (hb : ∀ k, k < B → w'.heap[k]? = w.heap[k]?) : WiIn w' B t :=
  ⟨h.k, h.f, h.v, ⟨h.l.1, fun k hk => by
    obtain ⟨b, off, ha, hB, hc⟩ := h.l.2 k hk
    exact ⟨b, off, ha, hB, (World.cell?_of_block (a := ⟨b, off + k, none⟩) (hb b hB)).trans hc⟩⟩, ⟨h.p.1, fun k p hk => by
    obtain ⟨b, off, ha, hB, h1, h2⟩ := h.p.2 k p hk
    exact ⟨b, off, ha, hB, (World.cell?_of_block (a := ⟨b, off + k * 2, none⟩) (hb b hB)).trans h1, (World.cell?_of_block (a := ⟨b, off + k * 2 + 1, none⟩) (hb b hB)).trans h2⟩⟩⟩
theorem PartAt.kept {w w' : World} {B lo : Nat} (hsz : w.heap.size ≤ w'.heap.size) (hb : ∀ k, k < B ∨ (lo ≤ k ∧ k < w.heap.size) → w'.heap[k]? = w.heap[k]?) : ∀ {t : Tr} {p : Nat}, PartAt w B lo t p → PartAt w' B lo t p
  | .base d, p, ⟨h0, h1, t, v, h2, h3, h4, h5, h6, h7⟩ => ⟨h0, Nat.lt_of_lt_of_le h1 hsz, t, v, (hb p (.inr ⟨h0, h1⟩)).trans h2, h3, h4, h5.blocks fun k hk => hb k (.inl hk), h6, h7.kept fun k h1 h2 => hb k (.inr ⟨h1, h2⟩)⟩
  | .dual a, p, ⟨h0, h1, t, q, h2, h3, h4, h5, h6⟩ => ⟨h0, Nat.lt_of_lt_of_le h1 hsz, t, q, (hb p (.inr ⟨h0, h1⟩)).trans h2, h3, h4, h5.blocks fun k hk => hb k (.inl hk), PartAt.kept hsz hb h6⟩
  | .bin op a b, p, ⟨h0, h1, h', t, q, r, h2, h3, h4, h5, h6, h7⟩ => ⟨h0, Nat.lt_of_lt_of_le h1 hsz, h', t, q, r, (hb p (.inr ⟨h0, h1⟩)).trans h2, h3, h4, h5.blocks fun k hk => hb k (.inl hk), PartAt.kept hsz hb h6, PartAt.kept hsz hb h7⟩
theorem PartAt.below {w w' : World} {B lo : Nat} (hB : B ≤ w.heap.size) (hb : Below w.heap.size w w') {t : Tr} {p : Nat} (h : PartAt w B lo t p) : PartAt w' B lo t p :=
  h.kept hb.size fun k hk => hb.block k (by rcases hk with hk | hk <;> omega)
theorem PartAt.low {w : World} {B lo lo' : Nat} (hl : lo' ≤ lo) : ∀ {t : Tr} {p : Nat}, PartAt w B lo t p → PartAt w B lo' t p
  | .base d, p, ⟨h0, h1, t, v, h2, h3, h4, h5, h6, h7⟩ => ⟨Nat.le_trans hl h0, h1, t, v, h2, h3, h4, h5, h6, h7.low hl⟩
  | .dual a, p, ⟨h0, h1, t, q, h2, h3, h4, h5, h6⟩ => ⟨Nat.le_trans hl h0, h1, t, q, h2, h3, h4, h5, PartAt.low hl h6⟩
  | .bin op a b, p, ⟨h0, h1, h', t, q, r, h2, h3, h4, h5, h6, h7⟩ => ⟨Nat.le_trans hl h0, h1, h', t, q, r, h2, h3, h4, h5, PartAt.low hl h6, PartAt.low hl h7⟩
theorem PartAt.set {w : World} {B lo : Nat} {t : Tr} {p g j : Nat} {v : Value} (h : PartAt w B lo t p) (h1 : B ≤ g) (h2 : g < lo) : PartAt (w.setCell ⟨g, j, none⟩ v) B lo t p :=
  h.kept (by simp) fun k hk => heap_setCell_other _ _ _ _ (by show k ≠ g; rcases hk with hk | hk <;> omega)
/-- What lastPart hands back of the slice (A, cap c) that holds nds. -/
def LastOut (B lo : Nat) (nds : List ND) (A : Option Addr) (c : Nat) (e : Ending) (w' : World) : Prop :=
  (∃ (t : Tr) (k p : Nat), LastP nds (some (t, k)) ∧ e = .returned (.tuple #[.pointer (some ⟨p, 0, none⟩), .slice A k c]) ∧ PartAt w' B lo t p) ∨ (LastP nds none ∧ e = .returned (.tuple #[.pointer none, .slice none 0 0]))
def zeroW : Wi := ⟨0, 0, 0, none, 0, 0, [], none, 0, 0, []⟩
theorem zeroW_in (w : World) (B : Nat) : WiIn w B zeroW := ⟨rfl, rfl, rfl, ⟨rfl, fun k hk => by cases hk⟩, ⟨rfl, fun k p hk => by simp [zeroW] at hk⟩⟩
theorem now_zero (t : Wi) : NoW t.dat ↔ t.dat = zeroW.dat := by
  constructor
  · intro ⟨h1, h2, h3, h4, h5⟩
    unfold Wi.dat zeroW at *
    simp only at h1 h2 h3 h4 h5
    rw [h1, h2, h3, h4, h5]
  · intro h
    rw [h]
    exact ⟨rfl, rfl, rfl, rfl, rfl⟩
theorem heap_set7 {w : World} {g : Nat} {T : TypeId} {v0 v1 v2 v3 v4 v5 v6 v7 v8 : Value} (h : w.heap[g]? = some (.cells #[v0, v1, v2, v3, v4, v5, v6, v7, v8] T (0, 0))) (u : Value) : (w.setCell ⟨g, 7, none⟩ u).heap[g]? = some (.cells #[v0, v1, v2, v3, v4, v5, v6, u, v8] T (0, 0)) := by
  have := heap_setCell_same w g 7 _ _ u h
  simpa using this
theorem heap_set8 {w : World} {g : Nat} {T : TypeId} {v0 v1 v2 v3 v4 v5 v6 v7 v8 : Value} (h : w.heap[g]? = some (.cells #[v0, v1, v2, v3, v4, v5, v6, v7, v8] T (0, 0))) (u : Value) : (w.setCell ⟨g, 8, none⟩ u).heap[g]? = some (.cells #[v0, v1, v2, v3, v4, v5, v6, v7, u] T (0, 0)) := by
  have := heap_setCell_same w g 8 _ _ u h
  simpa using this
theorem heap_set6 {w : World} {g : Nat} {T : TypeId} {v0 v1 v2 v3 v4 v5 v6 v7 v8 : Value} (h : w.heap[g]? = some (.cells #[v0, v1, v2, v3, v4, v5, v6, v7, v8] T (0, 0))) (u : Value) : (w.setCell ⟨g, 6, none⟩ u).heap[g]? = some (.cells #[v0, v1, v2, v3, v4, v5, u, v7, v8] T (0, 0)) := by
  have := heap_setCell_same w g 6 _ _ u h
  simpa using this

theorem iLast0 (B lo : Nat) (A : Option Addr) (c c' : Nat) (A' : Option Addr) (w : World) :
    Calls Try.prog 88 #[.slice A 0 c] w fun e w' => e = .returned (.tuple #[.pointer none, .slice none 0 0]) ∧ w' = w := by
  go_enter Try.func88, Try.ntmps88
  go_wp2
  go_ret2
  exact ⟨rfl, rfl⟩
set_option maxRecDepth 20000 in
set_option maxHeartbeats 3200000 in
theorem iLast (B : Nat) (A : Option Addr) (c : Nat) (hc : c ≤ 9223372036854775807) : ∀ (n : Nat) (w : World) (ns : List Nd), Nodes w B A n ns → B ≤ w.heap.size → n ≤ c → ShortN ns →
    Calls Try.prog 88 #[.slice A n c] w fun e w' => LastOut B w.heap.size (datN ns) A c e w' ∧ Below w.heap.size w w' := by
  intro n
  induction n using Nat.strongRecOn with
  | _ n ih =>
    intro w ns hi hB hnc hN
    rcases Nat.eq_zero_or_pos n with h0 | h0
    · subst h0
      obtain rfl : ns = [] := List.eq_nil_of_length_eq_zero hi.len
      clear ih hi
      go_enter Try.func88, Try.ntmps88
      go_wp2
      go_ret2
      exact ⟨.inr ⟨lastP_nil, rfl⟩, Below.refl _ _⟩
    · obtain ⟨m, rfl⟩ : ∃ m, n = m + 1 := ⟨n - 1, by omega⟩
      obtain ⟨b, off, ⟨op, t⟩, rfl, hb, hat, hwf, g0, g1, g2, g3, g4, g5⟩ := hi.at m (by omega)
      have HIH : Hid (∀ (k : Nat) (w : World) (ns : List Nd), k ≤ m → Nodes w B (some ⟨b, off, none⟩) k ns → B ≤ w.heap.size → ShortN ns → Calls Try.prog 88 #[.slice (some ⟨b, off, none⟩) k c] w fun e w' => LastOut B w.heap.size (datN ns) (some ⟨b, off, none⟩) c e w' ∧ Below w.heap.size w w') := Lib.hid fun k w ns h1 h2 h3 h4 => ih k (by omega) w ns h2 h3 (by omega) h4
      have HM : Hid (Nodes w B (some ⟨b, off, none⟩) m (ns.take m)) := Lib.hid (hi.take (by omega))
      have HN : Hid (ShortN (ns.take m)) := Lib.hid fun x hx => hN x (List.mem_of_mem_take hx)
      have HWi := Lib.hid hwf.2
      have hE : datN ns = datN (ns.take m) ++ [⟨op, t.dat⟩] := by
        have h := datN_at hat
        rwa [ptake_all hi.len] at h
      have hL : (datN (ns.take m)).length = m := by unfold datN; rw [List.length_map, List.length_take, hi.len]; omega
      have HE := Lib.hid hE
      have HL := Lib.hid hL
      have HSh : Hid t.Short := Lib.hid (hN _ (List.mem_of_getElem? hat))
      dsimp only at g0 g1 g2 g3 g4 g5
      have hx1 : (m : Int) + 1 - 1 = (m : Int) := by omega
      have hx3 : ((m : Int) + 1 == 0) = false := by simp; omega
      have hm1 : (m : Int) < (m : Int) + 1 := by omega
      have hm2 : (m : Int) ≤ (c : Int) := by omega
      clear ih hi hN hwf hE hL hat
      have HW1 : Hid (∀ o : Obj, Below w.heap.size w (w.alloc o).drew) := Lib.hid fun o => ((Below.refl _ w).alloc (Nat.le_refl _) _).drew
      have hvw : t.val = .agg #[.int .i64 t.kind, .int .i64 t.field, .int .i64 t.value, .slice t.LA t.Ln t.Lc, .slice t.PA t.Pn t.Pc] := rfl
      by_cases e0 : op = 0
      · subst e0
        obtain ⟨q, hq⟩ := bool_of (IsW t.dat)
        have HC : Hid (∀ w1, Below w.heap.size w w1 → w.heap.size + 1 ≤ w1.heap.size → Calls Try.prog 107 #[.agg #[.int .i64 t.kind, .int .i64 t.field, .int .i64 t.value, .slice t.LA t.Ln t.Lc, .slice t.PA t.Pn t.Pc]] w1 fun e w' => (∃ v, e = .returned (.tuple #[v, .bool q]) ∧ (q = true → TasteFrom w' (w.heap.size + 1) t v) ∧ IfV v) ∧ Below w1.heap.size w1 w') := Lib.hid fun w1 h h' => by
          rw [← hvw]
          exact (taste_ofV w1 B t (HWi.out.below (h.mono hB)) (Nat.le_trans hB h.size) HSh.out q hq).mono fun _ _ ⟨⟨v, h1, h2, h3⟩, h4⟩ => ⟨⟨v, h1, fun h => (h2 h).low h', h3⟩, h4⟩
        have HQ := Lib.hid hq
        clear hq hvw
        go_enter Try.func88, Try.ntmps88
        go_wp2
        go_region
        go_wp2_with fail
        refine (HC.out _ (HW1.out _) (by simp)).mono ?_
        rintro e w1 ⟨⟨v, rfl, hv, hif⟩, hb1⟩
        have hp : w1.heap[w.heap.size]? = some (.cells #[.int .i64 0, .int .i64 t.kind, .int .i64 t.field, .int .i64 t.value, .slice t.LA t.Ln t.Lc, .slice t.PA t.Pn t.Pc, .nilIface, .pointer none, .pointer none] 121 (0, 0)) := (hb1.block _ (by simp)).trans (heap_alloc_new w _)
        have HP := Lib.hid hp
        have HB := Lib.hid (below_on (HW1.out _) hb1)
        have HS := Lib.hid (Nat.lt_of_lt_of_le (by simp) hb1.size : w.heap.size < w1.heap.size)
        have HV := Lib.hid hv
        have c6 : w1.cell? ⟨w.heap.size, 6, none⟩ = some (.nilIface) := cell_of_row w1 _ 6 _ _ (0, 0) hp
        have z6 : w1.frozen? ⟨w.heap.size, 6, none⟩ = false := frozen_of_row w1 _ 6 _ _ hp
        clear hp hb1 hv HC
        cases q
        · have HLp : Hid (LastP (datN ns) none) := Lib.hid (by rw [HE.out]; exact (lastP_base rfl).2 fun h => by have := HQ.out.2 h; cases this)
          have HBB : Hid (∀ u, Below w.heap.size w (w1.setCell ⟨w.heap.size, 6, none⟩ u)) := Lib.hid fun u => HB.out.setCell (Nat.le_refl _) u
          rcases hif with rfl | ⟨T, x, rfl⟩
          · go_wp2
            go_ret2
            exact ⟨.inr ⟨HLp.out, rfl⟩, HBB.out _⟩
          · go_wp2
            go_ret2
            exact ⟨.inr ⟨HLp.out, rfl⟩, HBB.out _⟩
        · have HW := Lib.hid (HQ.out.1 rfl)
          have HLp : Hid (LastP (datN ns) (some (.base t.dat, m))) := Lib.hid (by rw [HE.out]; have h := (lastP_base (l := datN (ns.take m)) (nd := ⟨0, t.dat⟩) rfl).1 HW.out; rwa [HL.out] at h)
          have HBB : Hid (∀ u, Below w.heap.size w (w1.setCell ⟨w.heap.size, 6, none⟩ u)) := Lib.hid fun u => HB.out.setCell (Nat.le_refl _) u
          have HF : Hid (PartAt (w1.setCell ⟨w.heap.size, 6, none⟩ v) B w.heap.size (.base t.dat) w.heap.size) := Lib.hid (by
            have hp := heap_set6 HP.out v
            refine ⟨Nat.le_refl _, by have := HS.out; simpa using this, t, v, hp, rfl, HSh.out, HWi.out.below ((HBB.out v).mono hB), HW.out, ?_⟩
            rcases HV.out rfl with h | h | ⟨h, o, X, hX, e, a⟩
            · exact .inl h
            · exact .inr (.inl h)
            · refine .inr (.inr ⟨h, o, X, by omega, e, a.kept fun k h1 h2 => heap_setCell_other _ _ _ _ ?_⟩)
              show k ≠ w.heap.size
              omega)
          rcases hif with rfl | ⟨T, x, rfl⟩
          · go_wp2
            go_ret2
            exact ⟨.inl ⟨_, _, _, HLp.out, rfl, HF.out⟩, HBB.out _⟩
          · go_wp2
            go_ret2
            exact ⟨.inl ⟨_, _, _, HLp.out, rfl, HF.out⟩, HBB.out _⟩
      · by_cases e3 : op = 3
        · subst e3
          clear e0
          have hzw : zeroW.val = .agg #[.int .i64 0, .int .i64 0, .int .i64 0, .slice none 0 0, .slice none 0 0] := rfl
          obtain ⟨q, hq⟩ := bool_of (NoW t.dat)
          have HC : Hid (∀ w1, Below w.heap.size w w1 → Calls Try.prog 108 #[.agg #[.int .i64 t.kind, .int .i64 t.field, .int .i64 t.value, .slice t.LA t.Ln t.Lc, .slice t.PA t.Pn t.Pc], .agg #[.int .i64 0, .int .i64 0, .int .i64 0, .slice none 0 0, .slice none 0 0]] w1 fun e w' => e = .returned (.bool q) ∧ Below w1.heap.size w1 w') := Lib.hid fun w1 h => by
            rw [← hvw, ← hzw]
            exact iSameWish w1 B t zeroW (HWi.out.below (h.mono hB)) (zeroW_in _ _) (Nat.le_trans hB h.size) HSh.out q (by rw [hq, now_zero])
          have HQ := Lib.hid hq
          clear hq hvw hzw
          go_enter Try.func88, Try.ntmps88
          go_wp2
          go_region
          go_wp2_with fail
          refine (HIH.out m _ (ns.take m) (Nat.le_refl _) (HM.out.below ((HW1.out _).mono hB)) (Nat.le_trans hB (HW1.out _).size) HN.out).mono ?_
          rintro e w1 ⟨hout, hb1⟩
          have HPr : Hid (w1.heap[w.heap.size]? = some (.cells #[.int .i64 3, .int .i64 t.kind, .int .i64 t.field, .int .i64 t.value, .slice t.LA t.Ln t.Lc, .slice t.PA t.Pn t.Pc, .nilIface, .pointer none, .pointer none] 121 (0, 0))) := Lib.hid ((hb1.block _ (by simp)).trans (heap_alloc_new w _))
          have HBr := Lib.hid (below_on (HW1.out _) hb1)
          clear hb1
          rcases hout with ⟨ta, k, s, hl, rfl, hpa⟩ | ⟨hl, rfl⟩
          · have HLa := Lib.hid hl
            have HPa := Lib.hid hpa
            clear hl hpa
            have c0 : w1.cell? ⟨w.heap.size, 0, none⟩ = some (.int .i64 3) := cell_of_row w1 _ 0 _ _ (0, 0) HPr.out
            have c1 : w1.cell? ⟨w.heap.size, 1, none⟩ = some (.int .i64 t.kind) := cell_of_row w1 _ 1 _ _ (0, 0) HPr.out
            have c2 : w1.cell? ⟨w.heap.size, 2, none⟩ = some (.int .i64 t.field) := cell_of_row w1 _ 2 _ _ (0, 0) HPr.out
            have c3 : w1.cell? ⟨w.heap.size, 3, none⟩ = some (.int .i64 t.value) := cell_of_row w1 _ 3 _ _ (0, 0) HPr.out
            have c4 : w1.cell? ⟨w.heap.size, 4, none⟩ = some (.slice t.LA t.Ln t.Lc) := cell_of_row w1 _ 4 _ _ (0, 0) HPr.out
            have c5 : w1.cell? ⟨w.heap.size, 5, none⟩ = some (.slice t.PA t.Pn t.Pc) := cell_of_row w1 _ 5 _ _ (0, 0) HPr.out
            have c7 : w1.cell? ⟨w.heap.size, 7, none⟩ = some (.pointer none) := cell_of_row w1 _ 7 _ _ (0, 0) HPr.out
            have z7 : w1.frozen? ⟨w.heap.size, 7, none⟩ = false := frozen_of_row w1 _ 7 _ _ HPr.out
            have HB7 : Hid (∀ u, Below w.heap.size w (w1.setCell ⟨w.heap.size, 7, none⟩ u)) := Lib.hid fun u => HBr.out.setCell (Nat.le_refl _) u
            go_wp2_with fail
            refine (HC.out _ (HB7.out _)).mono ?_
            rintro e w9 ⟨rfl, hb9⟩
            have HB9 := Lib.hid (below_on (HB7.out _) hb9)
            have HD9 := Lib.hid hb9
            clear c0 c1 c2 c3 c4 c5 c7 z7
            clear hb9 HC
            cases q
            · have HLp : Hid (LastP (datN ns) none) := Lib.hid (by rw [HE.out]; exact lastP_now_no (by show (3 : Int) ≠ 0; decide) fun h => by have := HQ.out.2 h; cases this)
              go_wp2
              go_ret2
              exact ⟨.inr ⟨HLp.out, rfl⟩, HB9.out⟩
            · have HW := Lib.hid (HQ.out.1 rfl)
              have HLp : Hid (LastP (datN ns) (some (.dual ta, k))) := Lib.hid (by rw [HE.out]; exact lastP_dual rfl HW.out HLa.out)
              have HF : Hid (PartAt w9 B w.heap.size (.dual ta) w.heap.size) := Lib.hid (by
                have hp := heap_set7 HPr.out (.pointer (some ⟨s, 0, none⟩))
                have hlt := lt_of_block hp
                refine ⟨Nat.le_refl _, Nat.lt_of_lt_of_le hlt HD9.out.size, t, s, (HD9.out.block _ hlt).trans hp, HW.out, HSh.out, HWi.out.below (HB9.out.mono hB), ?_⟩
                exact ((HPa.out.set hB (by simp)).below (Nat.le_trans hB (HB7.out _).size) HD9.out).low (by simp))
              go_wp2
              go_ret2
              exact ⟨.inl ⟨_, _, _, HLp.out, rfl, HF.out⟩, HB9.out⟩
          · have HLa := Lib.hid hl
            clear hl
            have c7 : w1.cell? ⟨w.heap.size, 7, none⟩ = some (.pointer none) := cell_of_row w1 _ 7 _ _ (0, 0) HPr.out
            have z7 : w1.frozen? ⟨w.heap.size, 7, none⟩ = false := frozen_of_row w1 _ 7 _ _ HPr.out
            have HLp : Hid (LastP (datN ns) none) := Lib.hid (by rw [HE.out]; exact lastP_dual_no rfl HLa.out)
            have HB7 : Hid (∀ u, Below w.heap.size w (w1.setCell ⟨w.heap.size, 7, none⟩ u)) := Lib.hid fun u => HBr.out.setCell (Nat.le_refl _) u
            go_wp2
            go_ret2
            exact ⟨.inr ⟨HLp.out, rfl⟩, HB7.out _⟩
        · by_cases eb : op = 1 ∨ op = 2 ∨ op = 4
          · have HBin : Hid (Bin op) := Lib.hid eb
            rcases eb with rfl | rfl | rfl
            · have hzw : zeroW.val = .agg #[.int .i64 0, .int .i64 0, .int .i64 0, .slice none 0 0, .slice none 0 0] := rfl
              obtain ⟨q, hq⟩ := bool_of (NoW t.dat)
              have HC : Hid (∀ w1, Below w.heap.size w w1 → Calls Try.prog 108 #[.agg #[.int .i64 t.kind, .int .i64 t.field, .int .i64 t.value, .slice t.LA t.Ln t.Lc, .slice t.PA t.Pn t.Pc], .agg #[.int .i64 0, .int .i64 0, .int .i64 0, .slice none 0 0, .slice none 0 0]] w1 fun e w' => e = .returned (.bool q) ∧ Below w1.heap.size w1 w') := Lib.hid fun w1 h => by
                rw [← hvw, ← hzw]
                exact iSameWish w1 B t zeroW (HWi.out.below (h.mono hB)) (zeroW_in _ _) (Nat.le_trans hB h.size) HSh.out q (by rw [hq, now_zero])
              have HQ := Lib.hid hq
              clear hq hvw hzw
              go_enter Try.func88, Try.ntmps88
              go_wp2
              go_region
              go_wp2_with fail
              refine (HIH.out m _ (ns.take m) (Nat.le_refl _) (HM.out.below ((HW1.out _).mono hB)) (Nat.le_trans hB (HW1.out _).size) HN.out).mono ?_
              rintro e w1 ⟨hout, hb1⟩
              have HPr : Hid (w1.heap[w.heap.size]? = some (.cells #[.int .i64 1, .int .i64 t.kind, .int .i64 t.field, .int .i64 t.value, .slice t.LA t.Ln t.Lc, .slice t.PA t.Pn t.Pc, .nilIface, .pointer none, .pointer none] 121 (0, 0))) := Lib.hid ((hb1.block _ (by simp)).trans (heap_alloc_new w _))
              have HBr := Lib.hid (below_on (HW1.out _) hb1)
              clear hb1
              rcases hout with ⟨tb, k2, r, hl, rfl, hpb⟩ | ⟨hl, rfl⟩
              · have HLb := Lib.hid hl
                have HPb := Lib.hid hpb
                have hk2 : k2 ≤ m := by have := hl.lt; rw [HL.out] at this; omega
                clear hl hpb
                have c8 : w1.cell? ⟨w.heap.size, 8, none⟩ = some (.pointer none) := cell_of_row w1 _ 8 _ _ (0, 0) HPr.out
                have z8 : w1.frozen? ⟨w.heap.size, 8, none⟩ = false := frozen_of_row w1 _ 8 _ _ HPr.out
                have HP8 := Lib.hid (heap_set8 HPr.out (.pointer (some ⟨r, 0, none⟩)))
                have HB8 : Hid (∀ u, Below w.heap.size w (w1.setCell ⟨w.heap.size, 8, none⟩ u)) := Lib.hid fun u => HBr.out.setCell (Nat.le_refl _) u
                have HPb8 : Hid (∀ u, PartAt (w1.setCell ⟨w.heap.size, 8, none⟩ u) B (w.heap.size + 1) tb r) := Lib.hid fun u => by have := HPb.out.set (g := w.heap.size) (j := 8) (v := u) hB (by simp); simpa using this
                clear HPr HBr HPb
                go_wp2_with fail
                refine (HIH.out k2 _ ((ns.take m).take k2) hk2 ((HM.out.take hk2).below ((HB8.out _).mono hB)) (Nat.le_trans hB (HB8.out _).size) (fun x hx => HN.out x (List.mem_of_mem_take hx))).mono ?_
                rintro e w2 ⟨hout, hb2⟩
                have HPr : Hid (w2.heap[w.heap.size]? = some (.cells #[.int .i64 1, .int .i64 t.kind, .int .i64 t.field, .int .i64 t.value, .slice t.LA t.Ln t.Lc, .slice t.PA t.Pn t.Pc, .nilIface, .pointer none, .pointer (some ⟨r, 0, none⟩)] 121 (0, 0))) := Lib.hid ((hb2.block _ (lt_of_block HP8.out)).trans HP8.out)
                have HBr := Lib.hid (below_on (HB8.out _) hb2)
                have HPb2 : Hid (PartAt w2 B (w.heap.size + 1) tb r) := Lib.hid ((HPb8.out _).below (Nat.le_trans hB (HB8.out _).size) hb2)
                have hlo : w.heap.size + 1 ≤ (w1.setCell ⟨w.heap.size, 8, none⟩ (.pointer (some ⟨r, 0, none⟩))).heap.size := lt_of_block HP8.out
                have HLo := Lib.hid hlo
                have HTk : Hid (datN ((ns.take m).take k2) = (datN (ns.take m)).take k2) := Lib.hid (by unfold datN; rw [List.map_take])
                clear hb2 hlo HP8 HB8 HPb8
                clear c8 z8
                rcases hout with ⟨ta, k, s, hl, rfl, hpa⟩ | ⟨hl, rfl⟩
                · have HLa := Lib.hid hl
                  have HPa := Lib.hid (hpa.low HLo.out)
                  clear hl hpa
                  have c0 : w2.cell? ⟨w.heap.size, 0, none⟩ = some (.int .i64 1) := cell_of_row w2 _ 0 _ _ (0, 0) HPr.out
                  have c1 : w2.cell? ⟨w.heap.size, 1, none⟩ = some (.int .i64 t.kind) := cell_of_row w2 _ 1 _ _ (0, 0) HPr.out
                  have c2 : w2.cell? ⟨w.heap.size, 2, none⟩ = some (.int .i64 t.field) := cell_of_row w2 _ 2 _ _ (0, 0) HPr.out
                  have c3 : w2.cell? ⟨w.heap.size, 3, none⟩ = some (.int .i64 t.value) := cell_of_row w2 _ 3 _ _ (0, 0) HPr.out
                  have c4 : w2.cell? ⟨w.heap.size, 4, none⟩ = some (.slice t.LA t.Ln t.Lc) := cell_of_row w2 _ 4 _ _ (0, 0) HPr.out
                  have c5 : w2.cell? ⟨w.heap.size, 5, none⟩ = some (.slice t.PA t.Pn t.Pc) := cell_of_row w2 _ 5 _ _ (0, 0) HPr.out
                  have c7 : w2.cell? ⟨w.heap.size, 7, none⟩ = some (.pointer none) := cell_of_row w2 _ 7 _ _ (0, 0) HPr.out
                  have z7 : w2.frozen? ⟨w.heap.size, 7, none⟩ = false := frozen_of_row w2 _ 7 _ _ HPr.out
                  have HB7 : Hid (∀ u, Below w.heap.size w (w2.setCell ⟨w.heap.size, 7, none⟩ u)) := Lib.hid fun u => HBr.out.setCell (Nat.le_refl _) u
                  go_wp2_with fail
                  refine (HC.out _ (HB7.out _)).mono ?_
                  rintro e w9 ⟨rfl, hb9⟩
                  have HB9 := Lib.hid (below_on (HB7.out _) hb9)
                  have HD9 := Lib.hid hb9
                  clear c0 c1 c2 c3 c4 c5 c7 z7
                  clear hb9 HC
                  cases q
                  · have HLp : Hid (LastP (datN ns) none) := Lib.hid (by rw [HE.out]; exact lastP_now_no (by show (1 : Int) ≠ 0; decide) fun h => by have := HQ.out.2 h; cases this)
                    go_wp2
                    go_ret2
                    exact ⟨.inr ⟨HLp.out, rfl⟩, HB9.out⟩
                  · have HW := Lib.hid (HQ.out.1 rfl)
                    have HLp : Hid (LastP (datN ns) (some (.bin 1 ta tb, k))) := Lib.hid (by rw [HE.out]; exact lastP_bin HBin.out HW.out HLb.out (HTk.out ▸ HLa.out))
                    have HF : Hid (PartAt w9 B w.heap.size (.bin 1 ta tb) w.heap.size) := Lib.hid (by
                      have hp := heap_set7 HPr.out (.pointer (some ⟨s, 0, none⟩))
                      have hlt := lt_of_block hp
                      refine ⟨Nat.le_refl _, Nat.lt_of_lt_of_le hlt HD9.out.size, HBin.out, t, s, r, (HD9.out.block _ hlt).trans hp, HW.out, HSh.out, HWi.out.below (HB9.out.mono hB), ?_, ?_⟩
                      · exact ((HPa.out.set hB (by omega)).below (Nat.le_trans hB (HB7.out _).size) HD9.out).low (by omega)
                      · exact ((HPb2.out.set hB (by omega)).below (Nat.le_trans hB (HB7.out _).size) HD9.out).low (by omega))
                    go_wp2
                    go_ret2
                    exact ⟨.inl ⟨_, _, _, HLp.out, rfl, HF.out⟩, HB9.out⟩
                · have HLa := Lib.hid hl
                  clear hl
                  have c7 : w2.cell? ⟨w.heap.size, 7, none⟩ = some (.pointer none) := cell_of_row w2 _ 7 _ _ (0, 0) HPr.out
                  have z7 : w2.frozen? ⟨w.heap.size, 7, none⟩ = false := frozen_of_row w2 _ 7 _ _ HPr.out
                  have HLp : Hid (LastP (datN ns) none) := Lib.hid (by rw [HE.out]; exact lastP_bin_no1 HBin.out HLb.out (HTk.out ▸ HLa.out))
                  have HB7 : Hid (∀ u, Below w.heap.size w (w2.setCell ⟨w.heap.size, 7, none⟩ u)) := Lib.hid fun u => HBr.out.setCell (Nat.le_refl _) u
                  go_wp2
                  go_ret2
                  exact ⟨.inr ⟨HLp.out, rfl⟩, HB7.out _⟩
              · have HLa := Lib.hid hl
                clear hl
                have c8 : w1.cell? ⟨w.heap.size, 8, none⟩ = some (.pointer none) := cell_of_row w1 _ 8 _ _ (0, 0) HPr.out
                have z8 : w1.frozen? ⟨w.heap.size, 8, none⟩ = false := frozen_of_row w1 _ 8 _ _ HPr.out
                have HP8 := Lib.hid (heap_set8 HPr.out (.pointer none))
                have HB8 : Hid (∀ u, Below w.heap.size w (w1.setCell ⟨w.heap.size, 8, none⟩ u)) := Lib.hid fun u => HBr.out.setCell (Nat.le_refl _) u
                clear HPr HBr
                go_wp2_with fail
                refine (iLast0 B 0 none 0 0 none _).mono ?_
                rintro e w2 ⟨rfl, hw2⟩
                have HPr : Hid (w2.heap[w.heap.size]? = some (.cells #[.int .i64 1, .int .i64 t.kind, .int .i64 t.field, .int .i64 t.value, .slice t.LA t.Ln t.Lc, .slice t.PA t.Pn t.Pc, .nilIface, .pointer none, .pointer none] 121 (0, 0))) := Lib.hid (by rw [hw2]; exact HP8.out)
                have HBr : Hid (Below w.heap.size w w2) := Lib.hid (by rw [hw2]; exact HB8.out _)
                clear hw2 HP8 HB8
                clear c8 z8
                have c7 : w2.cell? ⟨w.heap.size, 7, none⟩ = some (.pointer none) := cell_of_row w2 _ 7 _ _ (0, 0) HPr.out
                have z7 : w2.frozen? ⟨w.heap.size, 7, none⟩ = false := frozen_of_row w2 _ 7 _ _ HPr.out
                have HLp : Hid (LastP (datN ns) none) := Lib.hid (by rw [HE.out]; exact lastP_bin_no2 HBin.out HLa.out)
                have HB7 : Hid (∀ u, Below w.heap.size w (w2.setCell ⟨w.heap.size, 7, none⟩ u)) := Lib.hid fun u => HBr.out.setCell (Nat.le_refl _) u
                go_wp2
                go_ret2
                exact ⟨.inr ⟨HLp.out, rfl⟩, HB7.out _⟩
            · have hzw : zeroW.val = .agg #[.int .i64 0, .int .i64 0, .int .i64 0, .slice none 0 0, .slice none 0 0] := rfl
              obtain ⟨q, hq⟩ := bool_of (NoW t.dat)
              have HC : Hid (∀ w1, Below w.heap.size w w1 → Calls Try.prog 108 #[.agg #[.int .i64 t.kind, .int .i64 t.field, .int .i64 t.value, .slice t.LA t.Ln t.Lc, .slice t.PA t.Pn t.Pc], .agg #[.int .i64 0, .int .i64 0, .int .i64 0, .slice none 0 0, .slice none 0 0]] w1 fun e w' => e = .returned (.bool q) ∧ Below w1.heap.size w1 w') := Lib.hid fun w1 h => by
                rw [← hvw, ← hzw]
                exact iSameWish w1 B t zeroW (HWi.out.below (h.mono hB)) (zeroW_in _ _) (Nat.le_trans hB h.size) HSh.out q (by rw [hq, now_zero])
              have HQ := Lib.hid hq
              clear hq hvw hzw
              go_enter Try.func88, Try.ntmps88
              go_wp2
              go_region
              go_wp2_with fail
              refine (HIH.out m _ (ns.take m) (Nat.le_refl _) (HM.out.below ((HW1.out _).mono hB)) (Nat.le_trans hB (HW1.out _).size) HN.out).mono ?_
              rintro e w1 ⟨hout, hb1⟩
              have HPr : Hid (w1.heap[w.heap.size]? = some (.cells #[.int .i64 2, .int .i64 t.kind, .int .i64 t.field, .int .i64 t.value, .slice t.LA t.Ln t.Lc, .slice t.PA t.Pn t.Pc, .nilIface, .pointer none, .pointer none] 121 (0, 0))) := Lib.hid ((hb1.block _ (by simp)).trans (heap_alloc_new w _))
              have HBr := Lib.hid (below_on (HW1.out _) hb1)
              clear hb1
              rcases hout with ⟨tb, k2, r, hl, rfl, hpb⟩ | ⟨hl, rfl⟩
              · have HLb := Lib.hid hl
                have HPb := Lib.hid hpb
                have hk2 : k2 ≤ m := by have := hl.lt; rw [HL.out] at this; omega
                clear hl hpb
                have c8 : w1.cell? ⟨w.heap.size, 8, none⟩ = some (.pointer none) := cell_of_row w1 _ 8 _ _ (0, 0) HPr.out
                have z8 : w1.frozen? ⟨w.heap.size, 8, none⟩ = false := frozen_of_row w1 _ 8 _ _ HPr.out
                have HP8 := Lib.hid (heap_set8 HPr.out (.pointer (some ⟨r, 0, none⟩)))
                have HB8 : Hid (∀ u, Below w.heap.size w (w1.setCell ⟨w.heap.size, 8, none⟩ u)) := Lib.hid fun u => HBr.out.setCell (Nat.le_refl _) u
                have HPb8 : Hid (∀ u, PartAt (w1.setCell ⟨w.heap.size, 8, none⟩ u) B (w.heap.size + 1) tb r) := Lib.hid fun u => by have := HPb.out.set (g := w.heap.size) (j := 8) (v := u) hB (by simp); simpa using this
                clear HPr HBr HPb
                go_wp2_with fail
                refine (HIH.out k2 _ ((ns.take m).take k2) hk2 ((HM.out.take hk2).below ((HB8.out _).mono hB)) (Nat.le_trans hB (HB8.out _).size) (fun x hx => HN.out x (List.mem_of_mem_take hx))).mono ?_
                rintro e w2 ⟨hout, hb2⟩
                have HPr : Hid (w2.heap[w.heap.size]? = some (.cells #[.int .i64 2, .int .i64 t.kind, .int .i64 t.field, .int .i64 t.value, .slice t.LA t.Ln t.Lc, .slice t.PA t.Pn t.Pc, .nilIface, .pointer none, .pointer (some ⟨r, 0, none⟩)] 121 (0, 0))) := Lib.hid ((hb2.block _ (lt_of_block HP8.out)).trans HP8.out)
                have HBr := Lib.hid (below_on (HB8.out _) hb2)
                have HPb2 : Hid (PartAt w2 B (w.heap.size + 1) tb r) := Lib.hid ((HPb8.out _).below (Nat.le_trans hB (HB8.out _).size) hb2)
                have hlo : w.heap.size + 1 ≤ (w1.setCell ⟨w.heap.size, 8, none⟩ (.pointer (some ⟨r, 0, none⟩))).heap.size := lt_of_block HP8.out
                have HLo := Lib.hid hlo
                have HTk : Hid (datN ((ns.take m).take k2) = (datN (ns.take m)).take k2) := Lib.hid (by unfold datN; rw [List.map_take])
                clear hb2 hlo HP8 HB8 HPb8
                clear c8 z8
                rcases hout with ⟨ta, k, s, hl, rfl, hpa⟩ | ⟨hl, rfl⟩
                · have HLa := Lib.hid hl
                  have HPa := Lib.hid (hpa.low HLo.out)
                  clear hl hpa
                  have c0 : w2.cell? ⟨w.heap.size, 0, none⟩ = some (.int .i64 2) := cell_of_row w2 _ 0 _ _ (0, 0) HPr.out
                  have c1 : w2.cell? ⟨w.heap.size, 1, none⟩ = some (.int .i64 t.kind) := cell_of_row w2 _ 1 _ _ (0, 0) HPr.out
                  have c2 : w2.cell? ⟨w.heap.size, 2, none⟩ = some (.int .i64 t.field) := cell_of_row w2 _ 2 _ _ (0, 0) HPr.out
                  have c3 : w2.cell? ⟨w.heap.size, 3, none⟩ = some (.int .i64 t.value) := cell_of_row w2 _ 3 _ _ (0, 0) HPr.out
                  have c4 : w2.cell? ⟨w.heap.size, 4, none⟩ = some (.slice t.LA t.Ln t.Lc) := cell_of_row w2 _ 4 _ _ (0, 0) HPr.out
                  have c5 : w2.cell? ⟨w.heap.size, 5, none⟩ = some (.slice t.PA t.Pn t.Pc) := cell_of_row w2 _ 5 _ _ (0, 0) HPr.out
                  have c7 : w2.cell? ⟨w.heap.size, 7, none⟩ = some (.pointer none) := cell_of_row w2 _ 7 _ _ (0, 0) HPr.out
                  have z7 : w2.frozen? ⟨w.heap.size, 7, none⟩ = false := frozen_of_row w2 _ 7 _ _ HPr.out
                  have HB7 : Hid (∀ u, Below w.heap.size w (w2.setCell ⟨w.heap.size, 7, none⟩ u)) := Lib.hid fun u => HBr.out.setCell (Nat.le_refl _) u
                  go_wp2_with fail
                  refine (HC.out _ (HB7.out _)).mono ?_
                  rintro e w9 ⟨rfl, hb9⟩
                  have HB9 := Lib.hid (below_on (HB7.out _) hb9)
                  have HD9 := Lib.hid hb9
                  clear c0 c1 c2 c3 c4 c5 c7 z7
                  clear hb9 HC
                  cases q
                  · have HLp : Hid (LastP (datN ns) none) := Lib.hid (by rw [HE.out]; exact lastP_now_no (by show (2 : Int) ≠ 0; decide) fun h => by have := HQ.out.2 h; cases this)
                    go_wp2
                    go_ret2
                    exact ⟨.inr ⟨HLp.out, rfl⟩, HB9.out⟩
                  · have HW := Lib.hid (HQ.out.1 rfl)
                    have HLp : Hid (LastP (datN ns) (some (.bin 2 ta tb, k))) := Lib.hid (by rw [HE.out]; exact lastP_bin HBin.out HW.out HLb.out (HTk.out ▸ HLa.out))
                    have HF : Hid (PartAt w9 B w.heap.size (.bin 2 ta tb) w.heap.size) := Lib.hid (by
                      have hp := heap_set7 HPr.out (.pointer (some ⟨s, 0, none⟩))
                      have hlt := lt_of_block hp
                      refine ⟨Nat.le_refl _, Nat.lt_of_lt_of_le hlt HD9.out.size, HBin.out, t, s, r, (HD9.out.block _ hlt).trans hp, HW.out, HSh.out, HWi.out.below (HB9.out.mono hB), ?_, ?_⟩
                      · exact ((HPa.out.set hB (by omega)).below (Nat.le_trans hB (HB7.out _).size) HD9.out).low (by omega)
                      · exact ((HPb2.out.set hB (by omega)).below (Nat.le_trans hB (HB7.out _).size) HD9.out).low (by omega))
                    go_wp2
                    go_ret2
                    exact ⟨.inl ⟨_, _, _, HLp.out, rfl, HF.out⟩, HB9.out⟩
                · have HLa := Lib.hid hl
                  clear hl
                  have c7 : w2.cell? ⟨w.heap.size, 7, none⟩ = some (.pointer none) := cell_of_row w2 _ 7 _ _ (0, 0) HPr.out
                  have z7 : w2.frozen? ⟨w.heap.size, 7, none⟩ = false := frozen_of_row w2 _ 7 _ _ HPr.out
                  have HLp : Hid (LastP (datN ns) none) := Lib.hid (by rw [HE.out]; exact lastP_bin_no1 HBin.out HLb.out (HTk.out ▸ HLa.out))
                  have HB7 : Hid (∀ u, Below w.heap.size w (w2.setCell ⟨w.heap.size, 7, none⟩ u)) := Lib.hid fun u => HBr.out.setCell (Nat.le_refl _) u
                  go_wp2
                  go_ret2
                  exact ⟨.inr ⟨HLp.out, rfl⟩, HB7.out _⟩
              · have HLa := Lib.hid hl
                clear hl
                have c8 : w1.cell? ⟨w.heap.size, 8, none⟩ = some (.pointer none) := cell_of_row w1 _ 8 _ _ (0, 0) HPr.out
                have z8 : w1.frozen? ⟨w.heap.size, 8, none⟩ = false := frozen_of_row w1 _ 8 _ _ HPr.out
                have HP8 := Lib.hid (heap_set8 HPr.out (.pointer none))
                have HB8 : Hid (∀ u, Below w.heap.size w (w1.setCell ⟨w.heap.size, 8, none⟩ u)) := Lib.hid fun u => HBr.out.setCell (Nat.le_refl _) u
                clear HPr HBr
                go_wp2_with fail
                refine (iLast0 B 0 none 0 0 none _).mono ?_
                rintro e w2 ⟨rfl, hw2⟩
                have HPr : Hid (w2.heap[w.heap.size]? = some (.cells #[.int .i64 2, .int .i64 t.kind, .int .i64 t.field, .int .i64 t.value, .slice t.LA t.Ln t.Lc, .slice t.PA t.Pn t.Pc, .nilIface, .pointer none, .pointer none] 121 (0, 0))) := Lib.hid (by rw [hw2]; exact HP8.out)
                have HBr : Hid (Below w.heap.size w w2) := Lib.hid (by rw [hw2]; exact HB8.out _)
                clear hw2 HP8 HB8
                clear c8 z8
                have c7 : w2.cell? ⟨w.heap.size, 7, none⟩ = some (.pointer none) := cell_of_row w2 _ 7 _ _ (0, 0) HPr.out
                have z7 : w2.frozen? ⟨w.heap.size, 7, none⟩ = false := frozen_of_row w2 _ 7 _ _ HPr.out
                have HLp : Hid (LastP (datN ns) none) := Lib.hid (by rw [HE.out]; exact lastP_bin_no2 HBin.out HLa.out)
                have HB7 : Hid (∀ u, Below w.heap.size w (w2.setCell ⟨w.heap.size, 7, none⟩ u)) := Lib.hid fun u => HBr.out.setCell (Nat.le_refl _) u
                go_wp2
                go_ret2
                exact ⟨.inr ⟨HLp.out, rfl⟩, HB7.out _⟩
            · have hzw : zeroW.val = .agg #[.int .i64 0, .int .i64 0, .int .i64 0, .slice none 0 0, .slice none 0 0] := rfl
              obtain ⟨q, hq⟩ := bool_of (NoW t.dat)
              have HC : Hid (∀ w1, Below w.heap.size w w1 → Calls Try.prog 108 #[.agg #[.int .i64 t.kind, .int .i64 t.field, .int .i64 t.value, .slice t.LA t.Ln t.Lc, .slice t.PA t.Pn t.Pc], .agg #[.int .i64 0, .int .i64 0, .int .i64 0, .slice none 0 0, .slice none 0 0]] w1 fun e w' => e = .returned (.bool q) ∧ Below w1.heap.size w1 w') := Lib.hid fun w1 h => by
                rw [← hvw, ← hzw]
                exact iSameWish w1 B t zeroW (HWi.out.below (h.mono hB)) (zeroW_in _ _) (Nat.le_trans hB h.size) HSh.out q (by rw [hq, now_zero])
              have HQ := Lib.hid hq
              clear hq hvw hzw
              go_enter Try.func88, Try.ntmps88
              go_wp2
              go_region
              go_wp2_with fail
              refine (HIH.out m _ (ns.take m) (Nat.le_refl _) (HM.out.below ((HW1.out _).mono hB)) (Nat.le_trans hB (HW1.out _).size) HN.out).mono ?_
              rintro e w1 ⟨hout, hb1⟩
              have HPr : Hid (w1.heap[w.heap.size]? = some (.cells #[.int .i64 4, .int .i64 t.kind, .int .i64 t.field, .int .i64 t.value, .slice t.LA t.Ln t.Lc, .slice t.PA t.Pn t.Pc, .nilIface, .pointer none, .pointer none] 121 (0, 0))) := Lib.hid ((hb1.block _ (by simp)).trans (heap_alloc_new w _))
              have HBr := Lib.hid (below_on (HW1.out _) hb1)
              clear hb1
              rcases hout with ⟨tb, k2, r, hl, rfl, hpb⟩ | ⟨hl, rfl⟩
              · have HLb := Lib.hid hl
                have HPb := Lib.hid hpb
                have hk2 : k2 ≤ m := by have := hl.lt; rw [HL.out] at this; omega
                clear hl hpb
                have c8 : w1.cell? ⟨w.heap.size, 8, none⟩ = some (.pointer none) := cell_of_row w1 _ 8 _ _ (0, 0) HPr.out
                have z8 : w1.frozen? ⟨w.heap.size, 8, none⟩ = false := frozen_of_row w1 _ 8 _ _ HPr.out
                have HP8 := Lib.hid (heap_set8 HPr.out (.pointer (some ⟨r, 0, none⟩)))
                have HB8 : Hid (∀ u, Below w.heap.size w (w1.setCell ⟨w.heap.size, 8, none⟩ u)) := Lib.hid fun u => HBr.out.setCell (Nat.le_refl _) u
                have HPb8 : Hid (∀ u, PartAt (w1.setCell ⟨w.heap.size, 8, none⟩ u) B (w.heap.size + 1) tb r) := Lib.hid fun u => by have := HPb.out.set (g := w.heap.size) (j := 8) (v := u) hB (by simp); simpa using this
                clear HPr HBr HPb
                go_wp2_with fail
                refine (HIH.out k2 _ ((ns.take m).take k2) hk2 ((HM.out.take hk2).below ((HB8.out _).mono hB)) (Nat.le_trans hB (HB8.out _).size) (fun x hx => HN.out x (List.mem_of_mem_take hx))).mono ?_
                rintro e w2 ⟨hout, hb2⟩
                have HPr : Hid (w2.heap[w.heap.size]? = some (.cells #[.int .i64 4, .int .i64 t.kind, .int .i64 t.field, .int .i64 t.value, .slice t.LA t.Ln t.Lc, .slice t.PA t.Pn t.Pc, .nilIface, .pointer none, .pointer (some ⟨r, 0, none⟩)] 121 (0, 0))) := Lib.hid ((hb2.block _ (lt_of_block HP8.out)).trans HP8.out)
                have HBr := Lib.hid (below_on (HB8.out _) hb2)
                have HPb2 : Hid (PartAt w2 B (w.heap.size + 1) tb r) := Lib.hid ((HPb8.out _).below (Nat.le_trans hB (HB8.out _).size) hb2)
                have hlo : w.heap.size + 1 ≤ (w1.setCell ⟨w.heap.size, 8, none⟩ (.pointer (some ⟨r, 0, none⟩))).heap.size := lt_of_block HP8.out
                have HLo := Lib.hid hlo
                have HTk : Hid (datN ((ns.take m).take k2) = (datN (ns.take m)).take k2) := Lib.hid (by unfold datN; rw [List.map_take])
                clear hb2 hlo HP8 HB8 HPb8
                clear c8 z8
                rcases hout with ⟨ta, k, s, hl, rfl, hpa⟩ | ⟨hl, rfl⟩
                · have HLa := Lib.hid hl
                  have HPa := Lib.hid (hpa.low HLo.out)
                  clear hl hpa
                  have c0 : w2.cell? ⟨w.heap.size, 0, none⟩ = some (.int .i64 4) := cell_of_row w2 _ 0 _ _ (0, 0) HPr.out
                  have c1 : w2.cell? ⟨w.heap.size, 1, none⟩ = some (.int .i64 t.kind) := cell_of_row w2 _ 1 _ _ (0, 0) HPr.out
                  have c2 : w2.cell? ⟨w.heap.size, 2, none⟩ = some (.int .i64 t.field) := cell_of_row w2 _ 2 _ _ (0, 0) HPr.out
                  have c3 : w2.cell? ⟨w.heap.size, 3, none⟩ = some (.int .i64 t.value) := cell_of_row w2 _ 3 _ _ (0, 0) HPr.out
                  have c4 : w2.cell? ⟨w.heap.size, 4, none⟩ = some (.slice t.LA t.Ln t.Lc) := cell_of_row w2 _ 4 _ _ (0, 0) HPr.out
                  have c5 : w2.cell? ⟨w.heap.size, 5, none⟩ = some (.slice t.PA t.Pn t.Pc) := cell_of_row w2 _ 5 _ _ (0, 0) HPr.out
                  have c7 : w2.cell? ⟨w.heap.size, 7, none⟩ = some (.pointer none) := cell_of_row w2 _ 7 _ _ (0, 0) HPr.out
                  have z7 : w2.frozen? ⟨w.heap.size, 7, none⟩ = false := frozen_of_row w2 _ 7 _ _ HPr.out
                  have HB7 : Hid (∀ u, Below w.heap.size w (w2.setCell ⟨w.heap.size, 7, none⟩ u)) := Lib.hid fun u => HBr.out.setCell (Nat.le_refl _) u
                  go_wp2_with fail
                  refine (HC.out _ (HB7.out _)).mono ?_
                  rintro e w9 ⟨rfl, hb9⟩
                  have HB9 := Lib.hid (below_on (HB7.out _) hb9)
                  have HD9 := Lib.hid hb9
                  clear c0 c1 c2 c3 c4 c5 c7 z7
                  clear hb9 HC
                  cases q
                  · have HLp : Hid (LastP (datN ns) none) := Lib.hid (by rw [HE.out]; exact lastP_now_no (by show (4 : Int) ≠ 0; decide) fun h => by have := HQ.out.2 h; cases this)
                    go_wp2
                    go_ret2
                    exact ⟨.inr ⟨HLp.out, rfl⟩, HB9.out⟩
                  · have HW := Lib.hid (HQ.out.1 rfl)
                    have HLp : Hid (LastP (datN ns) (some (.bin 4 ta tb, k))) := Lib.hid (by rw [HE.out]; exact lastP_bin HBin.out HW.out HLb.out (HTk.out ▸ HLa.out))
                    have HF : Hid (PartAt w9 B w.heap.size (.bin 4 ta tb) w.heap.size) := Lib.hid (by
                      have hp := heap_set7 HPr.out (.pointer (some ⟨s, 0, none⟩))
                      have hlt := lt_of_block hp
                      refine ⟨Nat.le_refl _, Nat.lt_of_lt_of_le hlt HD9.out.size, HBin.out, t, s, r, (HD9.out.block _ hlt).trans hp, HW.out, HSh.out, HWi.out.below (HB9.out.mono hB), ?_, ?_⟩
                      · exact ((HPa.out.set hB (by omega)).below (Nat.le_trans hB (HB7.out _).size) HD9.out).low (by omega)
                      · exact ((HPb2.out.set hB (by omega)).below (Nat.le_trans hB (HB7.out _).size) HD9.out).low (by omega))
                    go_wp2
                    go_ret2
                    exact ⟨.inl ⟨_, _, _, HLp.out, rfl, HF.out⟩, HB9.out⟩
                · have HLa := Lib.hid hl
                  clear hl
                  have c7 : w2.cell? ⟨w.heap.size, 7, none⟩ = some (.pointer none) := cell_of_row w2 _ 7 _ _ (0, 0) HPr.out
                  have z7 : w2.frozen? ⟨w.heap.size, 7, none⟩ = false := frozen_of_row w2 _ 7 _ _ HPr.out
                  have HLp : Hid (LastP (datN ns) none) := Lib.hid (by rw [HE.out]; exact lastP_bin_no1 HBin.out HLb.out (HTk.out ▸ HLa.out))
                  have HB7 : Hid (∀ u, Below w.heap.size w (w2.setCell ⟨w.heap.size, 7, none⟩ u)) := Lib.hid fun u => HBr.out.setCell (Nat.le_refl _) u
                  go_wp2
                  go_ret2
                  exact ⟨.inr ⟨HLp.out, rfl⟩, HB7.out _⟩
              · have HLa := Lib.hid hl
                clear hl
                have c8 : w1.cell? ⟨w.heap.size, 8, none⟩ = some (.pointer none) := cell_of_row w1 _ 8 _ _ (0, 0) HPr.out
                have z8 : w1.frozen? ⟨w.heap.size, 8, none⟩ = false := frozen_of_row w1 _ 8 _ _ HPr.out
                have HP8 := Lib.hid (heap_set8 HPr.out (.pointer none))
                have HB8 : Hid (∀ u, Below w.heap.size w (w1.setCell ⟨w.heap.size, 8, none⟩ u)) := Lib.hid fun u => HBr.out.setCell (Nat.le_refl _) u
                clear HPr HBr
                go_wp2_with fail
                refine (iLast0 B 0 none 0 0 none _).mono ?_
                rintro e w2 ⟨rfl, hw2⟩
                have HPr : Hid (w2.heap[w.heap.size]? = some (.cells #[.int .i64 4, .int .i64 t.kind, .int .i64 t.field, .int .i64 t.value, .slice t.LA t.Ln t.Lc, .slice t.PA t.Pn t.Pc, .nilIface, .pointer none, .pointer none] 121 (0, 0))) := Lib.hid (by rw [hw2]; exact HP8.out)
                have HBr : Hid (Below w.heap.size w w2) := Lib.hid (by rw [hw2]; exact HB8.out _)
                clear hw2 HP8 HB8
                clear c8 z8
                have c7 : w2.cell? ⟨w.heap.size, 7, none⟩ = some (.pointer none) := cell_of_row w2 _ 7 _ _ (0, 0) HPr.out
                have z7 : w2.frozen? ⟨w.heap.size, 7, none⟩ = false := frozen_of_row w2 _ 7 _ _ HPr.out
                have HLp : Hid (LastP (datN ns) none) := Lib.hid (by rw [HE.out]; exact lastP_bin_no2 HBin.out HLa.out)
                have HB7 : Hid (∀ u, Below w.heap.size w (w2.setCell ⟨w.heap.size, 7, none⟩ u)) := Lib.hid fun u => HBr.out.setCell (Nat.le_refl _) u
                go_wp2
                go_ret2
                exact ⟨.inr ⟨HLp.out, rfl⟩, HB7.out _⟩
          · have hnb : ¬ Bin op := eb
            have f0 : (op == 0) = false := by simpa using e0
            have f3 : (op == 3) = false := by simpa using e3
            have f1 : (op == 1) = false := by
              have : op ≠ 1 := fun h => eb (.inl h)
              simpa using this
            have f2 : (op == 2) = false := by
              have : op ≠ 2 := fun h => eb (.inr (.inl h))
              simpa using this
            have f4 : (op == 4) = false := by
              have : op ≠ 4 := fun h => eb (.inr (.inr h))
              simpa using this
            have HLp : Hid (LastP (datN ns) none) := Lib.hid (by rw [HE.out]; exact lastP_odd e0 e3 hnb)
            clear hnb e0 e3 eb hvw
            go_enter Try.func88, Try.ntmps88
            go_wp2
            go_region
            go_wp2
            go_ret2
            exact ⟨.inr ⟨HLp.out, rfl⟩, HW1.out _⟩
end Go.Proofs.Ytadjoiahllekdaa.num
namespace Go.Proofs.Ytadjoiahllekdaa.num
set_option maxRecDepth 20000
open Go.RowKit Go.Maps
set_option linter.unusedVariables false
set_option linter.unusedSimpArgs false

def TreeOut (B lo : Nat) (nds : List ND) (e : Ending) (w' : World) : Prop :=
  (IsE nds ∧ ∃ t p, Post nds t ∧ e = .returned (.pointer (some ⟨p, 0, none⟩)) ∧ PartAt w' B lo t p) ∨ (¬ IsE nds ∧ e = .returned (.pointer none))
set_option maxRecDepth 20000 in
theorem iTreeOfW (w : World) (B : Nat) (A : Option Addr) (n c : Nat) (ns : List Nd) (hi : Nodes w B A n ns) (hB : B ≤ w.heap.size) (hnc : n ≤ c) (hc : c ≤ 9223372036854775807) (hN : ShortN ns) :
    Calls Try.prog 68 #[.slice A n c] w fun e w' => TreeOut B w.heap.size (datN ns) e w' ∧ Below w.heap.size w w' := by
  have HL : Hid ((datN ns).length = n) := Lib.hid (by unfold datN; rw [List.length_map, hi.len])
  have HC := Lib.hid (iLast B A c hc n w ns hi hB hnc hN)
  clear hi hN
  by_cases h9 : n ≤ 9
  · go_enter Try.func68, Try.ntmps68
    go_wp2_with fail
    refine HC.out.mono ?_
    rintro e w1 ⟨hout, hb1⟩
    have HB := Lib.hid hb1
    clear hb1 HC
    rcases hout with ⟨t, k, p, hl, rfl, hpa⟩ | ⟨hl, rfl⟩
    · have HLp := Lib.hid hl
      have HP := Lib.hid hpa
      have hkn : k ≤ 9223372036854775807 := by have := hl.lt; rw [HL.out] at this; omega
      clear hl hpa
      by_cases hk : k = 0
      · subst hk
        go_wp2
        go_ret
        refine ⟨.inl ⟨(isE_last HLp.out).2 ⟨by rw [HL.out]; exact h9, rfl⟩, t, p, ?_, rfl, HP.out⟩, HB.out⟩
        have := HLp.out
        simpa [LastP] using this
      · have hk' : 0 < k := by omega
        have hd : decide ((k : Int) > 0) = true := by simp; omega
        go_wp2
        go_ret
        exact ⟨.inr ⟨fun h => by have := ((isE_last HLp.out).1 h).2; omega, rfl⟩, HB.out⟩
    · have HLp := Lib.hid hl
      clear hl
      go_wp2
      go_ret
      exact ⟨.inr ⟨isE_none HLp.out, rfl⟩, HB.out⟩
  · have hd : decide ((n : Int) > 9) = true := by simp; omega
    have hgt : (9 : Int) < (n : Int) := by omega
    go_enter Try.func68, Try.ntmps68
    go_wp2
    go_ret
    exact ⟨.inr ⟨fun h => by have := h.1; rw [HL.out] at this; omega, rfl⟩, Below.refl _ _⟩
theorem iTreeOf (w : World) (B : Nat) (A : Option Addr) (n c : Nat) (ns : List Nd) (hi : Nodes w B A n ns) (hB : B ≤ w.heap.size) (hnc : n ≤ c) (hc : c ≤ 1048576) (hN : ShortN ns) :
    Calls Try.prog 68 #[.slice A n c] w fun e w' => TreeOut B w.heap.size (datN ns) e w' ∧ Below w.heap.size w w' := iTreeOfW w B A n c ns hi hB hnc (Nat.le_trans hc (by decide)) hN
theorem iRev (w : World) (x : Int) : Calls Try.prog 96 #[.int .i64 x] w fun e w' => e = .returned (.int .i64 (revC x)) ∧ w' = w := by
  unfold revC
  by_cases h1 : x = 1
  · subst h1
    go_enter Try.func96, Try.ntmps96
    go_wp2
    go_ret
    exact ⟨rfl, rfl⟩
  · rw [if_neg h1]
    by_cases h2 : x = -1
    · subst h2
      go_enter Try.func96, Try.ntmps96
      go_wp2
      go_ret
      exact ⟨rfl, rfl⟩
    · rw [if_neg h2]
      have f1 : (x == 1) = false := by simpa using h1
      have f2 : (x == -1) = false := by simpa using h2
      go_enter Try.func96, Try.ntmps96
      go_wp2
      go_ret
      exact ⟨rfl, rfl⟩
/-- Two codes that cannot both hold for a whole. -/
def apartC (a b : Int) : Bool := a == 2 || b == 2 || (a != 0 && a == revC b)
theorem iDis (w : World) (a b : Int) (ha : Code a) (hb : Code b) : Calls Try.prog 97 #[.int .i64 a, .int .i64 b] w fun e w' => e = .returned (.bool (apartC a b)) ∧ w' = w := by
  have HC : Hid (∀ w1, Calls Try.prog 96 #[.int .i64 b] w1 fun e w' => e = .returned (.int .i64 (revC b)) ∧ w' = w1) := Lib.hid fun w1 => iRev w1 b
  rcases ha with rfl | rfl | rfl | rfl <;> rcases hb with rfl | rfl | rfl | rfl <;>
    (go_enter Try.func97, Try.ntmps97
     first
     | (go_wp2
        go_ret
        exact ⟨by decide, rfl⟩)
     | (go_wp2
        go_ret
        exact ⟨rfl, rfl⟩)
     | (go_wp2_with fail
        refine (HC.out _).mono ?_
        rintro e w1 ⟨rfl, rfl⟩
        go_wp2
        go_ret
        exact ⟨rfl, rfl⟩))
theorem opC_pareto {a b : Int} (ha : Code a) (hb : Code b) : opC 1 a b = if apartC a b = true then 2 else if a ≠ 0 then a else b := by
  rcases ha with rfl | rfl | rfl | rfl <;> rcases hb with rfl | rfl | rfl | rfl <;> decide
end Go.Proofs.Ytadjoiahllekdaa.num
namespace Go.Proofs.Ytadjoiahllekdaa.num
set_option maxRecDepth 20000
set_option linter.unusedVariables false

/-- Two expressions and an operator behind them. -/
theorem joinE {a b : List ND} {nd : ND} (ha : IsE a) (hb : IsE b) (hw : NoW nd.w) : IsE (a ++ b ++ [nd]) ↔ Bin nd.op ∧ a.length + b.length < 9 := by
  obtain ⟨la, ta, pa⟩ := ha
  obtain ⟨lb, tb, pb⟩ := hb
  have hs : Stk (a ++ b) [tb, ta] := pb.stk (post_stk.1 pa)
  constructor
  · rintro ⟨h1, t, ht⟩
    have h2 := post_stk.1 ht
    refine ⟨?_, by simp at h1; omega⟩
    rcases h2.inv with ⟨_, _, s, k, e⟩ | ⟨_, _, x, s, k, e⟩ | ⟨h, _⟩
    · have := hs.one k
      subst this
      simp at e
    · have := hs.one k
      simp only [List.cons.injEq] at this
      obtain ⟨_, rfl⟩ := this
      simp at e
    · exact h
  · rintro ⟨h1, h2⟩
    exact ⟨by simp; omega, _, .bin h1 hw pa pb⟩
theorem joinE' {a b : List ND} {nd : ND} (ha : IsE a) (hb : IsE b) (hw : NoW nd.w) {q : Bool} (hq : q = true ↔ Bin nd.op ∧ a.length + b.length < 9) : q = true ↔ IsE (a ++ b ++ [nd]) := hq.trans (joinE ha hb hw).symm

/-- The wishes of a list of nodes, in their order. -/
def wishL (nds : List ND) : List WD := nds.filterMap fun nd => if nd.op = 0 then some nd.w else none
theorem wishL_snoc_base {nds : List ND} {nd : ND} (h : nd.op = 0) : wishL (nds ++ [nd]) = wishL nds ++ [nd.w] := by
  unfold wishL; rw [List.filterMap_append]; simp [h]
theorem wishL_snoc_op {nds : List ND} {nd : ND} (h : nd.op ≠ 0) : wishL (nds ++ [nd]) = wishL nds := by
  unfold wishL; rw [List.filterMap_append]; simp [h]
theorem wishL_len (nds : List ND) : (wishL nds).length ≤ nds.length := List.length_filterMap_le _ _
/-- What WishesOf answers. -/
def wishesE (q : Bool) (nds : List ND) : List WD := if q then wishL nds else []
end Go.Proofs.Ytadjoiahllekdaa.num
namespace Go.Proofs.Ytadjoiahllekdaa.num
set_option maxRecDepth 20000
open Go.RowKit
set_option linter.unusedVariables false
set_option linter.unusedSimpArgs false

/-- append of one element, its run told. -/
theorem run_oneG {α : Type} {f : α → List Value} {s : Nat} (hf : ∀ x, (f x).length = s) (h1 : ∀ x, ∀ u ∈ f x, u.oneCell' = true) {T tS ty : TypeId} {z : Value} {bytes : Nat} (ht : Try.prog.underlying tS = some (.slice T)) (hinf : (Try.prog.info? T).map (fun i => (i.zero, i.size, i.bytes)) = some (some z, s, bytes)) (hzs : z.cells.size = s) (hs0 : 0 < s) (hbt : 0 < bytes)
    {w : World} {B N c : Nat} {v : Value} {l : List α} (y : α) {cs : Array Value} (hcs : cs = (f y).toArray) (h : OwnG T f s w B v l) (hN : w.heap.size = N) (hlen : (l.length + 1) * bytes ≤ 140737488355328) (hB : B ≤ w.heap.size) :
    ∃ v' w', (Builtin.append_ #[tS, tS] ty #[v, .slice (some ⟨N, 0, none⟩) 1 c]).run Try.prog (w.alloc (.cells cs T)) = .ok v' w' ∧ OwnG T f s w' B v' (l ++ [y]) ∧ w.grownBy w' v.ownBlock ∧ (v'.ownBlock = v.ownBlock ∨ v'.ownBlock = some (N + 1)) := by
  subst hcs hN
  obtain ⟨v', w', hr, ho, hg, hat⟩ := run_app_some (P := Try.prog) (ty := ty) ht hinf hzs hs0 hbt (World.ownsRow.alloc h (.cells (f y).toArray T)) ⟨w.heap.size, 0, none⟩ (m := 1) (c := c) (news := f y) (by rw [hf, Nat.one_mul]) (fun j u hj => by
    rw [addr_add, Nat.zero_add, World.cell?_alloc_at _ _ _ _ rfl]
    simpa using hj) (h1 y) hlen (by simp; omega)
  refine ⟨v', w', hr, ?_, ⟨hg.os, hg.tape, hg.output, Nat.le_trans (by simp) hg.size, fun k hk hv => (hg.block k (by simp; omega) hv).trans (Below.heap_alloc _ _ _ hk)⟩, by simpa using hat⟩
  unfold OwnG
  rw [List.length_append, List.length_singleton, List.flatMap_append, List.flatMap_singleton]
  exact ho

/-- Nodes whose lists are the call's own, apart from one another. -/
structure NodesO (w : World) (lo : Nat) (ns : List Nd) : Prop where
  x : ∀ (k : Nat) (x : Nd), ns[k]? = some x → (Lit.int .i64 x.op).wf = true ∧ WiO w lo x.t
  d : ∀ (i j : Nat) (x y : Nd) (b : Nat), i < j → ns[i]? = some x → ns[j]? = some y → x.t.has b → ¬ y.t.has b
theorem OwnN.no {w : World} {lo : Nat} {v : Value} {ns : List Nd} (h : OwnN w lo v ns) : NodesO w lo ns := ⟨h.x, h.d⟩
theorem NodesO.has_in {w : World} {lo : Nat} {ns : List Nd} (h : NodesO w lo ns) {x : Nd} (hx : x ∈ ns) {b : Nat} (hb : x.t.has b) : lo ≤ b ∧ b < w.heap.size := by
  obtain ⟨k, hk, rfl⟩ := List.getElem_of_mem hx
  exact (h.x k _ (List.getElem?_eq_getElem hk)).2.has_in hb
theorem NodesO.blocks {w w' : World} {lo : Nat} {ns : List Nd} (h : NodesO w lo ns) (hb : ∀ x ∈ ns, ∀ b, x.t.has b → w'.heap[b]? = w.heap[b]?) : NodesO w' lo ns :=
  ⟨fun k x hk => ⟨(h.x k x hk).1, (h.x k x hk).2.blocks fun b h' => hb x (List.mem_of_getElem? hk) b h'⟩, h.d⟩
theorem NodesO.low {w : World} {lo lo' : Nat} {ns : List Nd} (h : NodesO w lo ns) (hl : lo' ≤ lo) : NodesO w lo' ns := ⟨fun k x hk => ⟨(h.x k x hk).1, (h.x k x hk).2.low hl⟩, h.d⟩
theorem get_app {α : Type} {l m : List α} {i : Nat} {x : α} (h : (l ++ m)[i]? = some x) : (i < l.length ∧ l[i]? = some x) ∨ (l.length ≤ i ∧ m[i - l.length]? = some x) := by
  rcases Nat.lt_or_ge i l.length with g | g
  · exact .inl ⟨g, by rwa [List.getElem?_append_left g] at h⟩
  · exact .inr ⟨g, by rwa [List.getElem?_append_right g] at h⟩
theorem NodesO.cat {w : World} {lo hi : Nat} {ns1 ns2 : List Nd} (h1 : NodesO w lo ns1) (h2 : NodesO w hi ns2) (hle : lo ≤ hi) (htop : ∀ x ∈ ns1, ∀ b, x.t.has b → b < hi) : NodesO w lo (ns1 ++ ns2) := by
  refine ⟨fun k x hk => ?_, fun i j x y b hij hx hy hb hb' => ?_⟩
  · rcases get_app hk with ⟨_, h⟩ | ⟨_, h⟩
    · exact h1.x k x h
    · exact ⟨(h2.x _ x h).1, (h2.x _ x h).2.low hle⟩
  · rcases get_app hx with ⟨_, hx⟩ | ⟨_, hx⟩ <;> rcases get_app hy with ⟨_, hy⟩ | ⟨_, hy⟩
    · exact h1.d i j x y b hij hx hy hb hb'
    · have q1 := htop x (List.mem_of_getElem? hx) b hb
      have q2 := ((h2.x _ y hy).2.has_in hb').1
      omega
    · omega
    · exact h2.d _ _ x y b (by omega) hx hy hb hb'
/-- An operator's node. -/
def bareN (op : Int) : Nd := ⟨op, 0, 0, 0, none, 0, 0, [], none, 0, 0, []⟩
theorem bare_has (op : Int) (b : Nat) : ¬ (bareN op).t.has b := fun h => by
  rcases h with h | h <;> cases h
theorem NodesO.bare (w : World) (lo : Nat) {op : Int} (ho : (Lit.int .i64 op).wf = true) : NodesO w lo [bareN op] := by
  refine ⟨fun k x hk => ?_, fun i j x y b hij hx hy => ?_⟩
  · rcases k with _ | k
    · simp at hk
      subst hk
      exact ⟨ho, ⟨by show (Lit.int .i64 0).wf = true; decide, by show (Lit.int .i64 0).wf = true; decide, by show (Lit.int .i64 0).wf = true; decide, ownI_nil _ _, OwnP.nil _ _, fun b h => by cases h⟩⟩
    · simp at hk
  · rcases j with _ | j
    · omega
    · simp at hy
theorem OwnN.of {w : World} {lo : Nat} {v : Value} {ns : List Nd} (hr : OwnG 71 nodeCells 6 w lo v ns) (hn : NodesO w lo ns) (ha : ∀ x ∈ ns, ∀ b, x.t.has b → v.ownBlock ≠ some b) : OwnN w lo v ns :=
  ⟨hr, hn.x, fun k x b hk hb => ha x (List.mem_of_getElem? hk) b hb, hn.d⟩
def zeroWD : WD := ⟨0, 0, 0, [], []⟩
theorem noW_zero : NoW zeroWD := ⟨rfl, rfl, rfl, rfl, rfl⟩
/-- What JoinExpressions answers. -/
def joinD (r : Bool) (a b : List ND) (op : Int) : List ND := if r then a ++ b ++ [⟨op, zeroWD⟩] else []
theorem datN_app (l m : List Nd) : datN (l ++ m) = datN l ++ datN m := by unfold datN; rw [List.map_append]
theorem datN_bare (op : Int) : datN [bareN op] = [⟨op, zeroWD⟩] := rfl
theorem short_app {l m : List Nd} (h1 : ShortN l) (h2 : ShortN m) : ShortN (l ++ m) := fun x hx => by
  rcases List.mem_append.1 hx with h | h
  · exact h1 x h
  · exact h2 x h
theorem short_bare (op : Int) : ShortN [bareN op] := fun x hx => by
  rw [List.mem_singleton.1 hx]; exact ⟨Nat.zero_le _, Nat.zero_le _⟩
theorem datN_len {ns ns' : List Nd} (h : datN ns' = datN ns) : ns'.length = ns.length := by
  have := congrArg List.length h
  unfold datN at this
  rwa [List.length_map, List.length_map] at this
end Go.Proofs.Ytadjoiahllekdaa.num
namespace Go.Proofs.Ytadjoiahllekdaa.num
set_option maxRecDepth 20000
open Go.RowKit
set_option linter.unusedVariables false
set_option linter.unusedSimpArgs false

theorem WiOwn.keep {w w' : World} {B : Nat} {t : Wi} (h : WiOwn w B t) (hb : ∀ b, t.has b → w'.heap[b]? = w.heap[b]?) : WiOwn w' B t :=
  ⟨ownI_blocks h.l fun k hk => hb k (.inl hk), h.p.blocks fun k hk => hb k (.inr hk), h.k, h.f, h.v, h.nl, h.np⟩
theorem WiOwn.has_in {w : World} {B : Nat} {t : Wi} (h : WiOwn w B t) {b : Nat} (hb : t.has b) : B ≤ b ∧ b < w.heap.size := by
  rcases hb with hb | hb
  · exact ⟨ownI_lows h.l b hb, ownI_tops h.l b hb⟩
  · exact ⟨h.p.lows b hb, h.p.tops b hb⟩
/-- A slice of nodes that a draw filled: a row of its own, the nodes' lists in other blocks. -/
structure DrN (w : World) (B : Nat) (v : Value) (ns : List Nd) : Prop where
  r : OwnG 71 nodeCells 6 w B v ns
  x : ∀ x ∈ ns, (Lit.int .i64 x.op).wf = true ∧ WiOwn w B x.t
  a : ∀ x ∈ ns, ∀ b, x.t.has b → v.ownBlock ≠ some b
theorem DrN.blocks {w w' : World} {B : Nat} {v : Value} {ns : List Nd} (h : DrN w B v ns) (hb : ∀ b, B ≤ b → b < w.heap.size → w'.heap[b]? = w.heap[b]?) : DrN w' B v ns :=
  ⟨h.r.blocks fun k hk => hb k (h.r.lows k hk) (h.r.tops k hk), fun x hx => ⟨(h.x x hx).1, (h.x x hx).2.blocks hb⟩, h.a⟩
theorem DrN.low {w : World} {B B' : Nat} {v : Value} {ns : List Nd} (h : DrN w B v ns) (hB : B' ≤ B) : DrN w B' v ns := ⟨h.r.low hB, fun x hx => ⟨(h.x x hx).1, (h.x x hx).2.low hB⟩, h.a⟩
theorem DrN.nodes {w : World} {B : Nat} {A : Option Addr} {n c : Nat} {ns : List Nd} (h : DrN w B (.slice A n c) ns) : Nodes w w.heap.size A n ns := ⟨h.r.read nodeCells_len, fun x hx => ⟨(h.x x hx).1, (h.x x hx).2.wi⟩⟩
theorem DrN.short {w : World} {B : Nat} {v : Value} {ns : List Nd} (h : DrN w B v ns) : ShortN ns := fun x hx => (h.x x hx).2.short
/-- More nodes behind those of v, in its own row or in a new one. -/
theorem DrN.more {w w' : World} {B N : Nat} {v v' : Value} {ns m : List Nd} (h : DrN w B v ns) (hg : w.grownBy w' v.ownBlock) (hat : v'.ownBlock = v.ownBlock ∨ v'.ownBlock = some N) (hN : w.heap.size ≤ N) (hr : OwnG 71 nodeCells 6 w' B v' (ns ++ m)) (hx : ∀ x ∈ m, (Lit.int .i64 x.op).wf = true ∧ WiOwn w B x.t) (ha : ∀ x ∈ m, ∀ b, x.t.has b → v.ownBlock ≠ some b) : DrN w' B v' (ns ++ m) := by
  have hall : ∀ x ∈ ns ++ m, ((Lit.int .i64 x.op).wf = true ∧ WiOwn w B x.t) ∧ ∀ b, x.t.has b → v.ownBlock ≠ some b := fun x hx' => by
    rcases List.mem_append.1 hx' with h1 | h1
    · exact ⟨h.x x h1, h.a x h1⟩
    · exact ⟨hx x h1, ha x h1⟩
  refine ⟨hr, fun x hx' => ⟨(hall x hx').1.1, (hall x hx').1.2.keep fun b hb => hg.block b ((hall x hx').1.2.has_in hb).2 fun e => (hall x hx').2 b hb e.symm⟩, fun x hx' b hb e => ?_⟩
  rcases hat with q | q
  · exact (hall x hx').2 b hb (q ▸ e)
  · rw [q] at e
    have h1 := Option.some.inj e
    have h2 := ((hall x hx').1.2.has_in hb).2
    omega
theorem bare_own (w : World) (B : Nat) {op : Int} (ho : (Lit.int .i64 op).wf = true) : ∀ x ∈ [bareN op], (Lit.int .i64 x.op).wf = true ∧ WiOwn w B x.t := fun x hx => by
  rw [List.mem_singleton.1 hx]
  exact ⟨ho, ⟨ownI_nil _ _, OwnP.nil _ _, by show I64 0; unfold I64; omega, by show I64 0; unfold I64; omega, by show I64 0; unfold I64; omega, Nat.zero_le _, Nat.zero_le _⟩⟩
def OutD (N : Nat) (w : World) (g : Nat) (a : Option Addr) (len cap : Nat) (e : Ending) (w' : World) : Prop :=
  ∃ v ns, e = .returned v ∧ DrN w' w.heap.size v ns ∧ 1 ≤ ns.length ∧ ns.length ≤ N ∧ Cur w' g a len cap ∧ w.grownBy w' (some g)
/-- One node with a wish just drawn. -/
theorem one_node {w w1 : World} {g : Nat} {a : Option Addr} {len cap : Nat} {t : Wi} {op : Int} (hop : (Lit.int .i64 op).wf = true) (ho : WiOwn w1 w.heap.size t) (hc : Cur w1 g a len cap) (hg : w.grownBy w1 (some g)) (hw : w.heap.size ≤ w1.heap.size) (N : Nat) (hN : 1 ≤ N) :
    OutD N w g a len cap (.returned (.slice (some ⟨w1.heap.size, 0, none⟩) 1 1)) (w1.alloc (.cells #[.int .i64 op, .int .i64 t.kind, .int .i64 t.field, .int .i64 t.value, .slice t.LA t.Ln t.Lc, .slice t.PA t.Pn t.Pc] 71)) := by
  refine ⟨_, [⟨op, t⟩], rfl, ⟨?_, fun x hx => ?_, fun x hx b hb e => ?_⟩, by simp, hN, hc.kept (Below.heap_alloc _ _ _ hc.lt), grown_alloc hg _⟩
  · exact ⟨rfl, .inr ⟨w1.heap.size, 1, _, rfl, hw, heap_alloc_new w1 _, Nat.le_refl _, by unfold maxLen; omega, rfl, rfl⟩⟩
  · rw [List.mem_singleton.1 hx]
    exact ⟨hop, ho.blocks fun b _ hb => Below.heap_alloc _ _ _ hb⟩
  · rw [List.mem_singleton.1 hx] at hb
    have h1 := (ho.has_in hb).2
    have h2 := Option.some.inj e
    simp at h2
    omega

/-- An operator behind what was drawn. -/
theorem drn_app {w w0 w1 w2 : World} {g : Nat} {a : Option Addr} {len cap N : Nat} {v v' : Value} {ns : List Nd} {op : Int} (h : DrN w1 w0.heap.size v ns) (hop : (Lit.int .i64 op).wf = true) (hga : w1.grownBy w2 v.ownBlock) (hat : v'.ownBlock = v.ownBlock ∨ v'.ownBlock = some (w1.heap.size + 1)) (hr : OwnG 71 nodeCells 6 w2 w0.heap.size v' (ns ++ [bareN op]))
    (h1 : 1 ≤ ns.length) (hc : Cur w1 g a len cap) (hg : w.grownBy w1 (some g)) (h0 : w.heap.size ≤ w0.heap.size) (hN : ns.length + 1 ≤ N) (hgl : g < w0.heap.size := by omega) (hw0 : w0.heap.size ≤ w1.heap.size := by omega) : OutD N w g a len cap (.returned v') w2 := by
  have hb : Below w0.heap.size w1 w2 := (Below.refl _ w1).grown hga hw0 (fun k hk => h.r.lows k hk)
  refine ⟨v', ns ++ [bareN op], rfl, (h.more hga hat (by omega) hr (bare_own w1 _ hop) (fun x hx b hb' => by rw [List.mem_singleton.1 hx] at hb'; exact absurd hb' (bare_has op b))).low h0, by rw [List.length_append]; omega, by rw [List.length_append]; exact hN, hc.kept (hb.block g hgl), grown_tail hg (hb.mono h0)⟩
set_option maxRecDepth 20000 in
set_option maxHeartbeats 3200000 in
theorem draw_exp (g : Nat) (a : Option Addr) (len cap : Nat) (hlen : len ≤ 1048576) (B : Nat) (hB : B ≤ g) : ∀ (d N : Nat), N + 1 = 2 ^ (d + 1) → d ≤ 10 → ∀ (w : World), Cur w g a len cap → Row w B a len →
    Calls Try.prog 103 #[.pointer (some ⟨g, 0, none⟩), .int .i64 (d : Int)] w (OutD N w g a len cap) := by
  intro d
  induction d with
  | zero =>
    intro N hN hd w hc hrow
    obtain rfl : N = 1 := by omega
    have HR := Lib.hid hrow
    have HC := Lib.hid hc
    clear hc hrow
    go_enter Try.func103, Try.ntmps103
    go_wp2_with fail
    refine (wish_any _ g a len cap hlen HC.out B hB HR.out).mono ?_
    rintro e w1 ⟨t, rfl, ho, -, hc, hg⟩
    have HF := Lib.hid (one_node (op := 0) (by decide) ho hc hg hg.size 1 (Nat.le_refl _))
    clear ho hc hg
    unfold Wi.val
    go_wp2
    go_ret
    exact HF.out
  | succ d ih =>
    intro N hN hd w hc hrow
    obtain ⟨M, hM⟩ : ∃ M, M + 1 = 2 ^ (d + 1) := ⟨2 ^ (d + 1) - 1, by have := Nat.one_le_two_pow (n := d + 1); omega⟩
    have hNM : N = 2 * M + 1 := by rw [Nat.pow_succ] at hN; omega
    have hM1 : M + 1 ≤ 2048 := by rw [hM]; exact Nat.le_trans (Nat.pow_le_pow_right (by decide) (show d + 1 ≤ 11 by omega)) (by decide)
    have HI := Lib.hid (ih M hM (by omega))
    have hgl := hc.lt
    have HR := Lib.hid hrow
    have HC := Lib.hid hc
    clear hc hrow ih hN hM
    have hd0 : ((d : Int) + 1 == 0) = false := by simp; omega
    have hd1 : ((d : Int) + 1) - 1 = (d : Int) := by omega
    have hdw : IntKind.i64.wrap (d : Int) = (d : Int) := IntWalk.i64_in _ ⟨by omega, by omega⟩
    have hcast : ((d + 1 : Nat) : Int) = (d : Int) + 1 := by omega
    rw [hcast]
    go_enter Try.func103, Try.ntmps103
    go_wp2_with fail
    refine (once_any 3 (by omega) _ g a len cap hlen HC.out B hB HR.out).mono ?_
    rintro e w1 ⟨q, rfl, hc1, hg1⟩
    have HC1 := Lib.hid hc1
    have HG1 := Lib.hid hg1
    have HB1 := Lib.hid (grown_below hg1 hB (by omega))
    clear hc1 hg1
    cases q
    · go_wp2_with fail
      refine (below_any 4 (by omega) _ g a len cap hlen HC1.out B hB (HR.out.below HB1.out)).mono ?_
      rintro e w2 ⟨u, rfl, hu, hc2, hg2⟩
      obtain ⟨hu0, hu1⟩ := hu.2 (by omega)
      have HC2 := Lib.hid hc2
      have HG2 := Lib.hid (grown_trans HG1.out hg2)
      have HB2 := Lib.hid (grown_below HG2.out hB (by omega))
      have hgl2 : g < w2.heap.size := hc2.lt
      have hw1 : IntKind.i64.wrap (1 + u) = 1 + u := IntWalk.i64_in _ ⟨by omega, by omega⟩
      obtain ⟨op, hop⟩ : ∃ op, 1 + u = op := ⟨_, rfl⟩
      have hwf : (Lit.int .i64 op).wf = true := by
        obtain ⟨k, hk⟩ : ∃ k : Nat, op = (k : Int) := ⟨op.toNat, by omega⟩
        rw [hk]; exact wf_small (by omega)
      have HWf := Lib.hid hwf
      clear hu hc2 hg2 hwf
      rw [hop] at hw1
      by_cases h3 : op = 3
      · subst h3
        go_wp2_with fail
        refine (HI.out _ HC2.out (HR.out.below HB2.out)).mono ?_
        rintro e w3 ⟨v, ns, rfl, ho, l1, l2, hc3, hg3⟩
        have HO := Lib.hid ho
        have HC3 := Lib.hid hc3
        have HG3 := Lib.hid (grown_trans HG2.out hg3)
        have hsz : w2.heap.size ≤ w3.heap.size := hg3.size
        obtain ⟨v', w4, hr, hown, hga, hat⟩ := run_oneG nodeCells_len nodeCells_one (ty := 25) (c := 1) Try.underlying25 info_node rfl (by decide) (by decide) (bareN 3) (cs := #[.int .i64 3, .int .i64 0, .int .i64 0, .int .i64 0, .slice none 0 0, .slice none 0 0]) rfl HO.out.r rfl (by omega) hg3.size
        have HF := Lib.hid (drn_app HO.out HWf.out hga hat hown l1 HC3.out HG3.out HG2.out.size (N := N) (by omega))
        clear ho hc3 hg3 hown hga hat
        go_wp2_with (at_builtin; refine Go.Lib.wpList_append_run_sl _ (by rfl) (.tmp 27) (.tmp 30) 25 (by rfl) _ _ (by rfl) (by rfl) hr ?_)
        clear hr
        go_wp2
        go_ret
        exact HF.out
      · have f3 : (op == 3) = false := by simpa using h3
        clear h3
        go_wp2_with fail
        refine (HI.out _ HC2.out (HR.out.below HB2.out)).mono ?_
        rintro e w3 ⟨v, ns, rfl, ho, l1, l2, hc3, hg3⟩
        have HO := Lib.hid ho
        have HC3 := Lib.hid hc3
        have HG3 := Lib.hid (grown_trans HG2.out hg3)
        have HB3 := Lib.hid (grown_below HG3.out hB (by omega))
        have hgl3 : g < w3.heap.size := hc3.lt
        have hsz3 : w2.heap.size ≤ w3.heap.size := hg3.size
        clear ho hc3 hg3
        go_wp2_with fail
        refine (HI.out _ HC3.out (HR.out.below HB3.out)).mono ?_
        rintro e w4 ⟨v2, ns2, rfl, ho2, k1, k2, hc4, hg4⟩
        obtain ⟨A2, c2, rfl, -, -⟩ := ho2.r.shape
        have HO2 := Lib.hid ho2
        have HO1 : Hid (DrN w4 w2.heap.size v ns) := Lib.hid (HO.out.blocks fun b h1 h2 => hg4.block b h2 (fun e => by have := Option.some.inj e; omega))
        have HC4 := Lib.hid hc4
        have HG4 := Lib.hid (grown_trans HG3.out hg4)
        have hsz4 : w3.heap.size ≤ w4.heap.size := hg4.size
        have HV : Hid (∀ b, v.ownBlock = some b → b < w3.heap.size) := Lib.hid fun b hb => HO.out.r.tops b hb
        clear ho2 hc4 hg4
        obtain ⟨v3, w5, hr, hown, hga, hat⟩ := run_spreadG nodeCells_len nodeCells_one (ty := 25) (c := c2) Try.underlying25 info_node rfl (by decide) (by decide) HO1.out.r HO2.out.nodes.r (by omega) (by omega)
        have HO5 : Hid (DrN w5 w2.heap.size v3 (ns ++ ns2)) := Lib.hid (HO1.out.more hga hat (Nat.le_refl _) hown (fun x hx => ⟨(HO2.out.x x hx).1, (HO2.out.x x hx).2.low hsz3⟩) (fun x hx b hb e => by
          have q1 := ((HO2.out.x x hx).2.has_in hb).1
          have q2 := HV.out b e
          omega))
        have hb5 : Below w2.heap.size w4 w5 := (Below.refl _ w4).grown hga (by omega) (fun k hk => HO1.out.r.lows k hk)
        have HC5 : Hid (Cur w5 g a len cap) := Lib.hid (HC4.out.kept (hb5.block g hgl2))
        have HG5 : Hid (w.grownBy w5 (some g)) := Lib.hid (grown_tail HG4.out (hb5.mono HG2.out.size))
        have hsz5 : w2.heap.size ≤ w5.heap.size := by have := hb5.size; omega
        obtain ⟨v6, w6, hr6, hown6, hga6, hat6⟩ := run_oneG nodeCells_len nodeCells_one (ty := 25) (c := 1) Try.underlying25 info_node rfl (by decide) (by decide) (bareN op) (cs := #[.int .i64 op, .int .i64 0, .int .i64 0, .int .i64 0, .slice none 0 0, .slice none 0 0]) rfl HO5.out.r rfl (by rw [List.length_append]; omega) hsz5
        have HF := Lib.hid (drn_app HO5.out HWf.out hga6 hat6 hown6 (by rw [List.length_append]; omega) HC5.out HG5.out HG2.out.size (N := N) (by rw [List.length_append]; omega))
        clear hown hga hat hb5 hown6 hga6 hat6
        go_wp2_with (at_builtin; first | (refine Go.Lib.wpList_append_run_sl _ (by rfl) (.tmp 36) (.tmp 40) 25 (by rfl) _ _ (by rfl) (by rfl) hr ?_) | (refine Go.Lib.wpList_append_run_sl _ (by rfl) (.tmp 42) (.tmp 45) 25 (by rfl) _ _ (by rfl) (by rfl) hr6 ?_))
        clear hr hr6
        go_wp2
        go_ret
        exact HF.out
    · go_wp2_with fail
      refine (wish_any _ g a len cap hlen HC1.out B hB (HR.out.below HB1.out)).mono ?_
      rintro e w2 ⟨t, rfl, ho, -, hc, hg⟩
      have HF := Lib.hid (one_node (w := w) (op := 0) (by decide) (ho.low HG1.out.size) hc (grown_trans HG1.out hg) (grown_trans HG1.out hg).size N (by omega))
      clear ho hc hg
      unfold Wi.val
      go_wp2
      go_ret
      exact HF.out

set_option maxRecDepth 20000 in
theorem draw_expression (w : World) (g : Nat) (a : Option Addr) (len cap : Nat) (hlen : len ≤ 1048576) (hc : Cur w g a len cap) (B : Nat) (hB : B ≤ g) (hrow : Row w B a len) :
    Calls Try.prog 84 #[.pointer (some ⟨g, 0, none⟩)] w (OutD 9 w g a len cap) := by
  have hgl := hc.lt
  have HR := Lib.hid hrow
  have HI : Hid (Calls Try.prog 103 #[.pointer (some ⟨g, 0, none⟩), .int .i64 2] w (OutD 7 w g a len cap)) := Lib.hid (draw_exp g a len cap hlen B hB 2 7 (by decide) (by decide) w hc hrow)
  clear hc hrow
  go_enter Try.func84, Try.ntmps84
  go_wp2_with fail
  refine HI.out.mono ?_
  rintro e w1 ⟨v, ns, rfl, ho, l1, l2, hc1, hg1⟩
  obtain ⟨A1, c1, rfl, -, -⟩ := ho.r.shape
  have HF : Hid (OutD 9 w g a len cap (.returned (.slice A1 ns.length c1)) w1) := Lib.hid ⟨_, ns, rfl, ho, l1, by omega, hc1, hg1⟩
  have hd : decide ((ns.length : Int) > 9) = false := by simp; omega
  have hd' : ¬ ((9 : Int) < (ns.length : Int)) := by omega
  clear ho hc1 hg1 HI
  go_wp2
  go_ret
  exact HF.out
/-- The slice reads as the nodes ns, and does so in each world in which the blocks from lo on are as they are. -/
def KeepN (lo : Nat) (w : World) (A : Option Addr) (n : Nat) (ns : List Nd) : Prop := ∀ w'' : World, w.heap.size ≤ w''.heap.size → (∀ b, lo ≤ b → b < w.heap.size → w''.heap[b]? = w.heap[b]?) → Nodes w'' w''.heap.size A n ns
theorem KeepN.now {lo : Nat} {w : World} {A : Option Addr} {n : Nat} {ns : List Nd} (h : KeepN lo w A n ns) : Nodes w w.heap.size A n ns := h w (Nat.le_refl _) fun _ _ _ => rfl
theorem KeepN.step {lo : Nat} {w w' : World} {A : Option Addr} {n : Nat} {ns : List Nd} (h : KeepN lo w A n ns) (hs : w.heap.size ≤ w'.heap.size) (hb : ∀ b, lo ≤ b → b < w.heap.size → w'.heap[b]? = w.heap[b]?) : KeepN lo w' A n ns := fun w'' h1 h2 => h w'' (Nat.le_trans hs h1) fun b h3 h4 => (h2 b h3 (Nat.lt_of_lt_of_le h4 hs)).trans (hb b h3 h4)
/-- What l5Any hands back: it reads as nodes. -/
def OutA (w : World) (g : Nat) (a : Option Addr) (len cap : Nat) (e : Ending) (w' : World) : Prop :=
  ∃ A n c ns, e = .returned (.slice A n c) ∧ KeepN w.heap.size w' A n ns ∧ n ≤ c ∧ c ≤ maxLen ∧ ShortN ns ∧ n ≤ 10 ∧ Cur w' g a len cap ∧ w.grownBy w' (some g)
theorem OutD.any {N : Nat} {w : World} {g : Nat} {a : Option Addr} {len cap : Nat} {e : Ending} {w' : World} (h : OutD N w g a len cap e w') (hN : N ≤ 10) : OutA w g a len cap e w' := by
  obtain ⟨v, ns, rfl, ho, l1, l2, hc, hg⟩ := h
  obtain ⟨A, c, rfl, h1, h2⟩ := ho.r.shape
  exact ⟨A, _, c, ns, rfl, fun w'' _ hb => (ho.blocks hb).nodes, h1, h2, ho.short, by omega, hc, hg⟩
theorem nodes_tail {w : World} {B b c off n : Nat} {ns : List Nd} (h : Nodes w B (some ⟨b, off, none⟩) n ns) : Nodes w B (some ⟨b, off + 6, none⟩) (n - 1) (ns.drop 1) := by
  refine ⟨⟨by rw [List.length_drop, h.r.len], fun k x hk => ?_⟩, fun x hx => h.x x (List.mem_of_mem_drop hx)⟩
  rw [List.getElem?_drop] at hk
  obtain ⟨b', off', e, h1, h2⟩ := h.r.at' (1 + k) x hk
  injection e with e
  injection e with e1 e2
  subst e1 e2
  refine ⟨b, off + 6, rfl, h1, fun j v hv => ?_⟩
  have h3 := h2 j v hv
  rwa [show off + (1 + k) * 6 + j = off + 6 + k * 6 + j by omega] at h3
set_option maxRecDepth 20000 in
set_option maxHeartbeats 3200000 in
theorem any_expression (w : World) (g : Nat) (a : Option Addr) (len cap : Nat) (hlen : len ≤ 1048576) (hc : Cur w g a len cap) (B : Nat) (hB : B ≤ g) (hrow : Row w B a len) :
    Calls Try.prog 86 #[.pointer (some ⟨g, 0, none⟩)] w (OutA w g a len cap) := by
  have hgl := hc.lt
  have HR := Lib.hid hrow
  have HI := Lib.hid (draw_expression w g a len cap hlen hc B hB hrow)
  clear hc hrow
  go_enter Try.func86, Try.ntmps86
  go_wp2_with fail
  refine HI.out.mono ?_
  rintro e w1 ⟨v, ns, rfl, ho, l1, l2, hc1, hg1⟩
  have HO := Lib.hid ho
  have HC1 := Lib.hid hc1
  have HG1 := Lib.hid hg1
  have HB1 := Lib.hid (grown_below hg1 hB (by omega))
  have hs1 : w.heap.size ≤ w1.heap.size := hg1.size
  have hgl1 : g < w1.heap.size := hc1.lt
  clear ho hc1 hg1 HI
  go_wp2_with fail
  refine (below_any 12 (by omega) _ g a len cap hlen HC1.out B hB (HR.out.below HB1.out)).mono ?_
  rintro e w2 ⟨u, rfl, hu, hc2, hg2⟩
  obtain ⟨hu0, hu1⟩ := hu.2 (by omega)
  have HC2 := Lib.hid hc2
  have HG2 := Lib.hid (grown_trans HG1.out hg2)
  have HB2 := Lib.hid (grown_below HG2.out hB (by omega))
  have HO2 : Hid (DrN w2 w.heap.size v ns) := Lib.hid (HO.out.blocks fun b h1 h2 => hg2.block b h2 (fun e => by have := Option.some.inj e; omega))
  have hs2 : w.heap.size ≤ w2.heap.size := HG2.out.size
  have hgl2 : g < w2.heap.size := hc2.lt
  clear hu hc2 hg2
  by_cases u0 : u = 0
  · subst u0
    go_wp2_with fail
    refine (below_any 7 (by omega) _ g a len cap hlen HC2.out B hB (HR.out.below HB2.out)).mono ?_
    rintro e w3 ⟨z, rfl, hz, hc3, hg3⟩
    obtain ⟨hz0, hz1⟩ := hz.2 (by omega)
    have HC3 := Lib.hid hc3
    have HG3 := Lib.hid (grown_trans HG2.out hg3)
    have HO3 : Hid (DrN w3 w.heap.size v ns) := Lib.hid (HO2.out.blocks fun b h1 h2 => hg3.block b h2 (fun e => by have := Option.some.inj e; omega))
    have hs3 : w.heap.size ≤ w3.heap.size := HG3.out.size
    have hw1 : IntKind.i64.wrap (z - 1) = z - 1 := IntWalk.i64_in _ ⟨by omega, by omega⟩
    obtain ⟨op, hop⟩ : ∃ op, z - 1 = op := ⟨_, rfl⟩
    have hwf : (Lit.int .i64 op).wf = true := by simp [Lit.wf, IntKind.min, IntKind.max, IntKind.signed, IntKind.bits]; omega
    rw [hop] at hw1
    obtain ⟨v', w4, hr, hown, hga, hat⟩ := run_oneG nodeCells_len nodeCells_one (ty := 25) (c := 1) Try.underlying25 info_node rfl (by decide) (by decide) (bareN op) (cs := #[.int .i64 op, .int .i64 0, .int .i64 0, .int .i64 0, .slice none 0 0, .slice none 0 0]) rfl HO3.out.r rfl (by omega) hs3
    have HF := Lib.hid ((drn_app HO3.out hwf hga hat hown l1 HC3.out HG3.out (Nat.le_refl _) (N := 10) (by omega)).any (Nat.le_refl _))
    clear hz hc3 hg3 hown hga hat hwf
    go_wp2_with (at_builtin; refine Go.Lib.wpList_append_run_sl _ (by rfl) (.tmp 10) (.tmp 15) 25 (by rfl) _ _ (by rfl) (by rfl) hr ?_)
    clear hr
    go_wp2
    go_ret
    exact HF.out
  · have f0 : (u == 0) = false := by simpa using u0
    by_cases u1 : u = 1
    · subst u1
      clear f0 u0
      go_wp2_with fail
      refine (any_wish _ g a len cap hlen HC2.out B hB (HR.out.below HB2.out)).mono ?_
      rintro e w3 ⟨t, rfl, hot, -, hc3, hg3⟩
      have HC3 := Lib.hid hc3
      have HG3 := Lib.hid (grown_trans HG2.out hg3)
      have HO3 : Hid (DrN w3 w.heap.size v ns) := Lib.hid (HO2.out.blocks fun b h1 h2 => hg3.block b h2 (fun e => by have := Option.some.inj e; omega))
      have HT := Lib.hid hot
      have hs3 : w.heap.size ≤ w3.heap.size := HG3.out.size
      obtain ⟨v', w4, hr, hown, hga, hat⟩ := run_oneG nodeCells_len nodeCells_one (ty := 25) (c := 1) Try.underlying25 info_node rfl (by decide) (by decide) (⟨0, t⟩ : Nd) (cs := #[.int .i64 0, .int .i64 t.kind, .int .i64 t.field, .int .i64 t.value, .slice t.LA t.Ln t.Lc, .slice t.PA t.Pn t.Pc]) rfl HO3.out.r rfl (by omega) hs3
      have HF : Hid (OutA w g a len cap (.returned v') w4) := Lib.hid (by
        have hb : Below w.heap.size w3 w4 := (Below.refl _ w3).grown hga hs3 (fun k hk => HO3.out.r.lows k hk)
        have hd : DrN w4 w.heap.size v' (ns ++ [⟨0, t⟩]) := HO3.out.more hga hat (by omega) hown (fun x hx => by rw [List.mem_singleton.1 hx]; exact ⟨by show (Lit.int .i64 0).wf = true; decide, HT.out.low hs2⟩) (fun x hx b hb' e => by
          rw [List.mem_singleton.1 hx] at hb'
          have q1 := (HT.out.has_in hb').1
          have q2 := HO2.out.r.tops b e
          omega)
        exact OutD.any (N := 10) ⟨v', _, rfl, hd, by rw [List.length_append]; omega, by rw [List.length_append]; simp; omega, HC3.out.kept (hb.block g hgl), grown_tail HG3.out hb⟩ (Nat.le_refl _))
      clear hot hc3 hg3 hown hga hat
      unfold Wi.val
      go_wp2_with (at_builtin; refine Go.Lib.wpList_append_run_sl _ (by rfl) (.tmp 19) (.tmp 23) 25 (by rfl) _ _ (by rfl) (by rfl) hr ?_)
      clear hr
      go_wp2
      go_ret
      exact HF.out
    · have f1 : (u == 1) = false := by simpa using u1
      have HA : Hid (OutA w g a len cap (.returned v) w2) := Lib.hid (OutD.any (N := 9) ⟨v, ns, rfl, HO2.out, l1, l2, HC2.out, HG2.out⟩ (by decide))
      by_cases u2 : u = 2
      · subst u2
        obtain ⟨A1, c1, rfl, hl, hcm⟩ := HO2.out.r.shape
        obtain ⟨m, hm⟩ : ∃ m, ns.length = m + 1 := ⟨ns.length - 1, by omega⟩
        have hNd := HO2.out.nodes
        rw [hm] at hl hNd ⊢
        obtain ⟨b, off, e, _, _⟩ := hNd.r.cells nodeCells_len (by omega)
        subst e
        have HK : Hid (∀ w'' : World, (∀ b, w.heap.size ≤ b → b < w2.heap.size → w''.heap[b]? = w2.heap[b]?) → Nodes w'' w''.heap.size (some ⟨b, off, none⟩) (m + 1) ns) := Lib.hid fun w'' hb => by have h := (HO2.out.blocks hb).nodes; rwa [hm] at h
        obtain ⟨c, hcc⟩ : ∃ c, c1 = c + 1 := ⟨c1 - 1, by omega⟩
        subst hcc
        have hcm' : c + 1 ≤ 9223372036854775807 := by unfold maxLen at hcm; omega
        have h1c : (1 : Int) ≤ (c : Int) + 1 := by omega
        have h1m : (1 : Int) ≤ (m : Int) + 1 := by omega
        rcases Nat.eq_zero_or_pos c with c0 | c0
        · subst c0
          obtain rfl : m = 0 := by omega
          have HF : Hid (∀ o : Nat, OutA w g a len cap (.returned (.slice (some ⟨b, o, none⟩) 0 0)) w2) := Lib.hid fun o => ⟨_, 0, 0, [], rfl, fun _ _ _ => .nil _ _ _, by omega, by omega, by simp [ShortN], by omega, HC2.out, HG2.out⟩
          clear hNd u0 u1 hl hcm
          go_wp2
          go_ret
          exact HF.out _
        · have HF : Hid (OutA w g a len cap (.returned (.slice (some ⟨b, off + 6, none⟩) m c)) w2) := Lib.hid ⟨_, m, c, ns.drop 1, rfl, fun w'' _ hb => by have h := nodes_tail (c := c) (HK.out w'' hb); simpa using h, by omega, by omega, fun x hx => HO2.out.short x (List.mem_of_mem_drop hx), by omega, HC2.out, HG2.out⟩
          have hcne : ¬ (c = 0) := by omega
          have hcne' : ¬ ((c : Int) = 0) := by omega
          have hcp : (0 : Int) < (c : Int) := by omega
          clear hNd u0 u1 hl hcm
          go_wp2
          go_ret
          exact HF.out
      · have f2 : (u == 2) = false := by simpa using u2
        clear u0 u1 u2
        go_wp2
        go_ret
        exact HA.out
end Go.Proofs.Ytadjoiahllekdaa.num
namespace Go.Proofs.Ytadjoiahllekdaa.num
set_option maxRecDepth 20000
open Go.RowKit
set_option linter.unusedSimpArgs false

/-- The first k numbers rise. -/
def Rise (l : List Int) (k : Nat) : Prop := ∀ j, 0 < j → j < k → l.getD (j - 1) 0 < l.getD j 0
theorem Rise.zero (l : List Int) : Rise l 0 := fun j _ h => by omega
theorem Rise.step {l : List Int} {k : Nat} (h : Rise l k) (h1 : 0 < k → l.getD (k - 1) 0 < l.getD k 0) : Rise l (k + 1) := fun j h0 hj => by
  by_cases e : j = k
  · subst e; exact h1 h0
  · exact h j h0 (by omega)
/-- What makes a list of items. -/
def AreP (ds : List (Int × List Int)) : Prop := (∀ d ∈ ds, IsP d) ∧ Rise (ds.map (·.1)) ds.length ∧ ds.length ≤ 16
theorem id_at {its : List It} {k : Nat} {t : It} (h : its[k]? = some t) : ((its.map It.dat).map (·.1)).getD k 0 = t.id := by
  simp [List.getD_eq_getElem?_getD, h, It.dat]
theorem dat_mem {its : List It} {k : Nat} {t : It} (h : its[k]? = some t) : t.dat ∈ its.map It.dat := List.mem_map.2 ⟨t, mem_of_at h, rfl⟩

/-- IsItem in a world that still bears what held of w0 below its end. -/
theorem sIsItem_in (w0 w : World) (B : Nat) (t : It) (hi : Ints w0 B t.A t.n t.xs) (hB : B ≤ w0.heap.size) (hw : Below w0.heap.size w0 w) (hn : t.n ≤ 1048576) (b : Bool) (hb : b = true ↔ IsP t.dat) :
    Calls Try.prog 52 #[t.val] w fun e w' => e = .returned (.bool b) ∧ Below w0.heap.size w0 w' :=
  (sIsItem w B t (hi.below (hw.mono hB)) (Nat.le_trans hB hw.size) hn b hb).mono fun _ _ ⟨he, h⟩ => ⟨he, hw.trans (h.mono hw.size)⟩

theorem all_step {its : List It} {k : Nat} {t : It} (hat : its[k]? = some t) (h : ∀ u ∈ its.take k, IsP u.dat) (h1 : IsP t.dat) : ∀ u ∈ its.take (k + 1), IsP u.dat := by
  rw [take_at hat]
  intro u hu
  rcases List.mem_append.1 hu with h2 | h2
  · exact h u h2
  · obtain rfl := List.mem_singleton.1 h2
    exact h1

set_option maxRecDepth 20000 in
set_option maxHeartbeats 1600000 in
theorem sAre (w : World) (B : Nat) (A : Option Addr) (n c : Nat) (its : List It) (hi : Items w B A n its) (hB : B ≤ w.heap.size) (hn : n ≤ 1048576) (hN : ∀ t ∈ its, t.n ≤ 1048576) (b : Bool) (hb : b = true ↔ AreP (its.map It.dat)) :
    Calls Try.prog 23 #[.slice A n c] w fun e w' => e = .returned (.bool b) ∧ Below w.heap.size w w' := by
  have HX := Lib.hid hi
  have HN := Lib.hid hN
  have HBo := Lib.hid hb
  clear hi hN hb
  go_enter Try.func23, Try.ntmps23
  go_wp2
  go_loopw [3] (fun i wr => ∃ k : Nat, k ≤ n ∧ i = .int .i64 k ∧ (∀ t ∈ its.take k, IsP t.dat) ∧ Rise ((its.map It.dat).map (·.1)) k ∧ Below w.heap.size w wr) (fun i _ => n - (intOf i).toNat)
  case atStart => exact ⟨0, Nat.zero_le _, rfl, by simp, Rise.zero _, Below.refl _ _⟩
  case round =>
    obtain ⟨k, hk, rfl, hall, hrise, hbel⟩ := hrel
    have HA := Lib.hid hall
    have HR := Lib.hid hrise
    have HB := Lib.hid hbel
    clear hall hrise
    by_cases hlt : k < n
    · obtain ⟨b1, off, t, hA1, hb1, hat, hc1, hd1, hx⟩ := HX.out.at k hlt
      have f1 := (hbel.cell (p := ⟨b1, off + k * 2, none⟩) (by exact Nat.lt_of_lt_of_le hb1 hB)).trans hc1
      have f2 := (hbel.cell (p := ⟨b1, off + k * 2 + 1, none⟩) (by exact Nat.lt_of_lt_of_le hb1 hB)).trans hd1
      have HI := Lib.hid (hx.below (hbel.mono hB))
      have HAt := Lib.hid hat
      have htn := Lib.hid (HN.out t (mem_of_at hat))
      have hsz := Lib.hid hbel.size
      have hlt' : (k : Int) < (n : Int) := by omega
      obtain ⟨q, hq⟩ := bool_of (IsP t.dat)
      have HQ := Lib.hid hq
      clear hc1 hd1 hx hat hq
      cases q
      · have HF : Hid (b = false) := by
          show _ = _
          cases b
          · rfl
          · exact absurd ((HBo.out.1 rfl).1 _ (dat_mem HAt.out)) (fun h => by have := HQ.out.2 h; cases this)
        subst hA1
        clear hbel
        go_wp2
        have hs0 : Below wr.heap.size wr wr.drew ∧ wr.drew.cell? ⟨b1, off + k * 2, none⟩ = some (.int .i64 t.id) ∧ wr.drew.cell? ⟨b1, off + k * 2 + 1, none⟩ = some (.slice t.A t.n t.c) := ⟨(Below.refl _ _).drew, f1, f2⟩
        refine wp_region_held (S := fun w' => Below wr.heap.size wr w' ∧ w'.cell? ⟨b1, off + k * 2, none⟩ = some (.int .i64 t.id) ∧ w'.cell? ⟨b1, off + k * 2 + 1, none⟩ = some (.slice t.A t.n t.c)) (by kernel_rfl) ?_
        change wpAnyH _ _ _ _ _ _ _ _ (World.drew _)
        refine takeY 10 (i := 0) (v := ?v0a) rfl rfl (by kernel_rfl) (by kernel_rfl) (by kernel_rfl) (fun _ _ _ h => h) (by kernel_rfl) ?y0a hs0 ?_
        case y0a =>
          intro w' hw'; (try dsimp only at hw'); obtain ⟨e0, e1, e2⟩ := hw'; go_simp; try with_reducible rfl
        simp only [Act.put, List.setIfInBounds_toArray, List.set_cons_zero, List.set_cons_succ]
        refine takeY 11 (i := 1) (v := ?v1a) rfl rfl (by kernel_rfl) (by kernel_rfl) (by kernel_rfl) (fun _ _ _ h => h) (by kernel_rfl) ?y1a hs0 ?_
        case y1a =>
          intro w' hw'; (try dsimp only at hw'); obtain ⟨e0, e1, e2⟩ := hw'; go_simp; try with_reducible rfl
        simp only [Act.put, List.setIfInBounds_toArray, List.set_cons_zero, List.set_cons_succ]
        refine takeY 12 (i := 2) (v := ?v2a) rfl rfl (by kernel_rfl) (by kernel_rfl) (by kernel_rfl) (fun _ _ _ h => h) (by kernel_rfl) ?y2a hs0 ?_
        case y2a =>
          intro w' hw'; (try dsimp only at hw'); obtain ⟨e0, e1, e2⟩ := hw'; go_simp; try with_reducible rfl
        simp only [Act.put, List.setIfInBounds_toArray, List.set_cons_zero, List.set_cons_succ]
        refine takeY 13 (i := 3) (v := ?v3a) rfl rfl (by kernel_rfl) (by kernel_rfl) (by kernel_rfl) (fun _ _ _ h => h) (by kernel_rfl) ?y3a hs0 ?_
        case y3a =>
          intro w' hw'; (try dsimp only at hw'); obtain ⟨e0, e1, e2⟩ := hw'; go_simp; try with_reducible rfl
        simp only [Act.put, List.setIfInBounds_toArray, List.set_cons_zero, List.set_cons_succ]
        refine wpAnyH_ready (rs := [4]) (by kernel_rfl) (by simp) ?_
        refine AllReadyH.cons rfl (fun K hK => ?_) AllReadyH.nil
        go_simp; go_at_call 52; refine (sIsItem_in wr _ B t HI.out (Nat.le_trans hB hsz.out) (Below.refl _ _).drew htn.out false HQ.out).mono ?_; rintro e w3 ⟨rfl, hb3⟩
        refine hK.out _ _ ⟨hb3, (hb3.cell (p := ⟨b1, off + k * 2, none⟩) (by exact Nat.lt_of_lt_of_le hb1 (Nat.le_trans hB hsz.out))).trans f1, (hb3.cell (p := ⟨b1, off + k * 2 + 1, none⟩) (by exact Nat.lt_of_lt_of_le hb1 (Nat.le_trans hB hsz.out))).trans f2⟩ (fun hS1 => ?_)
        clear hK K
        try simp only [Act.put, List.setIfInBounds_toArray, List.set_cons_zero, List.set_cons_succ]
        refine takeY 15 (i := 5) (v := ?v5a) rfl rfl (by kernel_rfl) (by kernel_rfl) (by kernel_rfl) (fun _ _ _ h => h) (by kernel_rfl) ?y5a hS1 ?_
        case y5a =>
          intro w' hw'; (try dsimp only at hw'); obtain ⟨e0, e1, e2⟩ := hw'; go_simp; try with_reducible rfl
        simp only [Act.put, List.setIfInBounds_toArray, List.set_cons_zero, List.set_cons_succ]
        refine takeY 16 (i := 6) (v := ?v6a) rfl rfl (by kernel_rfl) (by kernel_rfl) (by kernel_rfl) (fun _ _ _ h => h) (by kernel_rfl) ?y6a hS1 ?_
        case y6a =>
          intro w' hw'; (try dsimp only at hw'); obtain ⟨e0, e1, e2⟩ := hw'; go_simp; try with_reducible rfl
        simp only [Act.put, List.setIfInBounds_toArray, List.set_cons_zero, List.set_cons_succ]
        refine takeU 17 (i := 7) rfl rfl (by kernel_rfl) (by kernel_rfl) (by kernel_rfl) (fun _ _ _ h => h) (by kernel_rfl) hS1 ?_
        simp only [Act.put, List.setIfInBounds_toArray, List.set_cons_zero, List.set_cons_succ]
        refine takeU 18 (i := 8) rfl rfl (by kernel_rfl) (by kernel_rfl) (by kernel_rfl) (fun _ _ _ h => h) (by kernel_rfl) hS1 ?_
        simp only [Act.put, List.setIfInBounds_toArray, List.set_cons_zero, List.set_cons_succ]
        refine takeU 19 (i := 9) rfl rfl (by kernel_rfl) (by kernel_rfl) (by kernel_rfl) (fun _ _ _ h => h) (by kernel_rfl) hS1 ?_
        simp only [Act.put, List.setIfInBounds_toArray, List.set_cons_zero, List.set_cons_succ]
        refine takeU 20 (i := 10) rfl rfl (by kernel_rfl) (by kernel_rfl) (by kernel_rfl) (fun _ _ _ h => h) (by kernel_rfl) hS1 ?_
        simp only [Act.put, List.setIfInBounds_toArray, List.set_cons_zero, List.set_cons_succ]
        refine takeU 21 (i := 11) rfl rfl (by kernel_rfl) (by kernel_rfl) (by kernel_rfl) (fun _ _ _ h => h) (by kernel_rfl) hS1 ?_
        simp only [Act.put, List.setIfInBounds_toArray, List.set_cons_zero, List.set_cons_succ]
        refine takeU 22 (i := 12) rfl rfl (by kernel_rfl) (by kernel_rfl) (by kernel_rfl) (fun _ _ _ h => h) (by kernel_rfl) hS1 ?_
        simp only [Act.put, List.setIfInBounds_toArray, List.set_cons_zero, List.set_cons_succ]
        refine takeU 23 (i := 13) rfl rfl (by kernel_rfl) (by kernel_rfl) (by kernel_rfl) (fun _ _ _ h => h) (by kernel_rfl) hS1 ?_
        simp only [Act.put, List.setIfInBounds_toArray, List.set_cons_zero, List.set_cons_succ]
        refine takeU 24 (i := 14) rfl rfl (by kernel_rfl) (by kernel_rfl) (by kernel_rfl) (fun _ _ _ h => h) (by kernel_rfl) hS1 ?_
        simp only [Act.put, List.setIfInBounds_toArray, List.set_cons_zero, List.set_cons_succ]
        refine takeU 25 (i := 15) rfl rfl (by kernel_rfl) (by kernel_rfl) (by kernel_rfl) (fun _ _ _ h => h) (by kernel_rfl) hS1 ?_
        simp only [Act.put, List.setIfInBounds_toArray, List.set_cons_zero, List.set_cons_succ]
        refine takeU 26 (i := 16) rfl rfl (by kernel_rfl) (by kernel_rfl) (by kernel_rfl) (fun _ _ _ h => h) (by kernel_rfl) hS1 ?_
        simp only [Act.put, List.setIfInBounds_toArray, List.set_cons_zero, List.set_cons_succ]
        refine takeU 27 (i := 17) rfl rfl (by kernel_rfl) (by kernel_rfl) (by kernel_rfl) (fun _ _ _ h => h) (by kernel_rfl) hS1 ?_
        simp only [Act.put, List.setIfInBounds_toArray, List.set_cons_zero, List.set_cons_succ]
        refine takeU 28 (i := 18) rfl rfl (by kernel_rfl) (by kernel_rfl) (by kernel_rfl) (fun _ _ _ h => h) (by kernel_rfl) hS1 ?_
        simp only [Act.put, List.setIfInBounds_toArray, List.set_cons_zero, List.set_cons_succ]
        refine takeU 29 (i := 19) rfl rfl (by kernel_rfl) (by kernel_rfl) (by kernel_rfl) (fun _ _ _ h => h) (by kernel_rfl) hS1 ?_
        simp only [Act.put, List.setIfInBounds_toArray, List.set_cons_zero, List.set_cons_succ]
        refine takeU 30 (i := 20) rfl rfl (by kernel_rfl) (by kernel_rfl) (by kernel_rfl) (fun _ _ _ h => h) (by kernel_rfl) hS1 ?_
        simp only [Act.put, List.setIfInBounds_toArray, List.set_cons_zero, List.set_cons_succ]
        refine takeU 31 (i := 21) rfl rfl (by kernel_rfl) (by kernel_rfl) (by kernel_rfl) (fun _ _ _ h => h) (by kernel_rfl) hS1 ?_
        simp only [Act.put, List.setIfInBounds_toArray, List.set_cons_zero, List.set_cons_succ]
        refine takeU 32 (i := 22) rfl rfl (by kernel_rfl) (by kernel_rfl) (by kernel_rfl) (fun _ _ _ h => h) (by kernel_rfl) hS1 ?_
        simp only [Act.put, List.setIfInBounds_toArray, List.set_cons_zero, List.set_cons_succ]
        refine takeY 33 (i := 23) (v := ?v23a) rfl rfl (by kernel_rfl) (by kernel_rfl) (by kernel_rfl) (fun _ _ _ h => h) (by kernel_rfl) ?y23a hS1 ?_
        case y23a =>
          intro w' hw'; (try dsimp only at hw'); obtain ⟨e0, e1, e2⟩ := hw'; go_simp; try with_reducible rfl
        simp only [Act.put, List.setIfInBounds_toArray, List.set_cons_zero, List.set_cons_succ]
        refine wpAnyH_done (by kernel_rfl) ?_ _
        go_wp2
        go_ret
        exact ⟨HF.out.symm ▸ rfl, HB.out.trans (hb3.mono hsz.out)⟩
      · have HD := Lib.hid (HQ.out.1 rfl)
        rcases Nat.eq_zero_or_pos k with h0 | h0
        · have HK := Lib.hid h0
          subst hA1
          clear hbel h0
          go_wp2
          have hk0 : decide (0 < k) = false := decide_eq_false (by have := HK.out; omega)
          have hs0 : Below wr.heap.size wr wr.drew ∧ wr.drew.cell? ⟨b1, off + k * 2, none⟩ = some (.int .i64 t.id) ∧ wr.drew.cell? ⟨b1, off + k * 2 + 1, none⟩ = some (.slice t.A t.n t.c) := ⟨(Below.refl _ _).drew, f1, f2⟩
          refine wp_region_held (S := fun w' => Below wr.heap.size wr w' ∧ w'.cell? ⟨b1, off + k * 2, none⟩ = some (.int .i64 t.id) ∧ w'.cell? ⟨b1, off + k * 2 + 1, none⟩ = some (.slice t.A t.n t.c)) (by kernel_rfl) ?_
          change wpAnyH _ _ _ _ _ _ _ _ (World.drew _)
          refine takeY 10 (i := 0) (v := ?v0b) rfl rfl (by kernel_rfl) (by kernel_rfl) (by kernel_rfl) (fun _ _ _ h => h) (by kernel_rfl) ?y0b hs0 ?_
          case y0b =>
            intro w' hw'; (try dsimp only at hw'); obtain ⟨e0, e1, e2⟩ := hw'; go_simp; try with_reducible rfl
          simp only [Act.put, List.setIfInBounds_toArray, List.set_cons_zero, List.set_cons_succ]
          refine takeY 11 (i := 1) (v := ?v1b) rfl rfl (by kernel_rfl) (by kernel_rfl) (by kernel_rfl) (fun _ _ _ h => h) (by kernel_rfl) ?y1b hs0 ?_
          case y1b =>
            intro w' hw'; (try dsimp only at hw'); obtain ⟨e0, e1, e2⟩ := hw'; go_simp; try with_reducible rfl
          simp only [Act.put, List.setIfInBounds_toArray, List.set_cons_zero, List.set_cons_succ]
          refine takeY 12 (i := 2) (v := ?v2b) rfl rfl (by kernel_rfl) (by kernel_rfl) (by kernel_rfl) (fun _ _ _ h => h) (by kernel_rfl) ?y2b hs0 ?_
          case y2b =>
            intro w' hw'; (try dsimp only at hw'); obtain ⟨e0, e1, e2⟩ := hw'; go_simp; try with_reducible rfl
          simp only [Act.put, List.setIfInBounds_toArray, List.set_cons_zero, List.set_cons_succ]
          refine takeY 13 (i := 3) (v := ?v3b) rfl rfl (by kernel_rfl) (by kernel_rfl) (by kernel_rfl) (fun _ _ _ h => h) (by kernel_rfl) ?y3b hs0 ?_
          case y3b =>
            intro w' hw'; (try dsimp only at hw'); obtain ⟨e0, e1, e2⟩ := hw'; go_simp; try with_reducible rfl
          simp only [Act.put, List.setIfInBounds_toArray, List.set_cons_zero, List.set_cons_succ]
          refine wpAnyH_ready (rs := [4]) (by kernel_rfl) (by simp) ?_
          refine AllReadyH.cons rfl (fun K hK => ?_) AllReadyH.nil
          go_simp; go_at_call 52; refine (sIsItem_in wr _ B t HI.out (Nat.le_trans hB hsz.out) (Below.refl _ _).drew htn.out true ⟨fun _ => HD.out, fun _ => rfl⟩).mono ?_; rintro e w3 ⟨rfl, hb3⟩
          refine hK.out _ _ ⟨hb3, (hb3.cell (p := ⟨b1, off + k * 2, none⟩) (by exact Nat.lt_of_lt_of_le hb1 (Nat.le_trans hB hsz.out))).trans f1, (hb3.cell (p := ⟨b1, off + k * 2 + 1, none⟩) (by exact Nat.lt_of_lt_of_le hb1 (Nat.le_trans hB hsz.out))).trans f2⟩ (fun hS1 => ?_)
          clear hK K
          try simp only [Act.put, List.setIfInBounds_toArray, List.set_cons_zero, List.set_cons_succ]
          refine takeY 15 (i := 5) (v := ?v5b) rfl rfl (by kernel_rfl) (by kernel_rfl) (by kernel_rfl) (fun _ _ _ h => h) (by kernel_rfl) ?y5b hS1 ?_
          case y5b =>
            intro w' hw'; (try dsimp only at hw'); obtain ⟨e0, e1, e2⟩ := hw'; go_simp; try with_reducible rfl
          simp only [Act.put, List.setIfInBounds_toArray, List.set_cons_zero, List.set_cons_succ]
          refine takeY 16 (i := 6) (v := ?v6b) rfl rfl (by kernel_rfl) (by kernel_rfl) (by kernel_rfl) (fun _ _ _ h => h) (by kernel_rfl) ?y6b hS1 ?_
          case y6b =>
            intro w' hw'; (try dsimp only at hw'); obtain ⟨e0, e1, e2⟩ := hw'; go_simp; try with_reducible rfl
          simp only [Act.put, List.setIfInBounds_toArray, List.set_cons_zero, List.set_cons_succ]
          refine takeY 17 (i := 7) (v := ?v7b) rfl rfl (by kernel_rfl) (by kernel_rfl) (by kernel_rfl) (fun _ _ _ h => h) (by kernel_rfl) ?y7b hS1 ?_
          case y7b =>
            intro w' hw'; (try dsimp only at hw'); obtain ⟨e0, e1, e2⟩ := hw'; go_simp; try with_reducible rfl
          simp only [Act.put, List.setIfInBounds_toArray, List.set_cons_zero, List.set_cons_succ]
          refine takeY 18 (i := 8) (v := ?v8b) rfl rfl (by kernel_rfl) (by kernel_rfl) (by kernel_rfl) (fun _ _ _ h => h) (by kernel_rfl) ?y8b hS1 ?_
          case y8b =>
            intro w' hw'; (try dsimp only at hw'); obtain ⟨e0, e1, e2⟩ := hw'; go_simp; try with_reducible rfl
          simp only [Act.put, List.setIfInBounds_toArray, List.set_cons_zero, List.set_cons_succ]
          refine takeY 19 (i := 9) (v := ?v9b) rfl rfl (by kernel_rfl) (by kernel_rfl) (by kernel_rfl) (fun _ _ _ h => h) (by kernel_rfl) ?y9b hS1 ?_
          case y9b =>
            intro w' hw'; (try dsimp only at hw'); obtain ⟨e0, e1, e2⟩ := hw'; go_simp; try with_reducible rfl
          simp only [Act.put, List.setIfInBounds_toArray, List.set_cons_zero, List.set_cons_succ]
          refine takeU 20 (i := 10) rfl rfl (by kernel_rfl) (by kernel_rfl) (by kernel_rfl) (fun _ _ _ h => h) (by kernel_rfl) hS1 ?_
          simp only [Act.put, List.setIfInBounds_toArray, List.set_cons_zero, List.set_cons_succ]
          refine takeU 21 (i := 11) rfl rfl (by kernel_rfl) (by kernel_rfl) (by kernel_rfl) (fun _ _ _ h => h) (by kernel_rfl) hS1 ?_
          simp only [Act.put, List.setIfInBounds_toArray, List.set_cons_zero, List.set_cons_succ]
          refine takeU 22 (i := 12) rfl rfl (by kernel_rfl) (by kernel_rfl) (by kernel_rfl) (fun _ _ _ h => h) (by kernel_rfl) hS1 ?_
          simp only [Act.put, List.setIfInBounds_toArray, List.set_cons_zero, List.set_cons_succ]
          refine takeU 23 (i := 13) rfl rfl (by kernel_rfl) (by kernel_rfl) (by kernel_rfl) (fun _ _ _ h => h) (by kernel_rfl) hS1 ?_
          simp only [Act.put, List.setIfInBounds_toArray, List.set_cons_zero, List.set_cons_succ]
          refine takeU 24 (i := 14) rfl rfl (by kernel_rfl) (by kernel_rfl) (by kernel_rfl) (fun _ _ _ h => h) (by kernel_rfl) hS1 ?_
          simp only [Act.put, List.setIfInBounds_toArray, List.set_cons_zero, List.set_cons_succ]
          refine takeU 25 (i := 15) rfl rfl (by kernel_rfl) (by kernel_rfl) (by kernel_rfl) (fun _ _ _ h => h) (by kernel_rfl) hS1 ?_
          simp only [Act.put, List.setIfInBounds_toArray, List.set_cons_zero, List.set_cons_succ]
          refine takeU 26 (i := 16) rfl rfl (by kernel_rfl) (by kernel_rfl) (by kernel_rfl) (fun _ _ _ h => h) (by kernel_rfl) hS1 ?_
          simp only [Act.put, List.setIfInBounds_toArray, List.set_cons_zero, List.set_cons_succ]
          refine takeU 27 (i := 17) rfl rfl (by kernel_rfl) (by kernel_rfl) (by kernel_rfl) (fun _ _ _ h => h) (by kernel_rfl) hS1 ?_
          simp only [Act.put, List.setIfInBounds_toArray, List.set_cons_zero, List.set_cons_succ]
          refine takeU 28 (i := 18) rfl rfl (by kernel_rfl) (by kernel_rfl) (by kernel_rfl) (fun _ _ _ h => h) (by kernel_rfl) hS1 ?_
          simp only [Act.put, List.setIfInBounds_toArray, List.set_cons_zero, List.set_cons_succ]
          refine takeU 29 (i := 19) rfl rfl (by kernel_rfl) (by kernel_rfl) (by kernel_rfl) (fun _ _ _ h => h) (by kernel_rfl) hS1 ?_
          simp only [Act.put, List.setIfInBounds_toArray, List.set_cons_zero, List.set_cons_succ]
          refine takeU 30 (i := 20) rfl rfl (by kernel_rfl) (by kernel_rfl) (by kernel_rfl) (fun _ _ _ h => h) (by kernel_rfl) hS1 ?_
          simp only [Act.put, List.setIfInBounds_toArray, List.set_cons_zero, List.set_cons_succ]
          refine takeU 31 (i := 21) rfl rfl (by kernel_rfl) (by kernel_rfl) (by kernel_rfl) (fun _ _ _ h => h) (by kernel_rfl) hS1 ?_
          simp only [Act.put, List.setIfInBounds_toArray, List.set_cons_zero, List.set_cons_succ]
          refine takeY 32 (i := 22) (v := ?v22b) rfl rfl (by kernel_rfl) (by kernel_rfl) (by kernel_rfl) (fun _ _ _ h => h) (by kernel_rfl) ?y22b hS1 ?_
          case y22b =>
            intro w' hw'; (try dsimp only at hw'); obtain ⟨e0, e1, e2⟩ := hw'; go_simp; try with_reducible rfl
          simp only [Act.put, List.setIfInBounds_toArray, List.set_cons_zero, List.set_cons_succ]
          refine takeY 33 (i := 23) (v := ?v23b) rfl rfl (by kernel_rfl) (by kernel_rfl) (by kernel_rfl) (fun _ _ _ h => h) (by kernel_rfl) ?y23b hS1 ?_
          case y23b =>
            intro w' hw'; (try dsimp only at hw'); obtain ⟨e0, e1, e2⟩ := hw'; go_simp; try with_reducible rfl
          simp only [Act.put, List.setIfInBounds_toArray, List.set_cons_zero, List.set_cons_succ]
          refine wpAnyH_done (by kernel_rfl) ?_ _
          clear hk0
          go_wp2
          go_roundw
          case rel => exact ⟨k + 1, by omega, by go_num, all_step HAt.out HA.out HD.out, HR.out.step (fun h0 => absurd h0 (by have := HK.out; omega)), HB.out.trans (hb3.mono hsz.out)⟩
          case measure => simp [intOf]; omega
        · obtain ⟨j, hj⟩ : ∃ j, j + 1 = k := ⟨k - 1, by omega⟩
          obtain ⟨b2, off2, t0, hA2, hb2, hat2, hc2, _, _⟩ := HX.out.at j (by omega)
          obtain ⟨rfl, rfl⟩ : b1 = b2 ∧ off = off2 := by rw [hA1] at hA2; injection hA2 with h; injection h with h1 h2; exact ⟨h1, h2⟩
          have f3 := (hbel.cell (p := ⟨b1, off + j * 2, none⟩) (by exact Nat.lt_of_lt_of_le hb1 hB)).trans hc2
          have HAt0 := Lib.hid hat2
          have HJ := Lib.hid hj
          have HK0 : Hid ((0 : Int) < (k : Int)) := by show _ < _; omega
          have hkj : (k : Int) - 1 = (j : Int) := by omega
          have hkw : IntKind.i64.wrap ((k : Int) - 1) = (j : Int) := by rw [hkj]; exact IntWalk.i64_in _ ⟨by omega, by omega⟩
          have hjw : IntKind.i64.wrap (j : Int) = (j : Int) := IntWalk.i64_in _ ⟨by omega, by omega⟩
          have hjn : (j : Int) < (n : Int) := by omega
          have hjn' : j < n := by omega
          subst hA1
          clear hbel h0 hj hc2 hat2 hA2
          have HLt : Hid (((its.map It.dat).map (·.1)).getD (k - 1) 0 = t0.id ∧ ((its.map It.dat).map (·.1)).getD k 0 = t.id) := by
            refine ⟨?_, id_at HAt.out⟩
            rw [show k - 1 = j by have := HJ.out; omega]
            exact id_at HAt0.out
          by_cases hle : t.id ≤ t0.id
          · have HF : Hid (b = false) := by
              show _ = _
              cases b
              · rfl
              · have hr := (HBo.out.1 rfl).2.1 k (by omega) (by rw [List.length_map, HX.out.1]; exact hlt)
                rw [HLt.out.1, HLt.out.2] at hr
                omega
            go_wp2
            have hk0 : decide (0 < k) = true := decide_eq_true (by have := HK0.out; omega)
            have hs0 : Below wr.heap.size wr wr.drew ∧ wr.drew.cell? ⟨b1, off + k * 2, none⟩ = some (.int .i64 t.id) ∧ wr.drew.cell? ⟨b1, off + k * 2 + 1, none⟩ = some (.slice t.A t.n t.c) ∧ wr.drew.cell? ⟨b1, off + j * 2, none⟩ = some (.int .i64 t0.id) := ⟨(Below.refl _ _).drew, f1, f2, f3⟩
            refine wp_region_held (S := fun w' => Below wr.heap.size wr w' ∧ w'.cell? ⟨b1, off + k * 2, none⟩ = some (.int .i64 t.id) ∧ w'.cell? ⟨b1, off + k * 2 + 1, none⟩ = some (.slice t.A t.n t.c) ∧ w'.cell? ⟨b1, off + j * 2, none⟩ = some (.int .i64 t0.id)) (by kernel_rfl) ?_
            change wpAnyH _ _ _ _ _ _ _ _ (World.drew _)
            refine takeY 10 (i := 0) (v := ?v0c) rfl rfl (by kernel_rfl) (by kernel_rfl) (by kernel_rfl) (fun _ _ _ h => h) (by kernel_rfl) ?y0c hs0 ?_
            case y0c =>
              intro w' hw'; (try dsimp only at hw'); obtain ⟨e0, e1, e2, e3⟩ := hw'; go_simp; try with_reducible rfl
            simp only [Act.put, List.setIfInBounds_toArray, List.set_cons_zero, List.set_cons_succ]
            refine takeY 11 (i := 1) (v := ?v1c) rfl rfl (by kernel_rfl) (by kernel_rfl) (by kernel_rfl) (fun _ _ _ h => h) (by kernel_rfl) ?y1c hs0 ?_
            case y1c =>
              intro w' hw'; (try dsimp only at hw'); obtain ⟨e0, e1, e2, e3⟩ := hw'; go_simp; try with_reducible rfl
            simp only [Act.put, List.setIfInBounds_toArray, List.set_cons_zero, List.set_cons_succ]
            refine takeY 12 (i := 2) (v := ?v2c) rfl rfl (by kernel_rfl) (by kernel_rfl) (by kernel_rfl) (fun _ _ _ h => h) (by kernel_rfl) ?y2c hs0 ?_
            case y2c =>
              intro w' hw'; (try dsimp only at hw'); obtain ⟨e0, e1, e2, e3⟩ := hw'; go_simp; try with_reducible rfl
            simp only [Act.put, List.setIfInBounds_toArray, List.set_cons_zero, List.set_cons_succ]
            refine takeY 13 (i := 3) (v := ?v3c) rfl rfl (by kernel_rfl) (by kernel_rfl) (by kernel_rfl) (fun _ _ _ h => h) (by kernel_rfl) ?y3c hs0 ?_
            case y3c =>
              intro w' hw'; (try dsimp only at hw'); obtain ⟨e0, e1, e2, e3⟩ := hw'; go_simp; try with_reducible rfl
            simp only [Act.put, List.setIfInBounds_toArray, List.set_cons_zero, List.set_cons_succ]
            refine wpAnyH_ready (rs := [4]) (by kernel_rfl) (by simp) ?_
            refine AllReadyH.cons rfl (fun K hK => ?_) AllReadyH.nil
            go_simp; go_at_call 52; refine (sIsItem_in wr _ B t HI.out (Nat.le_trans hB hsz.out) (Below.refl _ _).drew htn.out true ⟨fun _ => HD.out, fun _ => rfl⟩).mono ?_; rintro e w3 ⟨rfl, hb3⟩
            refine hK.out _ _ ⟨hb3, (hb3.cell (p := ⟨b1, off + k * 2, none⟩) (by exact Nat.lt_of_lt_of_le hb1 (Nat.le_trans hB hsz.out))).trans f1, (hb3.cell (p := ⟨b1, off + k * 2 + 1, none⟩) (by exact Nat.lt_of_lt_of_le hb1 (Nat.le_trans hB hsz.out))).trans f2, (hb3.cell (p := ⟨b1, off + j * 2, none⟩) (by exact Nat.lt_of_lt_of_le hb1 (Nat.le_trans hB hsz.out))).trans f3⟩ (fun hS1 => ?_)
            clear hK K
            try simp only [Act.put, List.setIfInBounds_toArray, List.set_cons_zero, List.set_cons_succ]
            refine takeY 15 (i := 5) (v := ?v5c) rfl rfl (by kernel_rfl) (by kernel_rfl) (by kernel_rfl) (fun _ _ _ h => h) (by kernel_rfl) ?y5c hS1 ?_
            case y5c =>
              intro w' hw'; (try dsimp only at hw'); obtain ⟨e0, e1, e2, e3⟩ := hw'; go_simp; try with_reducible rfl
            simp only [Act.put, List.setIfInBounds_toArray, List.set_cons_zero, List.set_cons_succ]
            refine takeY 16 (i := 6) (v := ?v6c) rfl rfl (by kernel_rfl) (by kernel_rfl) (by kernel_rfl) (fun _ _ _ h => h) (by kernel_rfl) ?y6c hS1 ?_
            case y6c =>
              intro w' hw'; (try dsimp only at hw'); obtain ⟨e0, e1, e2, e3⟩ := hw'; go_simp; try with_reducible rfl
            simp only [Act.put, List.setIfInBounds_toArray, List.set_cons_zero, List.set_cons_succ]
            refine takeY 17 (i := 7) (v := ?v7c) rfl rfl (by kernel_rfl) (by kernel_rfl) (by kernel_rfl) (fun _ _ _ h => h) (by kernel_rfl) ?y7c hS1 ?_
            case y7c =>
              intro w' hw'; (try dsimp only at hw'); obtain ⟨e0, e1, e2, e3⟩ := hw'; go_simp; try with_reducible rfl
            simp only [Act.put, List.setIfInBounds_toArray, List.set_cons_zero, List.set_cons_succ]
            refine takeY 18 (i := 8) (v := ?v8c) rfl rfl (by kernel_rfl) (by kernel_rfl) (by kernel_rfl) (fun _ _ _ h => h) (by kernel_rfl) ?y8c hS1 ?_
            case y8c =>
              intro w' hw'; (try dsimp only at hw'); obtain ⟨e0, e1, e2, e3⟩ := hw'; go_simp; try with_reducible rfl
            simp only [Act.put, List.setIfInBounds_toArray, List.set_cons_zero, List.set_cons_succ]
            refine takeY 19 (i := 9) (v := ?v9c) rfl rfl (by kernel_rfl) (by kernel_rfl) (by kernel_rfl) (fun _ _ _ h => h) (by kernel_rfl) ?y9c hS1 ?_
            case y9c =>
              intro w' hw'; (try dsimp only at hw'); obtain ⟨e0, e1, e2, e3⟩ := hw'; go_simp; try with_reducible rfl
            simp only [Act.put, List.setIfInBounds_toArray, List.set_cons_zero, List.set_cons_succ]
            refine takeY 20 (i := 10) (v := ?v10c) rfl rfl (by kernel_rfl) (by kernel_rfl) (by kernel_rfl) (fun _ _ _ h => h) (by kernel_rfl) ?y10c hS1 ?_
            case y10c =>
              intro w' hw'; (try dsimp only at hw'); obtain ⟨e0, e1, e2, e3⟩ := hw'; go_simp; try with_reducible rfl
            simp only [Act.put, List.setIfInBounds_toArray, List.set_cons_zero, List.set_cons_succ]
            refine takeY 21 (i := 11) (v := ?v11c) rfl rfl (by kernel_rfl) (by kernel_rfl) (by kernel_rfl) (fun _ _ _ h => h) (by kernel_rfl) ?y11c hS1 ?_
            case y11c =>
              intro w' hw'; (try dsimp only at hw'); obtain ⟨e0, e1, e2, e3⟩ := hw'; go_simp; try with_reducible rfl
            simp only [Act.put, List.setIfInBounds_toArray, List.set_cons_zero, List.set_cons_succ]
            refine takeY 22 (i := 12) (v := ?v12c) rfl rfl (by kernel_rfl) (by kernel_rfl) (by kernel_rfl) (fun _ _ _ h => h) (by kernel_rfl) ?y12c hS1 ?_
            case y12c =>
              intro w' hw'; (try dsimp only at hw'); obtain ⟨e0, e1, e2, e3⟩ := hw'; go_simp; try with_reducible rfl
            simp only [Act.put, List.setIfInBounds_toArray, List.set_cons_zero, List.set_cons_succ]
            refine takeY 23 (i := 13) (v := ?v13c) rfl rfl (by kernel_rfl) (by kernel_rfl) (by kernel_rfl) (fun _ _ _ h => h) (by kernel_rfl) ?y13c hS1 ?_
            case y13c =>
              intro w' hw'; (try dsimp only at hw'); obtain ⟨e0, e1, e2, e3⟩ := hw'; go_simp; try with_reducible rfl
            simp only [Act.put, List.setIfInBounds_toArray, List.set_cons_zero, List.set_cons_succ]
            refine takeY 24 (i := 14) (v := ?v14c) rfl rfl (by kernel_rfl) (by kernel_rfl) (by kernel_rfl) (fun _ _ _ h => h) (by kernel_rfl) ?y14c hS1 ?_
            case y14c =>
              intro w' hw'; (try dsimp only at hw'); obtain ⟨e0, e1, e2, e3⟩ := hw'; go_simp; try with_reducible rfl
            simp only [Act.put, List.setIfInBounds_toArray, List.set_cons_zero, List.set_cons_succ]
            refine takeY 25 (i := 15) (v := ?v15c) rfl rfl (by kernel_rfl) (by kernel_rfl) (by kernel_rfl) (fun _ _ _ h => h) (by kernel_rfl) ?y15c hS1 ?_
            case y15c =>
              intro w' hw'; (try dsimp only at hw'); obtain ⟨e0, e1, e2, e3⟩ := hw'; go_simp; try with_reducible rfl
            simp only [Act.put, List.setIfInBounds_toArray, List.set_cons_zero, List.set_cons_succ]
            refine takeY 26 (i := 16) (v := ?v16c) rfl rfl (by kernel_rfl) (by kernel_rfl) (by kernel_rfl) (fun _ _ _ h => h) (by kernel_rfl) ?y16c hS1 ?_
            case y16c =>
              intro w' hw'; (try dsimp only at hw'); obtain ⟨e0, e1, e2, e3⟩ := hw'; go_simp; try with_reducible rfl
            simp only [Act.put, List.setIfInBounds_toArray, List.set_cons_zero, List.set_cons_succ]
            refine takeY 27 (i := 17) (v := ?v17c) rfl rfl (by kernel_rfl) (by kernel_rfl) (by kernel_rfl) (fun _ _ _ h => h) (by kernel_rfl) ?y17c hS1 ?_
            case y17c =>
              intro w' hw'; (try dsimp only at hw'); obtain ⟨e0, e1, e2, e3⟩ := hw'; go_simp; try with_reducible rfl
            simp only [Act.put, List.setIfInBounds_toArray, List.set_cons_zero, List.set_cons_succ]
            refine takeY 28 (i := 18) (v := ?v18c) rfl rfl (by kernel_rfl) (by kernel_rfl) (by kernel_rfl) (fun _ _ _ h => h) (by kernel_rfl) ?y18c hS1 ?_
            case y18c =>
              intro w' hw'; (try dsimp only at hw'); obtain ⟨e0, e1, e2, e3⟩ := hw'; go_simp; try with_reducible rfl
            simp only [Act.put, List.setIfInBounds_toArray, List.set_cons_zero, List.set_cons_succ]
            refine takeY 29 (i := 19) (v := ?v19c) rfl rfl (by kernel_rfl) (by kernel_rfl) (by kernel_rfl) (fun _ _ _ h => h) (by kernel_rfl) ?y19c hS1 ?_
            case y19c =>
              intro w' hw'; (try dsimp only at hw'); obtain ⟨e0, e1, e2, e3⟩ := hw'; go_simp; try with_reducible rfl
            simp only [Act.put, List.setIfInBounds_toArray, List.set_cons_zero, List.set_cons_succ]
            refine takeY 30 (i := 20) (v := ?v20c) rfl rfl (by kernel_rfl) (by kernel_rfl) (by kernel_rfl) (fun _ _ _ h => h) (by kernel_rfl) ?y20c hS1 ?_
            case y20c =>
              intro w' hw'; (try dsimp only at hw'); obtain ⟨e0, e1, e2, e3⟩ := hw'; go_simp; try with_reducible rfl
            simp only [Act.put, List.setIfInBounds_toArray, List.set_cons_zero, List.set_cons_succ]
            refine takeY 31 (i := 21) (v := ?v21c) rfl rfl (by kernel_rfl) (by kernel_rfl) (by kernel_rfl) (fun _ _ _ h => h) (by kernel_rfl) ?y21c hS1 ?_
            case y21c =>
              intro w' hw'; (try dsimp only at hw'); obtain ⟨e0, e1, e2, e3⟩ := hw'; go_simp; try with_reducible rfl
            simp only [Act.put, List.setIfInBounds_toArray, List.set_cons_zero, List.set_cons_succ]
            refine takeY 32 (i := 22) (v := ?v22c) rfl rfl (by kernel_rfl) (by kernel_rfl) (by kernel_rfl) (fun _ _ _ h => h) (by kernel_rfl) ?y22c hS1 ?_
            case y22c =>
              intro w' hw'; (try dsimp only at hw'); obtain ⟨e0, e1, e2, e3⟩ := hw'; go_simp; try with_reducible rfl
            simp only [Act.put, List.setIfInBounds_toArray, List.set_cons_zero, List.set_cons_succ]
            refine takeY 33 (i := 23) (v := ?v23c) rfl rfl (by kernel_rfl) (by kernel_rfl) (by kernel_rfl) (fun _ _ _ h => h) (by kernel_rfl) ?y23c hS1 ?_
            case y23c =>
              intro w' hw'; (try dsimp only at hw'); obtain ⟨e0, e1, e2, e3⟩ := hw'; go_simp; try with_reducible rfl
            simp only [Act.put, List.setIfInBounds_toArray, List.set_cons_zero, List.set_cons_succ]
            refine wpAnyH_done (by kernel_rfl) ?_ _
            clear hk0
            go_wp2
            go_ret
            exact ⟨HF.out.symm ▸ rfl, HB.out.trans (hb3.mono hsz.out)⟩
          · go_wp2
            have hk0 : decide (0 < k) = true := decide_eq_true (by have := HK0.out; omega)
            have hs0 : Below wr.heap.size wr wr.drew ∧ wr.drew.cell? ⟨b1, off + k * 2, none⟩ = some (.int .i64 t.id) ∧ wr.drew.cell? ⟨b1, off + k * 2 + 1, none⟩ = some (.slice t.A t.n t.c) ∧ wr.drew.cell? ⟨b1, off + j * 2, none⟩ = some (.int .i64 t0.id) := ⟨(Below.refl _ _).drew, f1, f2, f3⟩
            refine wp_region_held (S := fun w' => Below wr.heap.size wr w' ∧ w'.cell? ⟨b1, off + k * 2, none⟩ = some (.int .i64 t.id) ∧ w'.cell? ⟨b1, off + k * 2 + 1, none⟩ = some (.slice t.A t.n t.c) ∧ w'.cell? ⟨b1, off + j * 2, none⟩ = some (.int .i64 t0.id)) (by kernel_rfl) ?_
            change wpAnyH _ _ _ _ _ _ _ _ (World.drew _)
            refine takeY 10 (i := 0) (v := ?v0d) rfl rfl (by kernel_rfl) (by kernel_rfl) (by kernel_rfl) (fun _ _ _ h => h) (by kernel_rfl) ?y0d hs0 ?_
            case y0d =>
              intro w' hw'; (try dsimp only at hw'); obtain ⟨e0, e1, e2, e3⟩ := hw'; go_simp; try with_reducible rfl
            simp only [Act.put, List.setIfInBounds_toArray, List.set_cons_zero, List.set_cons_succ]
            refine takeY 11 (i := 1) (v := ?v1d) rfl rfl (by kernel_rfl) (by kernel_rfl) (by kernel_rfl) (fun _ _ _ h => h) (by kernel_rfl) ?y1d hs0 ?_
            case y1d =>
              intro w' hw'; (try dsimp only at hw'); obtain ⟨e0, e1, e2, e3⟩ := hw'; go_simp; try with_reducible rfl
            simp only [Act.put, List.setIfInBounds_toArray, List.set_cons_zero, List.set_cons_succ]
            refine takeY 12 (i := 2) (v := ?v2d) rfl rfl (by kernel_rfl) (by kernel_rfl) (by kernel_rfl) (fun _ _ _ h => h) (by kernel_rfl) ?y2d hs0 ?_
            case y2d =>
              intro w' hw'; (try dsimp only at hw'); obtain ⟨e0, e1, e2, e3⟩ := hw'; go_simp; try with_reducible rfl
            simp only [Act.put, List.setIfInBounds_toArray, List.set_cons_zero, List.set_cons_succ]
            refine takeY 13 (i := 3) (v := ?v3d) rfl rfl (by kernel_rfl) (by kernel_rfl) (by kernel_rfl) (fun _ _ _ h => h) (by kernel_rfl) ?y3d hs0 ?_
            case y3d =>
              intro w' hw'; (try dsimp only at hw'); obtain ⟨e0, e1, e2, e3⟩ := hw'; go_simp; try with_reducible rfl
            simp only [Act.put, List.setIfInBounds_toArray, List.set_cons_zero, List.set_cons_succ]
            refine wpAnyH_ready (rs := [4]) (by kernel_rfl) (by simp) ?_
            refine AllReadyH.cons rfl (fun K hK => ?_) AllReadyH.nil
            go_simp; go_at_call 52; refine (sIsItem_in wr _ B t HI.out (Nat.le_trans hB hsz.out) (Below.refl _ _).drew htn.out true ⟨fun _ => HD.out, fun _ => rfl⟩).mono ?_; rintro e w3 ⟨rfl, hb3⟩
            refine hK.out _ _ ⟨hb3, (hb3.cell (p := ⟨b1, off + k * 2, none⟩) (by exact Nat.lt_of_lt_of_le hb1 (Nat.le_trans hB hsz.out))).trans f1, (hb3.cell (p := ⟨b1, off + k * 2 + 1, none⟩) (by exact Nat.lt_of_lt_of_le hb1 (Nat.le_trans hB hsz.out))).trans f2, (hb3.cell (p := ⟨b1, off + j * 2, none⟩) (by exact Nat.lt_of_lt_of_le hb1 (Nat.le_trans hB hsz.out))).trans f3⟩ (fun hS1 => ?_)
            clear hK K
            try simp only [Act.put, List.setIfInBounds_toArray, List.set_cons_zero, List.set_cons_succ]
            refine takeY 15 (i := 5) (v := ?v5d) rfl rfl (by kernel_rfl) (by kernel_rfl) (by kernel_rfl) (fun _ _ _ h => h) (by kernel_rfl) ?y5d hS1 ?_
            case y5d =>
              intro w' hw'; (try dsimp only at hw'); obtain ⟨e0, e1, e2, e3⟩ := hw'; go_simp; try with_reducible rfl
            simp only [Act.put, List.setIfInBounds_toArray, List.set_cons_zero, List.set_cons_succ]
            refine takeY 16 (i := 6) (v := ?v6d) rfl rfl (by kernel_rfl) (by kernel_rfl) (by kernel_rfl) (fun _ _ _ h => h) (by kernel_rfl) ?y6d hS1 ?_
            case y6d =>
              intro w' hw'; (try dsimp only at hw'); obtain ⟨e0, e1, e2, e3⟩ := hw'; go_simp; try with_reducible rfl
            simp only [Act.put, List.setIfInBounds_toArray, List.set_cons_zero, List.set_cons_succ]
            refine takeY 17 (i := 7) (v := ?v7d) rfl rfl (by kernel_rfl) (by kernel_rfl) (by kernel_rfl) (fun _ _ _ h => h) (by kernel_rfl) ?y7d hS1 ?_
            case y7d =>
              intro w' hw'; (try dsimp only at hw'); obtain ⟨e0, e1, e2, e3⟩ := hw'; go_simp; try with_reducible rfl
            simp only [Act.put, List.setIfInBounds_toArray, List.set_cons_zero, List.set_cons_succ]
            refine takeY 18 (i := 8) (v := ?v8d) rfl rfl (by kernel_rfl) (by kernel_rfl) (by kernel_rfl) (fun _ _ _ h => h) (by kernel_rfl) ?y8d hS1 ?_
            case y8d =>
              intro w' hw'; (try dsimp only at hw'); obtain ⟨e0, e1, e2, e3⟩ := hw'; go_simp; try with_reducible rfl
            simp only [Act.put, List.setIfInBounds_toArray, List.set_cons_zero, List.set_cons_succ]
            refine takeY 19 (i := 9) (v := ?v9d) rfl rfl (by kernel_rfl) (by kernel_rfl) (by kernel_rfl) (fun _ _ _ h => h) (by kernel_rfl) ?y9d hS1 ?_
            case y9d =>
              intro w' hw'; (try dsimp only at hw'); obtain ⟨e0, e1, e2, e3⟩ := hw'; go_simp; try with_reducible rfl
            simp only [Act.put, List.setIfInBounds_toArray, List.set_cons_zero, List.set_cons_succ]
            refine takeY 20 (i := 10) (v := ?v10d) rfl rfl (by kernel_rfl) (by kernel_rfl) (by kernel_rfl) (fun _ _ _ h => h) (by kernel_rfl) ?y10d hS1 ?_
            case y10d =>
              intro w' hw'; (try dsimp only at hw'); obtain ⟨e0, e1, e2, e3⟩ := hw'; go_simp; try with_reducible rfl
            simp only [Act.put, List.setIfInBounds_toArray, List.set_cons_zero, List.set_cons_succ]
            refine takeY 21 (i := 11) (v := ?v11d) rfl rfl (by kernel_rfl) (by kernel_rfl) (by kernel_rfl) (fun _ _ _ h => h) (by kernel_rfl) ?y11d hS1 ?_
            case y11d =>
              intro w' hw'; (try dsimp only at hw'); obtain ⟨e0, e1, e2, e3⟩ := hw'; go_simp; try with_reducible rfl
            simp only [Act.put, List.setIfInBounds_toArray, List.set_cons_zero, List.set_cons_succ]
            refine takeY 22 (i := 12) (v := ?v12d) rfl rfl (by kernel_rfl) (by kernel_rfl) (by kernel_rfl) (fun _ _ _ h => h) (by kernel_rfl) ?y12d hS1 ?_
            case y12d =>
              intro w' hw'; (try dsimp only at hw'); obtain ⟨e0, e1, e2, e3⟩ := hw'; go_simp; try with_reducible rfl
            simp only [Act.put, List.setIfInBounds_toArray, List.set_cons_zero, List.set_cons_succ]
            refine takeY 23 (i := 13) (v := ?v13d) rfl rfl (by kernel_rfl) (by kernel_rfl) (by kernel_rfl) (fun _ _ _ h => h) (by kernel_rfl) ?y13d hS1 ?_
            case y13d =>
              intro w' hw'; (try dsimp only at hw'); obtain ⟨e0, e1, e2, e3⟩ := hw'; go_simp; try with_reducible rfl
            simp only [Act.put, List.setIfInBounds_toArray, List.set_cons_zero, List.set_cons_succ]
            refine takeY 24 (i := 14) (v := ?v14d) rfl rfl (by kernel_rfl) (by kernel_rfl) (by kernel_rfl) (fun _ _ _ h => h) (by kernel_rfl) ?y14d hS1 ?_
            case y14d =>
              intro w' hw'; (try dsimp only at hw'); obtain ⟨e0, e1, e2, e3⟩ := hw'; go_simp; try with_reducible rfl
            simp only [Act.put, List.setIfInBounds_toArray, List.set_cons_zero, List.set_cons_succ]
            refine takeY 25 (i := 15) (v := ?v15d) rfl rfl (by kernel_rfl) (by kernel_rfl) (by kernel_rfl) (fun _ _ _ h => h) (by kernel_rfl) ?y15d hS1 ?_
            case y15d =>
              intro w' hw'; (try dsimp only at hw'); obtain ⟨e0, e1, e2, e3⟩ := hw'; go_simp; try with_reducible rfl
            simp only [Act.put, List.setIfInBounds_toArray, List.set_cons_zero, List.set_cons_succ]
            refine takeY 26 (i := 16) (v := ?v16d) rfl rfl (by kernel_rfl) (by kernel_rfl) (by kernel_rfl) (fun _ _ _ h => h) (by kernel_rfl) ?y16d hS1 ?_
            case y16d =>
              intro w' hw'; (try dsimp only at hw'); obtain ⟨e0, e1, e2, e3⟩ := hw'; go_simp; try with_reducible rfl
            simp only [Act.put, List.setIfInBounds_toArray, List.set_cons_zero, List.set_cons_succ]
            refine takeY 27 (i := 17) (v := ?v17d) rfl rfl (by kernel_rfl) (by kernel_rfl) (by kernel_rfl) (fun _ _ _ h => h) (by kernel_rfl) ?y17d hS1 ?_
            case y17d =>
              intro w' hw'; (try dsimp only at hw'); obtain ⟨e0, e1, e2, e3⟩ := hw'; go_simp; try with_reducible rfl
            simp only [Act.put, List.setIfInBounds_toArray, List.set_cons_zero, List.set_cons_succ]
            refine takeY 28 (i := 18) (v := ?v18d) rfl rfl (by kernel_rfl) (by kernel_rfl) (by kernel_rfl) (fun _ _ _ h => h) (by kernel_rfl) ?y18d hS1 ?_
            case y18d =>
              intro w' hw'; (try dsimp only at hw'); obtain ⟨e0, e1, e2, e3⟩ := hw'; go_simp; try with_reducible rfl
            simp only [Act.put, List.setIfInBounds_toArray, List.set_cons_zero, List.set_cons_succ]
            refine takeY 29 (i := 19) (v := ?v19d) rfl rfl (by kernel_rfl) (by kernel_rfl) (by kernel_rfl) (fun _ _ _ h => h) (by kernel_rfl) ?y19d hS1 ?_
            case y19d =>
              intro w' hw'; (try dsimp only at hw'); obtain ⟨e0, e1, e2, e3⟩ := hw'; go_simp; try with_reducible rfl
            simp only [Act.put, List.setIfInBounds_toArray, List.set_cons_zero, List.set_cons_succ]
            refine takeY 30 (i := 20) (v := ?v20d) rfl rfl (by kernel_rfl) (by kernel_rfl) (by kernel_rfl) (fun _ _ _ h => h) (by kernel_rfl) ?y20d hS1 ?_
            case y20d =>
              intro w' hw'; (try dsimp only at hw'); obtain ⟨e0, e1, e2, e3⟩ := hw'; go_simp; try with_reducible rfl
            simp only [Act.put, List.setIfInBounds_toArray, List.set_cons_zero, List.set_cons_succ]
            refine takeY 31 (i := 21) (v := ?v21d) rfl rfl (by kernel_rfl) (by kernel_rfl) (by kernel_rfl) (fun _ _ _ h => h) (by kernel_rfl) ?y21d hS1 ?_
            case y21d =>
              intro w' hw'; (try dsimp only at hw'); obtain ⟨e0, e1, e2, e3⟩ := hw'; go_simp; try with_reducible rfl
            simp only [Act.put, List.setIfInBounds_toArray, List.set_cons_zero, List.set_cons_succ]
            refine takeY 32 (i := 22) (v := ?v22d) rfl rfl (by kernel_rfl) (by kernel_rfl) (by kernel_rfl) (fun _ _ _ h => h) (by kernel_rfl) ?y22d hS1 ?_
            case y22d =>
              intro w' hw'; (try dsimp only at hw'); obtain ⟨e0, e1, e2, e3⟩ := hw'; go_simp; try with_reducible rfl
            simp only [Act.put, List.setIfInBounds_toArray, List.set_cons_zero, List.set_cons_succ]
            refine takeY 33 (i := 23) (v := ?v23d) rfl rfl (by kernel_rfl) (by kernel_rfl) (by kernel_rfl) (fun _ _ _ h => h) (by kernel_rfl) ?y23d hS1 ?_
            case y23d =>
              intro w' hw'; (try dsimp only at hw'); obtain ⟨e0, e1, e2, e3⟩ := hw'; go_simp; try with_reducible rfl
            simp only [Act.put, List.setIfInBounds_toArray, List.set_cons_zero, List.set_cons_succ]
            refine wpAnyH_done (by kernel_rfl) ?_ _
            clear hk0
            go_wp2
            go_roundw
            case rel => exact ⟨k + 1, by omega, by go_num, all_step HAt.out HA.out HD.out, HR.out.step (fun h0 => by rw [HLt.out.1, HLt.out.2]; omega), HB.out.trans (hb3.mono hsz.out)⟩
            case measure => simp [intOf]; omega
    · obtain rfl : k = n := by omega
      clear hbel
      obtain ⟨q, hq⟩ := bool_of (k ≤ 16)
      have hbq : Hid (b = q) := by
        show _ = _
        have h1 := HA.out
        rw [take_all HX.out.1] at h1
        rw [Bool.eq_iff_iff, HBo.out, hq]
        unfold AreP
        rw [List.length_map, HX.out.1]
        exact ⟨fun h => h.2.2, fun h => ⟨fun d hd => by obtain ⟨u, hu, rfl⟩ := List.mem_map.1 hd; exact h1 u hu, HR.out, h⟩⟩
      cases q
      · have hq' : ¬ ((k : Int) ≤ 16) := by have := mt hq.2 (by simp); omega
        clear hq
        go_wp2
        go_ret
        exact ⟨hbq.out.symm ▸ rfl, HB.out⟩
      · have hq' : (k : Int) ≤ 16 := by have := hq.1 rfl; omega
        clear hq
        go_wp2
        go_ret
        exact ⟨hbq.out.symm ▸ rfl, HB.out⟩
end Go.Proofs.Ytadjoiahllekdaa.num
namespace Go.Proofs.Ytadjoiahllekdaa.num
set_option maxRecDepth 20000
open Go.RowKit
set_option linter.unusedVariables false
set_option linter.unusedSimpArgs false

set_option maxRecDepth 20000 in
/-- A pick tells which numbers it picks from. -/
theorem pick_p (P : Int → Prop) (gl N : Nat) (hN : 0 < N) (hN2 : N ≤ 100) (w : World) (g : Nat) (a : Option Addr) (len cap : Nat) (hlen : len ≤ 1048576) (hc : Cur w g a len cap) (B : Nat) (hB : B ≤ g) (hrow : Row w B a len) (hl : ∀ k, k < N → ∃ z : Int, w.cell? ⟨gl, k, none⟩ = some (.int .i64 z) ∧ P z) (hne : gl ≠ g) :
    Calls Try.prog 101 #[.pointer (some ⟨g, 0, none⟩), .slice (some ⟨gl, 0, none⟩) N N] w (Out P w g a len cap) := by
  have HC := Lib.hid hc
  have HR := Lib.hid hrow
  have HL := Lib.hid hl
  clear hc hrow hl
  go_enter Try.func101, Try.ntmps101
  go_wp2_with fail
  refine (below_any _ (by omega) _ g a len cap hlen HC.out B hB HR.out).mono ?_
  rintro e w1 ⟨x1, rfl, hx, hc1, hg1⟩
  have hx2 := hx.2 (by omega)
  obtain ⟨r, rfl⟩ := Int.eq_ofNat_of_zero_le hx2.1
  have hrN : r < N := by omega
  obtain ⟨z, hz, hzI⟩ := HL.out r hrN
  have hz1 : w1.cell? ⟨gl, r, none⟩ = some (.int .i64 z) := by
    have hlt := World.block_lt_of_cell? w _ hz
    exact (World.cell?_of_block (hg1.block gl hlt (fun e => by injection e; omega))).trans hz
  have HC1 := Lib.hid hc1
  have HG1 := Lib.hid hg1
  have HZ := Lib.hid hzI
  clear hc1 hg1 hzI hz hx hx2
  go_wp2
  go_ret
  exact ⟨z, rfl, HZ.out, HC1.out, HG1.out⟩
def itemCells (t : It) : List Value := [.int .i64 t.id, .slice t.A t.n t.c]
theorem itemCells_len (t : It) : (itemCells t).length = 2 := rfl
theorem itemCells_one (t : It) : ∀ u ∈ itemCells t, u.oneCell' = true := by
  intro u hu
  simp only [itemCells, List.mem_cons, List.not_mem_nil, or_false] at hu
  rcases hu with rfl | rfl <;> rfl
theorem info_itemD : (Try.prog.info? 58).map (fun i => (i.zero, i.size, i.bytes)) = some (some (.agg #[.int .i64 0, .slice none 0 0]), 2, 32) := by kernel_rfl
/-- A slice of items that a draw filled. -/
structure DrI (w : World) (B : Nat) (v : Value) (its : List It) : Prop where
  r : OwnG 58 itemCells 2 w B v its
  x : ∀ t ∈ its, OwnI w B (.slice t.A t.n t.c) t.xs ∧ t.xs.length ≤ 4
  a : ∀ t ∈ its, ∀ b, (Value.slice t.A t.n t.c).ownBlock = some b → v.ownBlock ≠ some b
theorem DrI.blocks {w w' : World} {B : Nat} {v : Value} {its : List It} (h : DrI w B v its) (hb : ∀ b, B ≤ b → b < w.heap.size → w'.heap[b]? = w.heap[b]?) : DrI w' B v its :=
  ⟨h.r.blocks fun k hk => hb k (h.r.lows k hk) (h.r.tops k hk), fun t ht => ⟨ownI_blocks (h.x t ht).1 fun k hk => hb k (ownI_lows (h.x t ht).1 k hk) (ownI_tops (h.x t ht).1 k hk), (h.x t ht).2⟩, h.a⟩
theorem ownI_n {w : World} {B : Nat} {A : Option Addr} {n c : Nat} {l : List Int} (h : OwnI w B (.slice A n c) l) : n = l.length := by
  rcases h.2 with ⟨e, hl⟩ | ⟨g, cap, cur, e, _⟩ <;> (injection e with e1 e2 e3 <;> omega)
theorem DrI.items {w : World} {B : Nat} {A : Option Addr} {n c : Nat} {its : List It} (h : DrI w B (.slice A n c) its) : Items w w.heap.size A n its ∧ ∀ t ∈ its, t.n ≤ 1048576 := by
  have hr := h.r.read itemCells_len
  refine ⟨⟨hr.len, fun k hk => ?_⟩, fun t ht => by have := ownI_n (h.x t ht).1; have := (h.x t ht).2; omega⟩
  obtain ⟨b, off, e, hb, hc⟩ := hr.at' k its[k] (List.getElem?_eq_getElem hk)
  exact ⟨b, off, e, hb, hc 0 _ rfl, hc 1 _ rfl, ownI_at (h.x _ (List.getElem_mem hk)).1⟩
theorem DrI.snoc {w w' : World} {B N : Nat} {v v' : Value} {its : List It} {t : It} (h : DrI w B v its) (hg : w.grownBy w' v.ownBlock) (hat : v'.ownBlock = v.ownBlock ∨ v'.ownBlock = some N) (hN : w.heap.size ≤ N) (hr : OwnG 58 itemCells 2 w' B v' (its ++ [t])) (hx : OwnI w B (.slice t.A t.n t.c) t.xs ∧ t.xs.length ≤ 4) (ha : ∀ b, (Value.slice t.A t.n t.c).ownBlock = some b → v.ownBlock ≠ some b) : DrI w' B v' (its ++ [t]) := by
  have hall : ∀ x ∈ its ++ [t], (OwnI w B (.slice x.A x.n x.c) x.xs ∧ x.xs.length ≤ 4) ∧ ∀ b, (Value.slice x.A x.n x.c).ownBlock = some b → v.ownBlock ≠ some b := fun x hx' => by
    rcases List.mem_append.1 hx' with h1 | h1
    · exact ⟨h.x x h1, h.a x h1⟩
    · rw [List.mem_singleton.1 h1]; exact ⟨hx, ha⟩
  refine ⟨hr, fun x hx' => ⟨ownI_blocks (hall x hx').1.1 fun b hb => hg.block b (ownI_tops (hall x hx').1.1 b hb) fun e => (hall x hx').2 b hb e.symm, (hall x hx').1.2⟩, fun x hx' b hb e => ?_⟩
  rcases hat with q | q
  · exact (hall x hx').2 b hb (q ▸ e)
  · rw [q] at e
    have h1 := Option.some.inj e
    have h2 := ownI_tops (hall x hx').1.1 b hb
    omega
def OutIs (N : Nat) (w : World) (g : Nat) (a : Option Addr) (len cap : Nat) (e : Ending) (w' : World) : Prop :=
  ∃ v its, e = .returned v ∧ DrI w' w.heap.size v its ∧ its.length ≤ N ∧ Cur w' g a len cap ∧ w.grownBy w' (some g)
/-- One item behind those that were drawn. -/
theorem dri_app {w w0 w1 w2 : World} {g : Nat} {a : Option Addr} {len cap : Nat} {v v' : Value} {its : List It} {t : It} (h : DrI w1 w0.heap.size v its) (hx : OwnI w1 w0.heap.size (.slice t.A t.n t.c) t.xs ∧ t.xs.length ≤ 4) (ha : ∀ b, (Value.slice t.A t.n t.c).ownBlock = some b → v.ownBlock ≠ some b) (hga : w1.grownBy w2 v.ownBlock) (hat : v'.ownBlock = v.ownBlock ∨ v'.ownBlock = some (w1.heap.size + 1)) (hr : OwnG 58 itemCells 2 w2 w0.heap.size v' (its ++ [t]))
    (hc : Cur w1 g a len cap) (hg : w.grownBy w1 (some g)) (h0 : w.heap.size ≤ w0.heap.size) (hgl : g < w0.heap.size) (hw0 : w0.heap.size ≤ w1.heap.size) : DrI w2 w0.heap.size v' (its ++ [t]) ∧ Cur w2 g a len cap ∧ w.grownBy w2 (some g) := by
  have hb : Below w0.heap.size w1 w2 := (Below.refl _ w1).grown hga hw0 (fun k hk => h.r.lows k hk)
  exact ⟨h.snoc hga hat (by omega) hr hx ha, hc.kept (hb.block g hgl), grown_tail hg (hb.mono h0)⟩

set_option maxRecDepth 20000 in
set_option maxHeartbeats 3200000 in
theorem items_any (most : Nat) (hm : most ≤ 100) (w : World) (g : Nat) (a : Option Addr) (len cap : Nat) (hlen : len ≤ 1048576) (hc : Cur w g a len cap) (B : Nat) (hB : B ≤ g) (hrow : Row w B a len) :
    Calls Try.prog 83 #[.pointer (some ⟨g, 0, none⟩), .int .i64 most] w (OutIs most w g a len cap) := by
  have hgl := hc.lt
  have HR := Lib.hid hrow
  have HE : Hid (DrI (w.alloc (.cells #[] 58)) w.heap.size (.slice (some ⟨w.heap.size, 0, none⟩) 0 0) []) := Lib.hid ⟨OwnG.empty w _ (Nat.le_refl _), by simp, by simp⟩
  have HC0 : Hid (Cur (w.alloc (.cells #[] 58)) g a len cap) := Lib.hid (hc.kept (Below.heap_alloc _ _ _ hgl))
  have HG0 : Hid (w.grownBy (w.alloc (.cells #[] 58)) (some g)) := Lib.hid (World.grownBy_alloc w _ _)
  clear hc hrow
  have HCa : Hid (Cur ((w.alloc (.cells #[] 58)).alloc (.cells #[.int .i64 2, .int .i64 4, .int .i64 10] 3)) g a len cap) := Lib.hid (HC0.out.kept (Below.heap_alloc _ _ _ (by simp; omega)))
  have HGa : Hid (w.grownBy ((w.alloc (.cells #[] 58)).alloc (.cells #[.int .i64 2, .int .i64 4, .int .i64 10] 3)) (some g)) := Lib.hid (grown_alloc HG0.out _)
  have HEa : Hid (DrI ((w.alloc (.cells #[] 58)).alloc (.cells #[.int .i64 2, .int .i64 4, .int .i64 10] 3)) w.heap.size (.slice (some ⟨w.heap.size, 0, none⟩) 0 0) []) := Lib.hid (HE.out.blocks fun b _ hb => Below.heap_alloc _ _ _ hb)
  have HP := Lib.hid (pick_p (fun z => 0 < z ∧ z ≤ 1000) (w.alloc (.cells #[] 58)).heap.size 3 (by decide) (by decide) ((w.alloc (.cells #[] 58)).alloc (.cells #[.int .i64 2, .int .i64 4, .int .i64 10] 3)) g a len cap hlen HCa.out B hB (HR.out.below (grown_below HGa.out hB (by omega))) (fun k hk => by
    rcases (show k = 0 ∨ k = 1 ∨ k = 2 by omega) with rfl | rfl | rfl
    · exact ⟨2, World.cell?_alloc_at _ _ _ _ rfl, by decide, by decide⟩
    · exact ⟨4, World.cell?_alloc_at _ _ _ _ rfl, by decide, by decide⟩
    · exact ⟨10, World.cell?_alloc_at _ _ _ _ rfl, by decide, by decide⟩) (by simp; omega))
  rw [World.size_alloc] at HP
  have hmw : IntKind.i64.wrap ((most : Int) + 1) = (most : Int) + 1 := IntWalk.i64_in _ ⟨by omega, by omega⟩
  go_enter Try.func83, Try.ntmps83
  go_wp2_with fail
  refine HP.out.mono ?_
  rintro e w1 ⟨wide, rfl, ⟨hw0, hw1⟩, hc1, hg1⟩
  have HC1 := Lib.hid hc1
  have HG1 := Lib.hid (grown_trans HGa.out hg1)
  have HO1 : Hid (DrI w1 w.heap.size (.slice (some ⟨w.heap.size, 0, none⟩) 0 0) []) := Lib.hid (HEa.out.blocks fun b h1 h2 => hg1.block b h2 (fun e => by have := Option.some.inj e; omega))
  clear hc1 hg1 HP HE HC0 HG0 HCa HGa HEa
  go_wp2_with fail
  refine (below_any 3 (by omega) _ g a len cap hlen HC1.out B hB (HR.out.below (grown_below HG1.out hB (by omega)))).mono ?_
  rintro e w2 ⟨id, rfl, hid, hc2, hg2⟩
  obtain ⟨id0, id1⟩ := hid.2 (by omega)
  have HC2 := Lib.hid hc2
  have HG2 := Lib.hid (grown_trans HG1.out hg2)
  have HO2 : Hid (DrI w2 w.heap.size (.slice (some ⟨w.heap.size, 0, none⟩) 0 0) []) := Lib.hid (HO1.out.blocks fun b h1 h2 => hg2.block b h2 (fun e => by have := Option.some.inj e; omega))
  clear hid hc2 hg2
  go_wp2_with fail
  refine (below_any ((most : Int) + 1) (by omega) _ g a len cap hlen HC2.out B hB (HR.out.below (grown_below HG2.out hB (by omega)))).mono ?_
  rintro e w3 ⟨n, rfl, hn, hc3, hg3⟩
  obtain ⟨n0, n1⟩ := hn.2 (by omega)
  have HC3 := Lib.hid hc3
  have HG3 := Lib.hid (grown_trans HG2.out hg3)
  have HO3 : Hid (DrI w3 w.heap.size (.slice (some ⟨w.heap.size, 0, none⟩) 0 0) []) := Lib.hid (HO2.out.blocks fun b h1 h2 => hg3.block b h2 (fun e => by have := Option.some.inj e; omega))
  clear hn hc3 hg3
  go_wp2
  go_loopw [5, 7, 8] (fun v idv nv wr => ∃ (its : List It) (V : Value) (d m : Int), V = v ∧ idv = .int .i64 d ∧ nv = .int .i64 m ∧ 0 ≤ d ∧ d ≤ 3 + 2 * its.length ∧ 0 ≤ m ∧ m + its.length ≤ most ∧ DrI wr w.heap.size V its ∧ Cur wr g a len cap ∧ w.grownBy wr (some g)) (fun _ _ nv _ => (intOf nv).toNat)
  case atStart => exact ⟨[], _, id, n, rfl, rfl, rfl, id0, by simp; omega, n0, by simp; omega, HO3.out, HC3.out, HG3.out⟩
  case round =>
    obtain ⟨its, v, d, m, rfl, rfl, rfl, d0, d1, m0, m1, ho, hc, hg⟩ := hrel
    have HO := Lib.hid ho
    have HC := Lib.hid hc
    have HG := Lib.hid hg
    have hs : w.heap.size ≤ wr.heap.size := hg.size
    clear ho hc hg
    by_cases hpos : 0 < m
    · go_wp2_with fail
      refine (item_any d wide hw0 hw1 _ g a len cap hlen HC.out B hB (HR.out.below (grown_below HG.out hB (by omega)))).mono ?_
      rintro e w4 ⟨t, rfl, hot, t3, t4, hc4, hg4⟩
      have HC4 := Lib.hid hc4
      have HG4 := Lib.hid (grown_trans HG.out hg4)
      have HO4 : Hid (DrI w4 w.heap.size v its) := Lib.hid (HO.out.blocks fun b h1 h2 => hg4.block b h2 (fun e => by have := Option.some.inj e; omega))
      have hs4 : w.heap.size ≤ w4.heap.size := HG4.out.size
      have HT : Hid (OwnI w4 wr.heap.size (.slice t.A t.n t.c) t.xs ∧ t.xs.length ≤ 4) := Lib.hid ⟨hot, by omega⟩
      obtain ⟨v', w5, hr, hown, hga, hat⟩ := run_oneG itemCells_len itemCells_one (ty := 24) (c := 1) Try.underlying24 info_itemD rfl (by decide) (by decide) t (cs := #[.int .i64 t.id, .slice t.A t.n t.c]) rfl HO4.out.r rfl (by omega) hs4
      have HF := Lib.hid (dri_app HO4.out ⟨ownI_lowD HT.out.1 hs, HT.out.2⟩ (fun b h1 h2 => by
        have q1 := ownI_lows HT.out.1 b h1
        have q2 := HO.out.r.tops b h2
        omega) hga hat hown HC4.out HG4.out (Nat.le_refl _) hgl hs4)
      clear hot hc4 hg4 hown hga hat
      unfold It.val
      go_wp2_with (first | (at_builtin; refine Go.Lib.wpList_append_run_sl _ (by rfl) (.tmp 23) (.tmp 28) 24 (by rfl) _ _ (by rfl) (by rfl) hr ?_) | fail)
      refine (below_any 2 (by omega) _ g a len cap hlen HF.out.2.1 B hB (HR.out.below (grown_below HF.out.2.2 hB (by omega)))).mono ?_
      rintro e w6 ⟨u, rfl, hu, hc6, hg6⟩
      obtain ⟨u0, u1⟩ := hu.2 (by omega)
      have HC6 := Lib.hid hc6
      have HG6 := Lib.hid (grown_trans HF.out.2.2 hg6)
      have HO6 : Hid (DrI w6 w.heap.size v' (its ++ [t])) := Lib.hid (HF.out.1.blocks fun b h1 h2 => hg6.block b h2 (fun e => by have := Option.some.inj e; omega))
      have hw2 : IntKind.i64.wrap (d + 1) = d + 1 := IntWalk.i64_in _ ⟨by omega, by omega⟩
      have hw3 : IntKind.i64.wrap (d + 1 + u) = d + 1 + u := IntWalk.i64_in _ ⟨by omega, by omega⟩
      have hw4 : IntKind.i64.wrap (m - 1) = m - 1 := IntWalk.i64_in _ ⟨by omega, by omega⟩
      clear hu hc6 hg6 hr
      go_wp2
      go_roundw
      case rel => exact ⟨its ++ [t], _, d + 1 + u, m - 1, rfl, by first | rfl | go_num, by first | rfl | go_num, by omega, by rw [List.length_append]; simp; omega, by omega, by rw [List.length_append]; simp; omega, HO6.out, HC6.out, HG6.out⟩
      case measure => simp [intOf]; omega
    · have hd : decide (m > 0) = false := by simp; omega
      have hF : OutIs most w g a len cap (.returned v) wr := ⟨v, its, rfl, HO.out, by omega, HC.out, HG.out⟩
      have HF := Lib.hid hF
      have hm' : m = 0 := by omega
      subst hm'
      clear hF
      go_wp2
      go_ret
      exact HF.out

set_option maxRecDepth 20000 in
set_option maxHeartbeats 1600000 in
theorem any_items (w : World) (g : Nat) (a : Option Addr) (len cap : Nat) (hlen : len ≤ 1048576) (hc : Cur w g a len cap) (B : Nat) (hB : B ≤ g) (hrow : Row w B a len) :
    Calls Try.prog 85 #[.pointer (some ⟨g, 0, none⟩)] w (OutIs 8 w g a len cap) := by
  have hgl := hc.lt
  have HR := Lib.hid hrow
  have HI : Hid (Calls Try.prog 83 #[.pointer (some ⟨g, 0, none⟩), .int .i64 7] w (OutIs 7 w g a len cap)) := Lib.hid (items_any 7 (by decide) w g a len cap hlen hc B hB hrow)
  clear hc hrow
  go_enter Try.func85, Try.ntmps85
  go_wp2_with fail
  refine HI.out.mono ?_
  rintro e w1 ⟨v, its, rfl, ho, l1, hc1, hg1⟩
  have HO := Lib.hid ho
  have HC1 := Lib.hid hc1
  have HG1 := Lib.hid hg1
  have hs1 : w.heap.size ≤ w1.heap.size := hg1.size
  clear ho hc1 hg1 HI
  go_wp2_with fail
  refine (once_any 8 (by omega) _ g a len cap hlen HC1.out B hB (HR.out.below (grown_below HG1.out hB (by omega)))).mono ?_
  rintro e w2 ⟨q, rfl, hc2, hg2⟩
  have HC2 := Lib.hid hc2
  have HG2 := Lib.hid (grown_trans HG1.out hg2)
  have HO2 : Hid (DrI w2 w.heap.size v its) := Lib.hid (HO.out.blocks fun b h1 h2 => hg2.block b h2 (fun e => by have := Option.some.inj e; omega))
  have hs2 : w.heap.size ≤ w2.heap.size := HG2.out.size
  clear hc2 hg2
  cases q
  · have HF : Hid (OutIs 8 w g a len cap (.returned v) w2) := Lib.hid ⟨v, its, rfl, HO2.out, by omega, HC2.out, HG2.out⟩
    go_wp2
    go_ret
    exact HF.out
  · go_wp2_with fail
    refine (any_item _ g a len cap hlen HC2.out B hB (HR.out.below (grown_below HG2.out hB (by omega)))).mono ?_
    rintro e w3 ⟨t, rfl, hot, t3, t4, hc3, hg3⟩
    have HC3 := Lib.hid hc3
    have HG3 := Lib.hid (grown_trans HG2.out hg3)
    have HO3 : Hid (DrI w3 w.heap.size v its) := Lib.hid (HO2.out.blocks fun b h1 h2 => hg3.block b h2 (fun e => by have := Option.some.inj e; omega))
    have hs3 : w.heap.size ≤ w3.heap.size := HG3.out.size
    have HT : Hid (OwnI w3 w2.heap.size (.slice t.A t.n t.c) t.xs ∧ t.xs.length ≤ 4) := Lib.hid ⟨hot, t4⟩
    obtain ⟨v', w5, hr, hown, hga, hat⟩ := run_oneG itemCells_len itemCells_one (ty := 24) (c := 1) Try.underlying24 info_itemD rfl (by decide) (by decide) t (cs := #[.int .i64 t.id, .slice t.A t.n t.c]) rfl HO3.out.r rfl (by omega) hs3
    have HA := Lib.hid (dri_app HO3.out ⟨ownI_lowD HT.out.1 hs2, HT.out.2⟩ (fun b h1 h2 => by
      have q1 := ownI_lows HT.out.1 b h1
      have q2 := HO2.out.r.tops b h2
      omega) hga hat hown HC3.out HG3.out (Nat.le_refl _) hgl hs3)
    have HF : Hid (OutIs 8 w g a len cap (.returned v') w5) := Lib.hid ⟨v', _, rfl, HA.out.1, by rw [List.length_append]; simp; omega, HA.out.2.1, HA.out.2.2⟩
    clear hot hc3 hg3 hown hga hat
    unfold It.val
    go_wp2_with (at_builtin; refine Go.Lib.wpList_append_run_sl _ (by rfl) (.tmp 8) (.tmp 11) 24 (by rfl) _ _ (by rfl) (by rfl) hr ?_)
    clear hr
    go_wp2
    go_ret
    exact HF.out
/-- A relation and an expression, as they read. -/
def OutB (w : World) (g : Nat) (a : Option Addr) (len cap : Nat) (e : Ending) (w' : World) : Prop :=
  ∃ A n c its A' n' c' ns, e = .returned (.tuple #[.slice A n c, .slice A' n' c']) ∧ (Items w' w'.heap.size A n its ∧ (∀ t ∈ its, t.n ≤ 1048576) ∧ n ≤ c ∧ c ≤ maxLen ∧ n ≤ 8) ∧ (Nodes w' w'.heap.size A' n' ns ∧ n' ≤ c' ∧ c' ≤ maxLen ∧ ShortN ns ∧ n' ≤ 10) ∧ Cur w' g a len cap ∧ w.grownBy w' (some g)
theorem DrI.read {w : World} {B : Nat} {v : Value} {its : List It} (h : DrI w B v its) (h8 : its.length ≤ 8) : ∃ A n c, v = .slice A n c ∧ Items w w.heap.size A n its ∧ (∀ t ∈ its, t.n ≤ 1048576) ∧ n ≤ c ∧ c ≤ maxLen ∧ n ≤ 8 := by
  obtain ⟨A, c, rfl, h1, h2⟩ := h.r.shape
  exact ⟨A, _, c, rfl, h.items.1, h.items.2, h1, h2, h8⟩
set_option maxRecDepth 20000 in
set_option maxHeartbeats 1600000 in
theorem draw7 (w : World) (g : Nat) (a : Option Addr) (len cap : Nat) (hlen : len ≤ 1048576) (hc : Cur w g a len cap) (B : Nat) (hB : B ≤ g) (hrow : Row w B a len) :
    Calls Try.prog 65 #[.pointer (some ⟨g, 0, none⟩)] w (OutB w g a len cap) := by
  have hgl := hc.lt
  have HR := Lib.hid hrow
  have HI : Hid (Calls Try.prog 83 #[.pointer (some ⟨g, 0, none⟩), .int .i64 8] w (OutIs 8 w g a len cap)) := Lib.hid (items_any 8 (by decide) w g a len cap hlen hc B hB hrow)
  clear hc hrow
  go_enter Try.func65, Try.ntmps65
  go_wp2_with fail
  refine HI.out.mono ?_
  rintro e w1 ⟨v, its, rfl, ho, l1, hc1, hg1⟩
  have HO1 := Lib.hid ho
  have HC1 := Lib.hid hc1
  have HG1 := Lib.hid hg1
  have hs1 : w.heap.size ≤ w1.heap.size := hg1.size
  clear ho hc1 hg1 HI
  go_wp2_with fail
  refine (draw_expression _ g a len cap hlen HC1.out B hB (HR.out.below (grown_below HG1.out hB (by omega)))).mono ?_
  rintro e w2 ⟨v2, ns, rfl, ho2, k1, k2, hc2, hg2⟩
  have HN2 := Lib.hid ho2
  have HC2 := Lib.hid hc2
  have HG2 := Lib.hid (grown_trans HG1.out hg2)
  have HO2 : Hid (DrI w2 w.heap.size v its) := Lib.hid (HO1.out.blocks fun b h1 h2 => hg2.block b h2 (fun e => by have := Option.some.inj e; omega))
  have hgl1 : g < w1.heap.size := by omega
  clear ho2 hc2 hg2
  go_wp2_with fail
  refine (below_any 16 (by omega) _ g a len cap hlen HC2.out B hB (HR.out.below (grown_below HG2.out hB (by omega)))).mono ?_
  rintro e w3 ⟨u, rfl, hu, hc3, hg3⟩
  obtain ⟨hu0, hu1⟩ := hu.2 (by omega)
  have HC3 := Lib.hid hc3
  have HG3 := Lib.hid (grown_trans HG2.out hg3)
  have HO3 : Hid (DrI w3 w.heap.size v its) := Lib.hid (HO2.out.blocks fun b h1 h2 => hg3.block b h2 (fun e => by have := Option.some.inj e; omega))
  have HN3 : Hid (DrN w3 w1.heap.size v2 ns) := Lib.hid (HN2.out.blocks fun b h1 h2 => hg3.block b h2 (fun e => by have := Option.some.inj e; omega))
  have hs3 : w.heap.size ≤ w3.heap.size := HG3.out.size
  clear hu hc3 hg3
  by_cases u0 : u = 0
  · subst u0
    go_wp2_with fail
    refine (any_items _ g a len cap hlen HC3.out B hB (HR.out.below (grown_below HG3.out hB (by omega)))).mono ?_
    rintro e w4 ⟨v4, its4, rfl, ho4, m1, hc4, hg4⟩
    have HN4 : DrN w4 w1.heap.size v2 ns := HN3.out.blocks fun b h1 h2 => hg4.block b h2 (fun e => by have := Option.some.inj e; omega)
    obtain ⟨A, n, c, rfl, hI⟩ := ho4.read m1
    obtain ⟨A', c', rfl, q1, q2⟩ := HN4.r.shape
    have HF : Hid (OutB w g a len cap (.returned (.tuple #[.slice A n c, .slice A' ns.length c'])) w4) := Lib.hid ⟨A, n, c, its4, A', _, c', ns, rfl, hI, ⟨HN4.nodes, q1, q2, HN4.short, by omega⟩, hc4, grown_trans HG3.out hg4⟩
    clear ho4 hc4 hg4 hI q1 q2 HN4
    go_wp2
    go_ret2
    exact HF.out
  · have f0 : (u == 0) = false := by simpa using u0
    by_cases u1 : u = 1
    · subst u1
      clear f0 u0
      go_wp2_with fail
      refine (any_expression _ g a len cap hlen HC3.out B hB (HR.out.below (grown_below HG3.out hB (by omega)))).mono ?_
      rintro e w4 ⟨A', n', c', ns4, rfl, hN4, q1, q2, q3, q4, hc4, hg4⟩
      have hO4 : DrI w4 w.heap.size v its := HO3.out.blocks fun b h1 h2 => hg4.block b h2 (fun e => by have := Option.some.inj e; omega)
      obtain ⟨A, n, c, rfl, hI⟩ := hO4.read l1
      have HF : Hid (OutB w g a len cap (.returned (.tuple #[.slice A n c, .slice A' n' c'])) w4) := Lib.hid ⟨A, n, c, its, A', n', c', ns4, rfl, hI, ⟨hN4.now, q1, q2, q3, q4⟩, hc4, grown_trans HG3.out hg4⟩
      clear hO4 hc4 hg4 hI q1 q2 q3 q4 hN4
      go_wp2
      go_ret2
      exact HF.out
    · have f1 : (u == 1) = false := by simpa using u1
      obtain ⟨A, n, c, rfl, hI⟩ := HO3.out.read l1
      obtain ⟨A', c', rfl, q1, q2⟩ := HN3.out.r.shape
      have HF : Hid (OutB w g a len cap (.returned (.tuple #[.slice A n c, .slice A' ns.length c'])) w3) := Lib.hid ⟨A, n, c, its, A', _, c', ns, rfl, hI, ⟨HN3.out.nodes, q1, q2, HN3.out.short, by omega⟩, HC3.out, HG3.out⟩
      clear u0 u1 hI q1 q2
      go_wp2
      go_ret2
      exact HF.out
end Go.Proofs.Ytadjoiahllekdaa.num
namespace Go.Proofs.Ytadjoiahllekdaa.num
set_option maxRecDepth 20000
open Go.RowKit
set_option linter.unusedVariables false
set_option linter.unusedSimpArgs false

/-- Items that stay readable whatever turns below block lo. -/
def KeepI (lo : Nat) (w : World) (A : Option Addr) (n : Nat) (its : List It) : Prop := ∀ w'' : World, w.heap.size ≤ w''.heap.size → (∀ b, lo ≤ b → b < w.heap.size → w''.heap[b]? = w.heap[b]?) → Items w'' w''.heap.size A n its
theorem KeepI.now {lo : Nat} {w : World} {A : Option Addr} {n : Nat} {its : List It} (h : KeepI lo w A n its) : Items w w.heap.size A n its := h w (Nat.le_refl _) fun _ _ _ => rfl
theorem KeepI.step {lo : Nat} {w w' : World} {A : Option Addr} {n : Nat} {its : List It} (h : KeepI lo w A n its) (hs : w.heap.size ≤ w'.heap.size) (hb : ∀ b, lo ≤ b → b < w.heap.size → w'.heap[b]? = w.heap[b]?) : KeepI lo w' A n its := fun w'' h1 h2 => h w'' (Nat.le_trans hs h1) fun b h3 h4 => (h2 b h3 (Nat.lt_of_lt_of_le h4 hs)).trans (hb b h3 h4)
theorem KeepI.low {lo lo' : Nat} {w : World} {A : Option Addr} {n : Nat} {its : List It} (h : KeepI lo w A n its) (hl : lo' ≤ lo) : KeepI lo' w A n its := fun w'' h1 h2 => h w'' h1 fun b h3 h4 => h2 b (Nat.le_trans hl h3) h4
theorem KeepN.low {lo lo' : Nat} {w : World} {A : Option Addr} {n : Nat} {ns : List Nd} (h : KeepN lo w A n ns) (hl : lo' ≤ lo) : KeepN lo' w A n ns := fun w'' h1 h2 => h w'' h1 fun b h3 h4 => h2 b (Nat.le_trans hl h3) h4
theorem DrI.keep {w : World} {B : Nat} {v : Value} {its : List It} (h : DrI w B v its) (h8 : its.length ≤ 8) : ∃ A n c, v = .slice A n c ∧ KeepI B w A n its ∧ (∀ t ∈ its, t.n ≤ 1048576) ∧ n ≤ c ∧ c ≤ maxLen ∧ n ≤ 8 := by
  obtain ⟨A, c, rfl, h1, h2⟩ := h.r.shape
  exact ⟨A, _, c, rfl, fun w'' hs hb => (h.blocks hb).items.1, h.items.2, h1, h2, h8⟩
theorem DrN.keepK {w : World} {B : Nat} {A : Option Addr} {n c : Nat} {ns : List Nd} (h : DrN w B (.slice A n c) ns) : KeepN B w A n ns := fun w'' hs hb => (h.blocks hb).nodes
def OutK (w : World) (g : Nat) (a : Option Addr) (len cap : Nat) (e : Ending) (w' : World) : Prop :=
  ∃ A n c its A' n' c' ns, e = .returned (.tuple #[.slice A n c, .slice A' n' c']) ∧ (KeepI w.heap.size w' A n its ∧ (∀ t ∈ its, t.n ≤ 1048576) ∧ n ≤ c ∧ c ≤ maxLen ∧ n ≤ 8) ∧ (KeepN w.heap.size w' A' n' ns ∧ n' ≤ c' ∧ c' ≤ maxLen ∧ ShortN ns ∧ n' ≤ 10) ∧ Cur w' g a len cap ∧ w.grownBy w' (some g)
set_option maxRecDepth 20000 in
set_option maxHeartbeats 1600000 in
theorem draw7K (w : World) (g : Nat) (a : Option Addr) (len cap : Nat) (hlen : len ≤ 1048576) (hc : Cur w g a len cap) (B : Nat) (hB : B ≤ g) (hrow : Row w B a len) :
    Calls Try.prog 65 #[.pointer (some ⟨g, 0, none⟩)] w (OutK w g a len cap) := by
  have hgl := hc.lt
  have HR := Lib.hid hrow
  have HI : Hid (Calls Try.prog 83 #[.pointer (some ⟨g, 0, none⟩), .int .i64 8] w (OutIs 8 w g a len cap)) := Lib.hid (items_any 8 (by decide) w g a len cap hlen hc B hB hrow)
  clear hc hrow
  go_enter Try.func65, Try.ntmps65
  go_wp2_with fail
  refine HI.out.mono ?_
  rintro e w1 ⟨v, its, rfl, ho, l1, hc1, hg1⟩
  have HO1 := Lib.hid ho
  have HC1 := Lib.hid hc1
  have HG1 := Lib.hid hg1
  have hs1 : w.heap.size ≤ w1.heap.size := hg1.size
  clear ho hc1 hg1 HI
  go_wp2_with fail
  refine (draw_expression _ g a len cap hlen HC1.out B hB (HR.out.below (grown_below HG1.out hB (by omega)))).mono ?_
  rintro e w2 ⟨v2, ns, rfl, ho2, k1, k2, hc2, hg2⟩
  have HN2 := Lib.hid ho2
  have HC2 := Lib.hid hc2
  have HG2 := Lib.hid (grown_trans HG1.out hg2)
  have HO2 : Hid (DrI w2 w.heap.size v its) := Lib.hid (HO1.out.blocks fun b h1 h2 => hg2.block b h2 (fun e => by have := Option.some.inj e; omega))
  have hgl1 : g < w1.heap.size := by omega
  clear ho2 hc2 hg2
  go_wp2_with fail
  refine (below_any 16 (by omega) _ g a len cap hlen HC2.out B hB (HR.out.below (grown_below HG2.out hB (by omega)))).mono ?_
  rintro e w3 ⟨u, rfl, hu, hc3, hg3⟩
  obtain ⟨hu0, hu1⟩ := hu.2 (by omega)
  have HC3 := Lib.hid hc3
  have HG3 := Lib.hid (grown_trans HG2.out hg3)
  have HO3 : Hid (DrI w3 w.heap.size v its) := Lib.hid (HO2.out.blocks fun b h1 h2 => hg3.block b h2 (fun e => by have := Option.some.inj e; omega))
  have HN3 : Hid (DrN w3 w1.heap.size v2 ns) := Lib.hid (HN2.out.blocks fun b h1 h2 => hg3.block b h2 (fun e => by have := Option.some.inj e; omega))
  have hs3 : w.heap.size ≤ w3.heap.size := HG3.out.size
  clear hu hc3 hg3
  by_cases u0 : u = 0
  · subst u0
    go_wp2_with fail
    refine (any_items _ g a len cap hlen HC3.out B hB (HR.out.below (grown_below HG3.out hB (by omega)))).mono ?_
    rintro e w4 ⟨v4, its4, rfl, ho4, m1, hc4, hg4⟩
    have HN4 : DrN w4 w1.heap.size v2 ns := HN3.out.blocks fun b h1 h2 => hg4.block b h2 (fun e => by have := Option.some.inj e; omega)
    obtain ⟨A, n, c, rfl, hI⟩ := ho4.keep m1
    replace hI := And.intro (hI.1.low (show w.heap.size ≤ w3.heap.size from hs3)) hI.2
    obtain ⟨A', c', rfl, q1, q2⟩ := HN4.r.shape
    have HF : Hid (OutK w g a len cap (.returned (.tuple #[.slice A n c, .slice A' ns.length c'])) w4) := Lib.hid ⟨A, n, c, its4, A', _, c', ns, rfl, hI, ⟨HN4.keepK.low hs1, q1, q2, HN4.short, by omega⟩, hc4, grown_trans HG3.out hg4⟩
    clear ho4 hc4 hg4 hI q1 q2 HN4
    go_wp2
    go_ret2
    exact HF.out
  · have f0 : (u == 0) = false := by simpa using u0
    by_cases u1 : u = 1
    · subst u1
      clear f0 u0
      go_wp2_with fail
      refine (any_expression _ g a len cap hlen HC3.out B hB (HR.out.below (grown_below HG3.out hB (by omega)))).mono ?_
      rintro e w4 ⟨A', n', c', ns4, rfl, hN4, q1, q2, q3, q4, hc4, hg4⟩
      have hO4 : DrI w4 w.heap.size v its := HO3.out.blocks fun b h1 h2 => hg4.block b h2 (fun e => by have := Option.some.inj e; omega)
      obtain ⟨A, n, c, rfl, hI⟩ := hO4.keep l1
      have HF : Hid (OutK w g a len cap (.returned (.tuple #[.slice A n c, .slice A' n' c'])) w4) := Lib.hid ⟨A, n, c, its, A', n', c', ns4, rfl, hI, ⟨hN4.low hs3, q1, q2, q3, q4⟩, hc4, grown_trans HG3.out hg4⟩
      clear hO4 hc4 hg4 hI q1 q2 q3 q4 hN4
      go_wp2
      go_ret2
      exact HF.out
    · have f1 : (u == 1) = false := by simpa using u1
      obtain ⟨A, n, c, rfl, hI⟩ := HO3.out.keep l1
      obtain ⟨A', c', rfl, q1, q2⟩ := HN3.out.r.shape
      have HF : Hid (OutK w g a len cap (.returned (.tuple #[.slice A n c, .slice A' ns.length c'])) w3) := Lib.hid ⟨A, n, c, its, A', _, c', ns, rfl, hI, ⟨HN3.out.keepK.low hs1, q1, q2, HN3.out.short, by omega⟩, HC3.out, HG3.out⟩
      clear u0 u1 hI q1 q2
      go_wp2
      go_ret2
      exact HF.out
/-- What is drawn: items, nodes, a number. -/
def OutL (w : World) (e : Ending) (w' : World) : Prop :=
  ∃ A n c its A' n' c' ns, ∃ x : Int, e = .returned (.tuple #[.slice A n c, .slice A' n' c', .int .i64 x]) ∧ (Items w' w'.heap.size A n its ∧ (∀ t ∈ its, t.n ≤ 1048576) ∧ n ≤ c ∧ c ≤ maxLen ∧ n ≤ 8) ∧ (Nodes w' w'.heap.size A' n' ns ∧ n' ≤ c' ∧ c' ≤ maxLen ∧ ShortN ns ∧ n' ≤ 10) ∧ Below w.heap.size w w'
set_option maxRecDepth 20000 in
set_option maxHeartbeats 3200000 in
theorem draw_id (w : World) (a : Option Addr) (len cap : Nat) (hlen : len ≤ 1048576) (hrow : Row w w.heap.size a len) :
    Calls Try.prog 40 #[.slice a len cap] w (OutL w) := by
  have HR := Lib.hid hrow
  clear hrow
  go_enter Try.func40, Try.ntmps40
  go_wp2_with fail
  refine (new_any w a len cap hlen w.heap.size HR.out).mono ?_
  rintro e w1 ⟨g, rfl, hgw, hc1, hb1⟩
  have HC1 := Lib.hid hc1
  have HB1 := Lib.hid hb1
  have hg1 : g < w1.heap.size := hc1.lt
  clear hc1 hb1
  go_wp2_with fail
  refine (draw7K w1 g a len cap hlen HC1.out w.heap.size hgw (HR.out.below HB1.out)).mono ?_
  rintro e w2 ⟨A, n, c, its, A', n', c', ns, rfl, ⟨hI, i1, i2, i3, i4⟩, ⟨hN, j1, j2, j3, j4⟩, hc2, hg2⟩
  have HB2 := Lib.hid (HB1.out.trans (grown_below hg2 hgw HB1.out.size))
  have HI2 := Lib.hid hI
  have HN2 := Lib.hid hN
  have HC2 := Lib.hid hc2
  have HJ := Lib.hid (And.intro i1 (And.intro i2 (And.intro i3 (And.intro j1 (And.intro j2 j3)))))
  have hil : its.length = n := hI.now.1
  have hs2 : w1.heap.size ≤ w2.heap.size := hg2.size
  clear hI hN hc2 hg2 i1 i2 i3 j1 j2 j3
  have HFin : Hid (∀ (W : World) (x : Int), w2.grownBy W (some g) → OutL w (.returned (.tuple #[.slice A n c, .slice A' n' c', .int .i64 x])) W) := Lib.hid fun W x hg => by
    have hk : ∀ b, w1.heap.size ≤ b → b < w2.heap.size → W.heap[b]? = w2.heap[b]? := fun b h1 h2 => hg.block b h2 (fun e => by have := Option.some.inj e; omega)
    obtain ⟨i1, i2, i3, j1, j2, j3⟩ := HJ.out
    exact ⟨A, n, c, its, A', n', c', ns, x, rfl, ⟨(HI2.out.step hg.size hk).now, i1, i2, i3, i4⟩, ⟨(HN2.out.step hg.size hk).now, j1, j2, j3, j4⟩, HB2.out.trans (grown_below hg hgw HB2.out.size)⟩
  have HR2 := Lib.hid (HR.out.below HB2.out)
  by_cases hn0 : n = 0
  · subst hn0
    go_wp2_with fail
    refine (below_any 9 (by omega) _ g a len cap hlen HC2.out w.heap.size hgw HR2.out).mono ?_
    rintro e w3 ⟨u, rfl, hu, hc3, hg3⟩
    obtain ⟨hu0, hu1⟩ := hu.2 (by omega)
    have HF := Lib.hid (HFin.out w3 (u - 1) hg3)
    clear hu hc3 hg3
    go_wp2
    go_ret3
    exact HF.out
  have hnp : 0 < n := by omega
  have hd0 : decide ((n : Int) > 0) = true := by simp; omega
  go_wp2_with fail
  refine (once_any 6 (by omega) _ g a len cap hlen HC2.out w.heap.size hgw HR2.out).mono ?_
  rintro e w3 ⟨q, rfl, hc3, hg3⟩
  have HC3 := Lib.hid hc3
  have HG3 := Lib.hid hg3
  have HB3 := Lib.hid (HB2.out.trans (grown_below hg3 hgw HB2.out.size))
  clear hc3 hg3
  cases q
  · -- the number of one of the items
    obtain ⟨b, off, x0, rfl, hb, -, -⟩ := HI2.out.now.at 0 hnp
    have HS : Hid (∀ w', w3.drew.grownBy w' (some g) → (fun w' => ∀ (k : Nat) (x : It), its[k]? = some x → w'.cell? ⟨b, off + k * 2, none⟩ = some (.int .i64 x.id)) w') := Lib.hid fun w' hg k x hx => by
      have hg2' := grown_trans (grown_drew HG3.out) hg
      have hI' := (HI2.out.step hg2'.size (fun b h1 h2 => hg2'.block b h2 (fun e => by have := Option.some.inj e; omega))).now
      obtain ⟨b', off', y, e, -, hy, d0, -⟩ := hI'.at k (by rw [← hI'.1]; exact (List.getElem?_eq_some_iff.1 hx).1)
      injection e with e
      injection e with e1 e2
      subst e1 e2
      rw [hx] at hy
      rw [Option.some.inj hy]
      exact d0
    have hn1 : (0 : Int) < (n : Int) := by omega
    go_wp2
    have hS0 : (fun w' => ∀ (k : Nat) (x : It), its[k]? = some x → w'.cell? ⟨b, off + k * 2, none⟩ = some (.int .i64 x.id)) (World.drew w3) := HS.out _ (grown_refl _ _)
    refine wp_region_held (S := fun w' => ∀ (k : Nat) (x : It), its[k]? = some x → w'.cell? ⟨b, off + k * 2, none⟩ = some (.int .i64 x.id)) (by kernel_rfl) ?_
    change wpAnyH _ _ _ _ _ _ _ _ (World.drew _)
    refine takeY 23 (i := 0) (v := ?v0a) rfl rfl (by kernel_rfl) (by kernel_rfl) (by kernel_rfl) (fun _ _ _ h => h) (by kernel_rfl) ?y0a hS0 ?_
    case y0a =>
      intro w' hw'; (try dsimp only at hw'); clear hw'; go_simp; try with_reducible rfl
    simp only [Act.put, List.setIfInBounds_toArray, List.set_cons_zero, List.set_cons_succ]
    refine takeY 24 (i := 1) (v := ?v1a) rfl rfl (by kernel_rfl) (by kernel_rfl) (by kernel_rfl) (fun _ _ _ h => h) (by kernel_rfl) ?y1a hS0 ?_
    case y1a =>
      intro w' hw'; (try dsimp only at hw'); clear hw'; go_simp; try with_reducible rfl
    simp only [Act.put, List.setIfInBounds_toArray, List.set_cons_zero, List.set_cons_succ]
    refine takeY 25 (i := 2) (v := ?v2a) rfl rfl (by kernel_rfl) (by kernel_rfl) (by kernel_rfl) (fun _ _ _ h => h) (by kernel_rfl) ?y2a hS0 ?_
    case y2a =>
      intro w' hw'; (try dsimp only at hw'); clear hw'; go_simp; try with_reducible rfl
    simp only [Act.put, List.setIfInBounds_toArray, List.set_cons_zero, List.set_cons_succ]
    refine takeY 26 (i := 3) (v := ?v3a) rfl rfl (by kernel_rfl) (by kernel_rfl) (by kernel_rfl) (fun _ _ _ h => h) (by kernel_rfl) ?y3a hS0 ?_
    case y3a =>
      intro w' hw'; (try dsimp only at hw'); clear hw'; go_simp; try with_reducible rfl
    simp only [Act.put, List.setIfInBounds_toArray, List.set_cons_zero, List.set_cons_succ]
    refine takeY 27 (i := 4) (v := ?v4a) rfl rfl (by kernel_rfl) (by kernel_rfl) (by kernel_rfl) (fun _ _ _ h => h) (by kernel_rfl) ?y4a hS0 ?_
    case y4a =>
      intro w' hw'; (try dsimp only at hw'); clear hw'; go_simp; try with_reducible rfl
    simp only [Act.put, List.setIfInBounds_toArray, List.set_cons_zero, List.set_cons_succ]
    refine takeY 28 (i := 5) (v := ?v5a) rfl rfl (by kernel_rfl) (by kernel_rfl) (by kernel_rfl) (fun _ _ _ h => h) (by kernel_rfl) ?y5a hS0 ?_
    case y5a =>
      intro w' hw'; (try dsimp only at hw'); clear hw'; go_simp; try with_reducible rfl
    simp only [Act.put, List.setIfInBounds_toArray, List.set_cons_zero, List.set_cons_succ]
    refine wpAnyH_ready (rs := [6]) (by kernel_rfl) (by simp) ?_
    refine AllReadyH.cons rfl (fun K hK => ?_) AllReadyH.nil
    go_simp; go_at_call 67; refine (below_any (n : Int) (by omega) w3.drew g a len cap hlen (HC3.out.kept rfl) w.heap.size hgw (HR.out.below (HB3.out.drew))).mono ?_; rintro e w4 ⟨r, rfl, hr, hc4, hg4⟩; obtain ⟨h0, h1⟩ := hr.2 (by omega); obtain ⟨rr, rfl⟩ := Int.eq_ofNat_of_zero_le h0; have hrr : rr < n := (by omega); obtain ⟨_, _, x, -, -, hx, -⟩ := HI2.out.now.at rr hrr; have HXx := Lib.hid hx; have HG4 := Lib.hid hg4; clear hr hx hc4 hg4 h0
    refine hK.out _ _ (HS.out _ HG4.out) (fun hS1 => ?_)
    clear hK K
    try simp only [Act.put, List.setIfInBounds_toArray, List.set_cons_zero, List.set_cons_succ]
    refine takeY 30 (i := 7) (v := ?v7a) rfl rfl (by kernel_rfl) (by kernel_rfl) (by kernel_rfl) (fun _ _ _ h => h) (by kernel_rfl) ?y7a hS1 ?_
    case y7a =>
      intro w' hw'; (try dsimp only at hw'); have f9 := hw' rr x HXx.out; go_simp; try with_reducible rfl
    simp only [Act.put, List.setIfInBounds_toArray, List.set_cons_zero, List.set_cons_succ]
    refine takeY 31 (i := 8) (v := ?v8a) rfl rfl (by kernel_rfl) (by kernel_rfl) (by kernel_rfl) (fun _ _ _ h => h) (by kernel_rfl) ?y8a hS1 ?_
    case y8a =>
      intro w' hw'; (try dsimp only at hw'); have f9 := hw' rr x HXx.out; go_simp; try with_reducible rfl
    simp only [Act.put, List.setIfInBounds_toArray, List.set_cons_zero, List.set_cons_succ]
    refine takeY 32 (i := 9) (v := ?v9a) rfl rfl (by kernel_rfl) (by kernel_rfl) (by kernel_rfl) (fun _ _ _ h => h) (by kernel_rfl) ?y9a hS1 ?_
    case y9a =>
      intro w' hw'; (try dsimp only at hw'); have f9 := hw' rr x HXx.out; go_simp; try with_reducible rfl
    simp only [Act.put, List.setIfInBounds_toArray, List.set_cons_zero, List.set_cons_succ]
    refine takeY 2 (i := 10) (v := ?v10a) rfl rfl (by kernel_rfl) (by kernel_rfl) (by kernel_rfl) (fun _ _ _ h => h) (by kernel_rfl) ?y10a hS1 ?_
    case y10a =>
      intro w' hw'; (try dsimp only at hw'); have f9 := hw' rr x HXx.out; go_simp; try with_reducible rfl
    simp only [Act.put, List.setIfInBounds_toArray, List.set_cons_zero, List.set_cons_succ]
    refine takeY 3 (i := 11) (v := ?v11a) rfl rfl (by kernel_rfl) (by kernel_rfl) (by kernel_rfl) (fun _ _ _ h => h) (by kernel_rfl) ?y11a hS1 ?_
    case y11a =>
      intro w' hw'; (try dsimp only at hw'); have f9 := hw' rr x HXx.out; go_simp; try with_reducible rfl
    simp only [Act.put, List.setIfInBounds_toArray, List.set_cons_zero, List.set_cons_succ]
    refine takeY 4 (i := 12) (v := ?v12a) rfl rfl (by kernel_rfl) (by kernel_rfl) (by kernel_rfl) (fun _ _ _ h => h) (by kernel_rfl) ?y12a hS1 ?_
    case y12a =>
      intro w' hw'; (try dsimp only at hw'); have f9 := hw' rr x HXx.out; go_simp; try with_reducible rfl
    simp only [Act.put, List.setIfInBounds_toArray, List.set_cons_zero, List.set_cons_succ]
    refine wpAnyH_done (by kernel_rfl) ?_ _
    obtain ⟨hrl, rfl⟩ := List.getElem?_eq_some_iff.1 HXx.out
    have HF := Lib.hid (HFin.out w4 its[rr].id (grown_trans (grown_drew HG3.out) HG4.out))
    clear hS0 hS1
    go_wp2
    go_ret3
    exact HF.out
  · go_wp2_with fail
    refine (below_any 9 (by omega) _ g a len cap hlen HC3.out w.heap.size hgw (HR.out.below HB3.out)).mono ?_
    rintro e w4 ⟨u, rfl, hu, hc4, hg4⟩
    obtain ⟨hu0, hu1⟩ := hu.2 (by omega)
    have HF := Lib.hid (HFin.out w4 (u - 1) (grown_trans HG3.out hg4))
    clear hu hc4 hg4
    go_wp2
    go_ret3
    exact HF.out
set_option maxRecDepth 20000 in
theorem draw_dom (w : World) (a : Option Addr) (len cap : Nat) (hlen : len ≤ 1048576) (hrow : Row w w.heap.size a len) :
    Calls Try.prog 11 #[.slice a len cap] w (OutL w) := by
  have HR := Lib.hid (draw_id w a len cap hlen hrow)
  clear hrow
  go_enter Try.func11, Try.ntmps11
  go_wp2_with fail
  refine HR.out.mono ?_
  rintro e w1 ⟨A, n, c, its, A', n', c', ns, x, rfl, hI, hN, hb⟩
  have HF : Hid (OutL w (.returned (.tuple #[.slice A n c, .slice A' n' c', .int .i64 x])) w1) := Lib.hid ⟨A, n, c, its, A', n', c', ns, x, rfl, hI, hN, hb⟩
  clear hI hN hb
  go_wp2
  go_ret3
  exact HF.out
end Go.Proofs.Ytadjoiahllekdaa.num
namespace Go.Proofs.Ytadjoiahllekdaa.num
set_option maxRecDepth 20000
open Go.RowKit Go.Maps
set_option linter.unusedVariables false

end Go.Proofs.Ytadjoiahllekdaa.num
namespace Go.Proofs.Ytadjoiahllekdaa.num
set_option maxRecDepth 20000
open Go.RowKit Go.Maps
set_option linter.unusedVariables false

end Go.Proofs.Ytadjoiahllekdaa.num
namespace Go.Proofs.Ytadjoiahllekdaa.num
set_option maxRecDepth 20000
open Go.RowKit Go.Maps
set_option linter.unusedVariables false

/-- The value of an item's field. -/
def fval (t : It) (f : Int) : Int := t.xs.getD f.toNat 0
theorem fval_in {t : It} (h : IsP t.dat) {f : Int} (hf : 0 ≤ f ∧ f ≤ 2) : InR (fval t f) := by
  obtain ⟨h1, _, h3⟩ := h
  have hl : t.xs.length = 3 := h3
  unfold fval
  rw [List.getD_eq_getElem?_getD, List.getElem?_eq_getElem (by omega)]
  exact h1 _ (List.getElem_mem _)
theorem fval_dat {t t' : It} (h : t'.dat = t.dat) (f : Int) : fval t' f = fval t f := by unfold fval; rw [show t'.xs = t.xs from congrArg Prod.snd h]
theorem cmpV_dat {t t' : Wi} {x x' y y' : It} {q : Bool} (h : t'.dat = t.dat) (hx : x'.dat = x.dat) (hy : y'.dat = y.dat) : cmpV t'.dat q (fval x' t'.field) (fval y' t'.field) = cmpV t.dat q (fval x t.field) (fval y t.field) := by
  rw [h, fval_dat hx, fval_dat hy, show t'.field = t.field from congrArg WD.field h]
/-- The cell of an item's field. -/
theorem fval_cell {w : World} {B : Nat} {t : It} (hi : Ints w B t.A t.n t.xs) (h : IsP t.dat) {f : Int} (hf : 0 ≤ f ∧ f ≤ 2) : ∃ b off : Nat, t.A = some ⟨b, off, none⟩ ∧ b < B ∧ (f.toNat : Int) = f ∧ f < (t.n : Int) ∧ w.cell? ⟨b, off + f.toNat, none⟩ = some (.int .i64 (fval t f)) := by
  have hl : t.xs.length = 3 := h.2.2
  have hn : t.n = 3 := hi.1.symm.trans hl
  obtain ⟨b, off, h1, h2, h3⟩ := hi.2 f.toNat (by omega)
  exact ⟨b, off, h1, h2, by omega, by omega, h3⟩

end Go.Proofs.Ytadjoiahllekdaa.num
namespace Go.Proofs.Ytadjoiahllekdaa.num
set_option maxRecDepth 20000
open Go.RowKit Go.Maps
set_option linter.unusedVariables false
set_option linter.unusedSimpArgs false

/-- What each wish says of two items. -/
def wishF (x y : It) (d : WD) : Int := cmpW d (fval x d.field) (fval y d.field)
theorem cmpW_code (d : WD) (a b : Int) : Code (cmpW d a b) := by
  unfold cmpW Code
  split
  · split
    · omega
    · split
      · omega
      · split <;> omega
  · split
    · omega
    · split <;> omega
theorem wishF_code (x y : It) (d : WD) : Code (wishF x y d) := cmpW_code _ _ _
theorem wishF_dat {x x' y y' : It} (hx : x'.dat = x.dat) (hy : y'.dat = y.dat) : wishF x' y' = wishF x y := by
  funext d
  unfold wishF
  rw [fval_dat hx, fval_dat hy]
/-- The taste's comparison, whatever it is. -/
def TasteCalls (w : World) (T : TypeId) (g : FuncId) (v : Value) (a b z : Int) : Prop :=
  ∃ x, v = .iface T x ∧ (∀ w1, (method 281 T x "loop.example/g01987/impl.compare").run Try.prog w1 = .ok (g, x) w1) ∧ (∀ w1, (nilAhead 281 T x "loop.example/g01987/impl.compare").run Try.prog w1 = .ok (some false) w1) ∧
    ∀ w1, Below w.heap.size w w1 → Calls Try.prog g #[x, .int .i64 a, .int .i64 b] w1 fun e w' => e = .returned (.int .i64 z) ∧ Below w1.heap.size w1 w'
theorem tasteCalls {w : World} {B : Nat} {t : Wi} {v : Value} (hB : B ≤ w.heap.size) (h : TasteAt w t v) (hi : WiIn w B t) (hn : t.Short) {a b : Int} (ha : InR a) (hb : InR b) : TasteCalls w 147 140 v a b (cmpW t.dat a b) ∨ TasteCalls w 149 145 v a b (cmpW t.dat a b) ∨ TasteCalls w 154 147 v a b (cmpW t.dat a b) := by
  rcases h with ⟨h4, c, hc, rfl, hr⟩ | ⟨h4, rfl, hr⟩ | ⟨h4, o, B2, rfl, hab⟩
  · refine .inl ⟨_, rfl, near_cmp_m c, near_cmp_n c, fun w1 h1 => ?_⟩
    rw [show cmpW t.dat a b = (if (if a < c then c - a else a - c) < (if b < c then c - b else b - c) then 1 else if (if b < c then c - b else b - c) < (if a < c then c - a else a - c) then -1 else 0) by unfold cmpW; rw [if_neg (show ¬ t.dat.kind = 4 from h4), hr _ ha, hr _ hb]]
    exact nearCmp w1 c a b hc ha hb
  · refine .inr (.inl ⟨_, rfl, among_cmp_m _ _ _, among_cmp_n _ _ _, fun w1 h1 => ?_⟩)
    rw [show cmpW t.dat a b = (if (if a ∈ t.ls then (0 : Int) else 1) < (if b ∈ t.ls then (0 : Int) else 1) then 1 else if (if b ∈ t.ls then (0 : Int) else 1) < (if a ∈ t.ls then (0 : Int) else 1) then -1 else 0) by unfold cmpW; rw [if_neg (show ¬ t.dat.kind = 4 from h4), hr, hr]]
    exact amongCmp w1 B t.LA t.Ln t.Lc t.ls a b (hi.l.below (h1.mono hB)) (Nat.le_trans hB h1.size) hn.1
  · refine .inr (.inr ⟨_, rfl, order_cmp_m o, order_cmp_n o, fun w1 h1 => ?_⟩)
    rw [show cmpW t.dat a b = (if a = b then 0 else if rb t.ps a b = true then 1 else if rb t.ps b a = true then -1 else 2) by unfold cmpW; rw [if_pos (show t.dat.kind = 4 from h4)]; rfl]
    exact orderCmp w1 B2 o t.ps (hab.below h1) a b ha hb

set_option maxRecDepth 20000 in
set_option maxHeartbeats 3200000 in
theorem iCompare (B lo : Nat) (x y : It) (hpx : IsP x.dat) (hpy : IsP y.dat) : ∀ (t : Tr) (p : Nat) (w : World), PartAt w B lo t p → B ≤ w.heap.size → Ints w B x.A x.n x.xs → Ints w B y.A y.n y.xs →
    Calls Try.prog 77 #[.pointer (some ⟨p, 0, none⟩), x.val, y.val] w fun e w' => e = .returned (.int .i64 (cmpT (wishF x y) t)) ∧ Below w.heap.size w w' := by
  have hvx : x.val = .agg #[.int .i64 x.id, .slice x.A x.n x.c] := rfl
  have hvy : y.val = .agg #[.int .i64 y.id, .slice y.A y.n y.c] := rfl
  intro t
  induction t with
  | base d =>
    intro p w hp hB hix hiy
    rw [hvx, hvy]
    clear hvx hvy
    obtain ⟨_, hpl, t, v, hrow, rfl, hsh, hwi, hw, hta⟩ := hp
    have c0 := part0 hrow
    have c2 := part2 hrow
    have c6 := part6 hrow
    clear hrow
    have hf : 0 ≤ t.field ∧ t.field ≤ 2 := hw.f
    have HZ : Hid (cmpT (wishF x y) (.base t.dat) = cmpW t.dat (fval x t.field) (fval y t.field)) := Lib.hid rfl
    rw [HZ.out]
    rcases tasteCalls hB hta.at' hwi hsh (fval_in hpx hf) (fval_in hpy hf) with ⟨tx, rfl, hm, hm2, hcall⟩ | ⟨tx, rfl, hm, hm2, hcall⟩ | ⟨tx, rfl, hm, hm2, hcall⟩
    all_goals
      obtain ⟨bx, ox, hxA, hbx, hfn, hfx, cx0⟩ := fval_cell hix hpx hf
      obtain ⟨by', oy, hyA, hby, -, hfy, cy0⟩ := fval_cell hiy hpy hf
      generalize cmpW t.dat (fval x t.field) (fval y t.field) = z at *
      have HC := Lib.hid hcall
      have HW2 : Hid (Below w.heap.size w ((w.alloc (.cells #[.int .i64 x.id, .slice x.A x.n x.c] 58)).alloc (.cells #[.int .i64 y.id, .slice y.A y.n y.c] 58))) := Lib.hid (((Below.refl _ w).alloc (Nat.le_refl _) _).alloc (by simp) _)
      have hbx3 : bx < w.heap.size := by omega
      have hby3 : by' < w.heap.size := by omega
      have hfw : IntKind.i64.wrap t.field = t.field := IntWalk.i64_in _ ⟨by omega, by omega⟩
      have hf0 := hf.1
      clear hcall hix hiy hwi hw hta hsh hpx hpy hf HZ
      generalize fval x t.field = vx at *
      generalize fval y t.field = vy at *
      obtain ⟨xi, xA, xn, xc, xxs⟩ := x
      obtain ⟨yi, yA, yn, yc, yxs⟩ := y
      dsimp only at *
      subst hxA hyA
      have d2 := (HW2.out.cell (p := ⟨p, 2, none⟩) hpl).trans c2
      have d6 := (HW2.out.cell (p := ⟨p, 6, none⟩) hpl).trans c6
      have dx := (HW2.out.cell (p := ⟨bx, ox + t.field.toNat, none⟩) hbx3).trans cx0
      have dy := (HW2.out.cell (p := ⟨by', oy + t.field.toNat, none⟩) hby3).trans cy0
      have Xx := Lib.hid ((Box2.new w ⟨xi, some ⟨bx, ox, none⟩, xn, xc, []⟩ 58).alloc (.cells #[.int .i64 yi, .slice (some ⟨by', oy, none⟩) yn yc] 58))
      have Xy := Lib.hid (Box2.new (w.alloc (.cells #[.int .i64 xi, .slice (some ⟨bx, ox, none⟩) xn xc] 58)) ⟨yi, some ⟨by', oy, none⟩, yn, yc, []⟩ 58)
      obtain ⟨-, x_0, x_1⟩ := Xx.out
      obtain ⟨-, y_0, y_1⟩ := Xy.out
      rw [World.size_alloc] at y_0 y_1
      clear Xx Xy
      go_enter Try.func77, Try.ntmps77
      go_wp2
      generalize ((w.alloc (.cells #[.int .i64 xi, .slice (some ⟨bx, ox, none⟩) xn xc] 58)).alloc (.cells #[.int .i64 yi, .slice (some ⟨by', oy, none⟩) yn yc] 58)) = w0 at *
      clear c0 c2 c6 cx0 cy0
      go_still_tail 26, (by kernel_rfl)
      change wpList _ _ _ _ _ w0.drew
      generalize hw1 : w0.drew = w1 at *
      have HB1 : Hid (Below w.heap.size w w1) := Lib.hid (hw1 ▸ HW2.out.drew)
      clear d2 d6 dx dy x_0 x_1 y_0 y_1 hw1
      go_wp2_with fail
      refine (HC.out _ HB1.out).mono ?_
      rintro e w2 ⟨rfl, hb2⟩
      have HB2 := Lib.hid (below_on HB1.out hb2)
      clear hb2
      go_wp2
      go_ret
      exact ⟨rfl, HB2.out⟩
  | dual a ih =>
    intro p w hp hB hix hiy
    rw [hvx, hvy] at ih ⊢
    obtain ⟨_, hpl, t, q, hrow, -, -, -, hpa⟩ := hp
    have c0 := part0 hrow
    have c7 := part7 hrow
    clear hrow
    have HIH : Hid (∀ w1, Below w.heap.size w w1 → Calls Try.prog 77 #[.pointer (some ⟨q, 0, none⟩), .agg #[.int .i64 x.id, .slice x.A x.n x.c], .agg #[.int .i64 y.id, .slice y.A y.n y.c]] w1 fun e w' => e = .returned (.int .i64 (cmpT (wishF x y) a)) ∧ Below w1.heap.size w1 w') := Lib.hid fun w1 h => ih q w1 (hpa.below hB h) (Nat.le_trans hB h.size) (hix.below (h.mono hB)) (hiy.below (h.mono hB))
    have HZ : Hid (cmpT (wishF x y) (.dual a) = revC (cmpT (wishF x y) a)) := Lib.hid rfl
    rw [HZ.out]
    generalize cmpT (wishF x y) a = z at *
    clear HZ ih hix hiy hpa hvx hvy
    have HW2 : Hid (Below w.heap.size w ((w.alloc (.cells #[.int .i64 x.id, .slice x.A x.n x.c] 58)).alloc (.cells #[.int .i64 y.id, .slice y.A y.n y.c] 58))) := Lib.hid (((Below.refl _ w).alloc (Nat.le_refl _) _).alloc (by simp) _)
    have HP0 : Hid (w.cell? ⟨p, 0, none⟩ = some (.int .i64 3)) := Lib.hid c0
    have d7 := (HW2.out.cell (p := ⟨p, 7, none⟩) hpl).trans c7
    have Xx := Lib.hid ((Box2.new w x 58).alloc (.cells #[.int .i64 y.id, .slice y.A y.n y.c] 58))
    have Xy := Lib.hid (Box2.new (w.alloc (.cells #[.int .i64 x.id, .slice x.A x.n x.c] 58)) y 58)
    obtain ⟨-, x_0, x_1⟩ := Xx.out
    obtain ⟨-, y_0, y_1⟩ := Xy.out
    rw [World.size_alloc] at y_0 y_1
    clear Xx Xy
    go_enter Try.func77, Try.ntmps77
    go_wp2
    generalize ((w.alloc (.cells #[.int .i64 x.id, .slice x.A x.n x.c] 58)).alloc (.cells #[.int .i64 y.id, .slice y.A y.n y.c] 58)) = w0 at *
    clear c0 c7
    go_still_tail 6, (by kernel_rfl)
    change wpList _ _ _ _ _ w0.drew
    generalize hw1 : w0.drew = w1 at *
    have HB1 : Hid (Below w.heap.size w w1) := Lib.hid (hw1 ▸ HW2.out.drew)
    clear d7 x_0 x_1 y_0 y_1 hw1
    go_wp2_with fail
    refine (HIH.out _ HB1.out).mono ?_
    rintro e w2 ⟨rfl, hb2⟩
    have HB2 := Lib.hid (below_on HB1.out hb2)
    have c0 := (HB2.out.cell (p := ⟨p, 0, none⟩) hpl).trans HP0.out
    clear hb2
    go_wp2_with fail
    refine (iRev w2 z).mono ?_
    rintro e w3 ⟨rfl, rfl⟩
    go_wp2
    go_ret
    exact ⟨rfl, HB2.out⟩
  | bin op a b iha ihb =>
    intro p w hp hB hix hiy
    rw [hvx, hvy] at iha ihb ⊢
    obtain ⟨_, hpl, hop, t, q, r, hrow, -, -, -, hpa, hpb⟩ := hp
    have c0 := part0 hrow
    have c7 := part7 hrow
    have c8 := part8 hrow
    clear hrow
    have HIA : Hid (∀ w1, Below w.heap.size w w1 → Calls Try.prog 77 #[.pointer (some ⟨q, 0, none⟩), .agg #[.int .i64 x.id, .slice x.A x.n x.c], .agg #[.int .i64 y.id, .slice y.A y.n y.c]] w1 fun e w' => e = .returned (.int .i64 (cmpT (wishF x y) a)) ∧ Below w1.heap.size w1 w') := Lib.hid fun w1 h => iha q w1 (hpa.below hB h) (Nat.le_trans hB h.size) (hix.below (h.mono hB)) (hiy.below (h.mono hB))
    have HIB : Hid (∀ w1, Below w.heap.size w w1 → Calls Try.prog 77 #[.pointer (some ⟨r, 0, none⟩), .agg #[.int .i64 x.id, .slice x.A x.n x.c], .agg #[.int .i64 y.id, .slice y.A y.n y.c]] w1 fun e w' => e = .returned (.int .i64 (cmpT (wishF x y) b)) ∧ Below w1.heap.size w1 w') := Lib.hid fun w1 h => ihb r w1 (hpb.below hB h) (Nat.le_trans hB h.size) (hix.below (h.mono hB)) (hiy.below (h.mono hB))
    have HZ : Hid (cmpT (wishF x y) (.bin op a b) = opC op (cmpT (wishF x y) a) (cmpT (wishF x y) b)) := Lib.hid rfl
    have HCa := Lib.hid (cmpT_code (wishF_code x y) a)
    have HCb := Lib.hid (cmpT_code (wishF_code x y) b)
    rw [HZ.out]
    generalize cmpT (wishF x y) a = za at *
    generalize cmpT (wishF x y) b = zb at *
    obtain ⟨zz, hzz⟩ : ∃ zz, opC op za zb = zz := ⟨_, rfl⟩
    rw [hzz]
    have HV := Lib.hid hzz
    clear hzz
    clear HZ iha ihb hix hiy hpa hpb hvx hvy
    have HW2 : Hid (Below w.heap.size w ((w.alloc (.cells #[.int .i64 x.id, .slice x.A x.n x.c] 58)).alloc (.cells #[.int .i64 y.id, .slice y.A y.n y.c] 58))) := Lib.hid (((Below.refl _ w).alloc (Nat.le_refl _) _).alloc (by simp) _)
    have HP0 : Hid (w.cell? ⟨p, 0, none⟩ = some (.int .i64 op)) := Lib.hid c0
    have HP8 : Hid (w.cell? ⟨p, 8, none⟩ = some (.pointer (some ⟨r, 0, none⟩))) := Lib.hid c8
    have d7 := (HW2.out.cell (p := ⟨p, 7, none⟩) hpl).trans c7
    have f0 : (op == 0) = false := by have := (bin_ne hop).1; simpa using this
    have f3 : (op == 3) = false := by have := (bin_ne hop).2; simpa using this
    have HOp : Hid (op = 1 ∨ op = 2 ∨ op = 4) := Lib.hid hop
    clear hop
    have Xx := Lib.hid ((Box2.new w x 58).alloc (.cells #[.int .i64 y.id, .slice y.A y.n y.c] 58))
    have Xy := Lib.hid (Box2.new (w.alloc (.cells #[.int .i64 x.id, .slice x.A x.n x.c] 58)) y 58)
    obtain ⟨-, x_0, x_1⟩ := Xx.out
    obtain ⟨-, y_0, y_1⟩ := Xy.out
    rw [World.size_alloc] at y_0 y_1
    clear Xx Xy
    have HXB := Lib.hid (And.intro x_0 (And.intro x_1 (And.intro y_0 y_1)))
    go_enter Try.func77, Try.ntmps77
    go_wp2
    generalize hw0 : ((w.alloc (.cells #[.int .i64 x.id, .slice x.A x.n x.c] 58)).alloc (.cells #[.int .i64 y.id, .slice y.A y.n y.c] 58)) = w0 at *
    clear c0 c7 c8
    go_still_tail 6, (by kernel_rfl)
    change wpList _ _ _ _ _ w0.drew
    have HX0 : Hid (w.heap.size < w0.heap.size ∧ w.heap.size + 1 < w0.heap.size) := Lib.hid (by rw [← hw0]; simp; omega)
    generalize hw1 : w0.drew = w1 at *
    have HB1 : Hid (Below w.heap.size w w1) := Lib.hid (hw1 ▸ HW2.out.drew)
    have HB01 : Hid (Below w0.heap.size w0 w1) := Lib.hid (hw1 ▸ (Below.refl _ _).drew)
    clear d7 x_0 x_1 y_0 y_1 hw1 hw0
    go_wp2_with fail
    refine (HIA.out _ HB1.out).mono ?_
    rintro e w2 ⟨rfl, hb2⟩
    have HB2 := Lib.hid (below_on HB1.out hb2)
    have HB02 := Lib.hid (below_on HB01.out hb2)
    have c0 := (HB2.out.cell (p := ⟨p, 0, none⟩) hpl).trans HP0.out
    have c8 := (HB2.out.cell (p := ⟨p, 8, none⟩) hpl).trans HP8.out
    obtain ⟨x_0, x_1, y_0, y_1⟩ := HXB.out
    obtain ⟨hx0, hy0⟩ := HX0.out
    replace x_0 := (HB02.out.cell (p := ⟨w.heap.size, 0, none⟩) hx0).trans x_0
    replace x_1 := (HB02.out.cell (p := ⟨w.heap.size, 1, none⟩) hx0).trans x_1
    replace y_0 := (HB02.out.cell (p := ⟨w.heap.size + 1, 0, none⟩) hy0).trans y_0
    replace y_1 := (HB02.out.cell (p := ⟨w.heap.size + 1, 1, none⟩) hy0).trans y_1
    clear hb2
    go_wp2
    go_still_tail 6, (by kernel_rfl)
    change wpList _ _ _ _ _ w2.drew
    generalize hw3 : w2.drew = w3 at *
    have HB3 : Hid (Below w.heap.size w w3) := Lib.hid (hw3 ▸ HB2.out.drew)
    clear c0 c8 x_0 x_1 y_0 y_1 hx0 hy0 hw3
    go_wp2_with fail
    refine (HIB.out _ HB3.out).mono ?_
    rintro e w4 ⟨rfl, hb4⟩
    have HB4 := Lib.hid (below_on HB3.out hb4)
    have c0 := (HB4.out.cell (p := ⟨p, 0, none⟩) hpl).trans HP0.out
    clear hb4
    rcases HOp.out with rfl | rfl | rfl
    · have HR : Hid (zz = if apartC za zb = true then 2 else if za ≠ 0 then za else zb) := Lib.hid (by rw [← HV.out]; exact opC_pareto HCa.out HCb.out)
      clear HV
      go_wp2_with fail
      refine (iDis w4 za zb HCa.out HCb.out).mono ?_
      rintro e w5 ⟨rfl, rfl⟩
      generalize apartC za zb = qa at *
      cases qa
      · by_cases h : za = 0
        · subst h
          obtain rfl : zz = zb := by rw [HR.out]; simp
          go_wp2
          go_ret
          exact ⟨rfl, HB4.out⟩
        · obtain rfl : zz = za := by rw [HR.out, if_neg (by simp), if_pos h]
          have hne : (zz != 0) = true := by simpa using h
          go_wp2
          go_ret
          exact ⟨rfl, HB4.out⟩
      · obtain rfl : zz = 2 := by rw [HR.out, if_pos rfl]
        go_wp2
        go_ret
        exact ⟨rfl, HB4.out⟩
    · have HR : Hid (zz = if za ≠ 0 then za else zb) := Lib.hid (by rw [← HV.out]; rfl)
      clear HV
      by_cases h : za = 0
      · subst h
        obtain rfl : zz = zb := by rw [HR.out]; simp
        go_wp2
        go_ret
        exact ⟨rfl, HB4.out⟩
      · obtain rfl : zz = za := by rw [HR.out, if_pos h]
        have hne : (zz != 0) = true := by simpa using h
        go_wp2
        go_ret
        exact ⟨rfl, HB4.out⟩
    · have HR : Hid (zz = if za = zb then za else 2) := Lib.hid (by rw [← HV.out]; rfl)
      clear HV
      by_cases h : za = zb
      · subst h
        obtain rfl : zz = za := by rw [HR.out, if_pos rfl]
        have hne2 : (zz != zz) = false := by simp
        by_cases h : zz = 0
        · subst h
          go_wp2
          go_ret
          exact ⟨rfl, HB4.out⟩
        · have hne : (zz != 0) = true := by simpa using h
          go_wp2
          go_ret
          exact ⟨rfl, HB4.out⟩
      · obtain rfl : zz = 2 := by rw [HR.out, if_neg h]
        have hne : (za != zb) = true := by simpa using h
        go_wp2
        go_ret
        exact ⟨rfl, HB4.out⟩
end Go.Proofs.Ytadjoiahllekdaa.num
