/- Contracts of functions that the laws of this chapter call, packed. -/
import Derived.Test.YtaijajajpnekbaaWishesMem
import Derived.Test.YtaijajajpnekbaaExpMark
import Derived.Test.YtaijajajpnekbaaExpOpen
import Derived.Test.YtaijajajpnekbaaExpSpec
import Derived.Test.YtaijajajpnekbaaRewA
import Derived.Test.YtaijajajpnekbaaRewB
namespace Go.Proofs.Ytaijajajpnekbaa.num
set_option maxRecDepth 20000
open Go.RowKit
set_option linter.unusedVariables false
set_option linter.unusedSimpArgs false

def markWi (k : Nat) (x : Wi) : Wi := ⟨((k : Nat) : Int), ((k + 1 : Nat) : Int), ((k + 2 : Nat) : Int), x.LA, x.Ln, x.Lc, marks (k + 3) x.ls.length, x.PA, x.Pn, x.Pc, pmarks (k + 3 + x.ls.length) x.ps.length⟩
def cntWi (x : Wi) : Nat := 3 + x.ls.length + 2 * x.ps.length
def markWs : Nat → List Wi → List Wi
  | _, [] => []
  | k, x :: r => markWi k x :: markWs (k + cntWi x) r
def cntWs : List Wi → Nat
  | [] => 0
  | x :: r => cntWi x + cntWs r
theorem cntWs_snoc (l : List Wi) (x : Wi) : cntWs (l ++ [x]) = cntWs l + cntWi x := by
  induction l with
  | nil => simp [cntWs]
  | cons y r ih => simp only [List.cons_append, cntWs, ih]; omega
theorem markWs_snoc (l : List Wi) (x : Wi) : ∀ k, markWs k (l ++ [x]) = markWs k l ++ [markWi (k + cntWs l) x] := by
  induction l with
  | nil => intro k; simp [markWs, cntWs]
  | cons y r ih => intro k; simp only [List.cons_append, markWs, cntWs, ih]; rw [Nat.add_assoc]
theorem markWs_len (l : List Wi) : ∀ k, (markWs k l).length = l.length := by
  induction l with
  | nil => intro k; rfl
  | cons y r ih => intro k; simp [markWs, ih]
theorem markWs_at (l : List Wi) : ∀ (k i : Nat) (x : Wi), l[i]? = some x → (markWs k l)[i]? = some (markWi (k + cntWs (l.take i)) x) := by
  induction l with
  | nil => intro k i x h; simp at h
  | cons y r ih =>
    intro k i x h
    cases i with
    | zero => simp at h; subst h; simp [markWs, cntWs]
    | succ i =>
      have h' : r[i]? = some x := by simpa using h
      simp only [markWs, List.getElem?_cons_succ, List.take_succ_cons, cntWs]
      rw [ih _ i x h', Nat.add_assoc]
/-- Each count of a short list is small. -/
theorem cntWs_le {l : List Wi} (h : ∀ x ∈ l, x.ls.length ≤ 1048576 ∧ x.ps.length ≤ 1048576) : cntWs l ≤ l.length * 3145732 := by
  induction l with
  | nil => simp [cntWs]
  | cons y r ih =>
    have h1 := ih fun x hx => h x (List.mem_cons_of_mem _ hx)
    have h2 := h y (List.mem_cons_self ..)
    simp only [cntWs, cntWi, List.length_cons]
    omega
/-- As far as k, the marks; the rest as it was. -/
theorem markWs_step {l : List Wi} {k k0 : Nat} {x : Wi} (h : l[k]? = some x) : (markWs k0 (l.take k) ++ l.drop k)[k]? = some x ∧ (markWs k0 (l.take k) ++ l.drop k).set k (markWi (k0 + cntWs (l.take k)) x) = markWs k0 (l.take (k + 1)) ++ l.drop (k + 1) := by
  have hlt : k < l.length := by
    rcases Nat.lt_or_ge k l.length with g | g
    · exact g
    · rw [List.getElem?_eq_none g] at h; cases h
  have hl : (markWs k0 (l.take k)).length = k := by rw [markWs_len, List.length_take]; omega
  have hd : l.drop k = x :: l.drop (k + 1) := by
    rw [List.drop_eq_getElem_cons hlt]
    rw [List.getElem?_eq_getElem hlt] at h
    rw [Option.some.inj h]
  refine ⟨by rw [List.getElem?_append_right (by omega), hl, hd]; simp, ?_⟩
  rw [hd, List.set_append_right _ _ (by omega), hl, Nat.sub_self, List.set_cons_zero, ptake_at h, markWs_snoc, List.append_assoc, List.singleton_append]

theorem OwnWs.cells_at {w : World} {B g n c k : Nat} {l : List Wi} {x : Wi} (h : OwnWs w B (.slice (some ⟨g, 0, none⟩) n c) l) (hk : l[k]? = some x) : (∀ (j : Nat) (v : Value), (wishCells x)[j]? = some v → w.cell? ⟨g, k * 5 + j, none⟩ = some v) ∧ ∀ j, w.frozen? ⟨g, j, none⟩ = false := by
  refine ⟨fun j v hv => ?_, fun j => ?_⟩
  · obtain ⟨b, off, e, _, hc⟩ := (h.r.read wishCells_len).at' k x hk
    injection e with e
    injection e with e1 e2
    subst e1 e2
    have := hc j v hv
    rwa [Nat.zero_add] at this
  · rcases h.r.row with ⟨e, _⟩ | ⟨g', cap, f, e, _, _, _, hrow, _⟩
    · cases e
    · injection e with e _ _
      injection e with e
      injection e with e
      subst e
      exact World.rowIs.frozen hrow j
set_option maxRecDepth 20000 in
/-- One element is marked. -/
theorem OwnWs.mark1 {w w5 w6 : World} {B g n c : Nat} {l : List Wi} {k m : Nat} {x : Wi} {u0 : Int} {u1 : Int} {u2 : Int} (hu0 : u0 = ((m : Nat) : Int)) (hu1 : u1 = ((m + 1 : Nat) : Int)) (hu2 : u2 = ((m + 2 : Nat) : Int)) (hm : m ≤ 4700000000000000000) (h : OwnWs w B (.slice (some ⟨g, 0, none⟩) n c) l) (hk : l[k]? = some x)
    (h5 : OnlyV (.slice x.LA x.Ln x.Lc) ((((w.setCell ⟨g, k * 5, none⟩ (.int .i64 u0)).setCell ⟨g, k * 5 + 1, none⟩ (.int .i64 u1)).setCell ⟨g, k * 5 + 2, none⟩ (.int .i64 u2))) w5) (hl : OwnI w5 B (.slice x.LA x.Ln x.Lc) (marks (m + 3) x.ls.length)) (h6 : OnlyV (.slice x.PA x.Pn x.Pc) w5 w6) (hp : OwnP w6 B (.slice x.PA x.Pn x.Pc) (pmarks (m + 3 + x.ls.length) x.ps.length)) :
    OwnWs w6 B (.slice (some ⟨g, 0, none⟩) n c) (l.set k (markWi m x)) ∧ OnlyS (hasWs (.slice (some ⟨g, 0, none⟩) n c) l) w w6 ∧ ∀ b, hasWs (.slice (some ⟨g, 0, none⟩) n c) (l.set k (markWi m x)) b → hasWs (.slice (some ⟨g, 0, none⟩) n c) l b := by
  have hlt : k < l.length := by
    rcases Nat.lt_or_ge k l.length with q | q
    · exact q
    · rw [List.getElem?_eq_none q] at hk; cases hk
  obtain ⟨hwf, hx⟩ := (⟨trivial, h.x k x hk⟩ : True ∧ WiO w B x)
  have hmem : x ∈ l := List.mem_of_getElem? hk
  have a1 : (Value.slice x.LA x.Ln x.Lc).ownBlock ≠ some g := fun e => h.a k x g hk (.inl e) rfl
  have a2 : (Value.slice x.PA x.Pn x.Pc).ownBlock ≠ some g := fun e => h.a k x g hk (.inr e) rfl
  have hoth : ∀ b, b ≠ g → ¬ x.has b → w6.heap[b]? = w.heap[b]? := fun b hb hn => by
    rw [h6.block b fun e => hn (.inr e), h5.block b fun e => hn (.inl e)]
    repeat rw [heap_setCell_other _ _ _ _ (by simpa using hb)]
  have hget : ∀ (i : Nat) (y : Wi), (l.set k (markWi m x))[i]? = some y → (i = k ∧ y = markWi m x) ∨ (i ≠ k ∧ l[i]? = some y) := fun i y hy => by
    by_cases e : i = k
    · subst e
      rw [List.getElem?_set_self hlt] at hy
      exact .inl ⟨rfl, (Option.some.inj hy).symm⟩
    · rw [List.getElem?_set_ne (fun e' => e e'.symm)] at hy
      exact .inr ⟨e, hy⟩
  have hhas : ∀ b, (markWi m x).has b → x.has b := fun b hb => hb
  refine ⟨⟨?_, ?_, ?_, ?_⟩, ?_, ?_⟩
  · rcases h.r.row with ⟨e, _⟩ | ⟨g', cap, f, e, hB, hle, hcap, hrow, hf⟩
    · cases e
    · injection e with e1 e2 e3
      injection e1 with e1
      injection e1 with e1
      subst e1 e2 e3
      have hr6 := World.rowIs.of_block (World.rowIs.of_block (World.rowIs.set (World.rowIs.set (World.rowIs.set hrow (k * 5) (.int .i64 u0)) (k * 5 + 1) (.int .i64 u1)) (k * 5 + 2) (.int .i64 u2)) (h5.block g a1)) (h6.block g a2)
      refine OwnG.of_row wishCells_len hB (by simp) hle hcap hr6 fun j hj => ?_
      rw [fm_set wishCells_len l k _ hlt j hj]
      by_cases e : j / 5 = k
      · obtain ⟨r, hr, rfl⟩ : ∃ r, r < 5 ∧ j = k * 5 + r := ⟨j % 5, Nat.mod_lt _ (by decide), by omega⟩
        rw [if_pos e, show (k * 5 + r) % 5 = r by omega]
        have hold := hf _ hj
        rw [fm_at wishCells_len l k r x hk hr] at hold
        have hr' : r = 0 ∨ r = 1 ∨ r = 2 ∨ r = 3 ∨ r = 4 := by omega
        rcases hr' with rfl | rfl | rfl | rfl | rfl
        · rw [if_neg (by omega), if_neg (by omega), if_pos (by omega)]; exact (congrArg some (congrArg (Value.int .i64) hu0)).symm
        · rw [if_neg (by omega), if_pos rfl]; exact (congrArg some (congrArg (Value.int .i64) hu1)).symm
        · rw [if_pos rfl]; exact (congrArg some (congrArg (Value.int .i64) hu2)).symm
        · rw [if_neg (by omega), if_neg (by omega), if_neg (by omega)]
          exact hold
        · rw [if_neg (by omega), if_neg (by omega), if_neg (by omega)]
          exact hold
      · rw [if_neg e, hf j hj]
        congr 1
        have hj' : ¬ (k * 5 ≤ j ∧ j < k * 5 + 5) := by omega
        rw [if_neg (by omega), if_neg (by omega), if_neg (by omega)]
  · intro i y hy
    rcases hget i y hy with ⟨rfl, rfl⟩ | ⟨hne, hy⟩
    · exact ⟨wf_small (by omega), wf_small (by omega), wf_small (by omega), ownI_blocks hl (fun b hb => h6.block b (hx.a b hb)), hp, hx.a⟩
    · have q2 := h.x i y hy
      refine q2.blocks fun b hb => hoth b (fun e => h.a i y b hy hb (by rw [e]; rfl)) fun hb' => ?_
      rcases Nat.lt_or_gt_of_ne hne with q | q
      · exact h.d i k y x b q hy hk hb hb'
      · exact h.d k i x y b q hk hy hb' hb
  · intro i y b hy hb
    rcases hget i y hy with ⟨rfl, rfl⟩ | ⟨hne, hy⟩
    · exact h.a i x b hk (hhas b hb)
    · exact h.a i y b hy hb
  · intro i j y z b hij hy hz hb hb'
    rcases hget i y hy with ⟨ei, rfl⟩ | ⟨_, hy2⟩ <;> rcases hget j z hz with ⟨ej, rfl⟩ | ⟨_, hz2⟩
    · omega
    · exact h.d i j x z b hij (by rw [ei]; exact hk) hz2 (hhas b hb) hb'
    · exact h.d i j y x b hij hy2 (by rw [ej]; exact hk) hb (hhas b hb')
    · exact h.d i j y z b hij hy2 hz2 hb hb'
  · have hs : ∀ b, x.has b → hasWs (.slice (some ⟨g, 0, none⟩) n c) l b := fun b hb => .inr ⟨x, hmem, hb⟩
    exact (((((OnlyS.refl _ w).set (.inl rfl) _ _).set (.inl rfl) _ _).set (.inl rfl) _ _).trans (h5.s fun b hb => hs b (.inl hb))).trans (h6.s fun b hb => hs b (.inr hb))
  · intro b hb
    rcases hb with hb | ⟨y, hy, hb⟩
    · exact .inl hb
    · obtain ⟨i, hi, rfl⟩ := List.getElem_of_mem hy
      rcases hget i _ (List.getElem?_eq_getElem hi) with ⟨_, e⟩ | ⟨_, hy'⟩
      · rw [e] at hb
        exact .inr ⟨x, hmem, hhas b hb⟩
      · exact .inr ⟨_, List.mem_of_getElem? hy', hb⟩
end Go.Proofs.Ytaijajajpnekbaa.num
namespace Go.Proofs.Ytaijajajpnekbaa.num
set_option maxRecDepth 20000
open Go.RowKit
set_option linter.unusedVariables false

/-- A copy of the nodes ns at block lo. -/
structure CopyN (w : World) (lo n : Nat) (ns ns' : List Nd) : Prop where
  dat : datN ns' = datN ns
  short : ShortN ns'
  own : OwnN w lo (.slice (some ⟨lo, 0, none⟩) n n) ns'
theorem CopyN.step {w w' : World} {lo n : Nat} {ns ns' : List Nd} (h : CopyN w lo n ns ns') (hb : Below w.heap.size w w') : CopyN w' lo n ns ns' := ⟨h.dat, h.short, h.own.below hb⟩
theorem CopyN.nodes {w : World} {lo n : Nat} {ns ns' : List Nd} (h : CopyN w lo n ns ns') : Nodes w w.heap.size (some ⟨lo, 0, none⟩) n ns' := h.own.nodes
theorem CopyN.lt {w : World} {lo n : Nat} {ns ns' : List Nd} (h : CopyN w lo n ns ns') : lo < w.heap.size := h.own.r.tops lo rfl
theorem toNodes_w (w : World) (B : Nat) (A : Option Addr) (n c : Nat) (ns : List Nd) (hi : Nodes w B A n ns) (hB : B ≤ w.heap.size) (hn : n ≤ 1048576) (hN : ShortN ns) :
    Calls Try.prog 12 #[.slice A n c] w fun e w' => ∃ ns', e = .returned (.slice (some ⟨w.heap.size, 0, none⟩) n n) ∧ CopyN w' w.heap.size n ns ns' ∧ Below w.heap.size w w' :=
  (toNodes_c w B A n c ns hi hB hn hN).mono fun _ _ ⟨ns', h1, h2, h3, h4, h5⟩ => ⟨ns', h1, ⟨h2, h3, h4⟩, h5⟩
theorem eqNodes_w (w : World) (lo lo' n : Nat) (ns xs ys : List Nd) (h1 : CopyN w lo n ns xs) (h2 : CopyN w lo' n ns ys) (hn : n ≤ 1048576) :
    Calls Try.prog 14 #[.slice (some ⟨lo, 0, none⟩) n n, .slice (some ⟨lo', 0, none⟩) n n] w fun e w' => e = .returned (.bool true) ∧ Below w.heap.size w w' :=
  eqNodes_c w w.heap.size _ _ n n n n xs ys h1.nodes h2.nodes (Nat.le_refl _) hn h1.short true ⟨fun _ => by have := h1.dat.trans h2.dat.symm; exact this, fun _ => rfl⟩
end Go.Proofs.Ytaijajajpnekbaa.num
namespace Go.Proofs.Ytaijajajpnekbaa.num
set_option maxRecDepth 20000
open Go.RowKit
set_option linter.unusedVariables false

/-- A slice that a call handed back: it lies between the blocks lo and hi. -/
structure ResWs (w : World) (lo hi : Nat) (v : Value) (ts : List Wi) : Prop where
  own : OwnWs w lo v ts
  top : ∀ b, hasWs v ts b → b < hi
  le : hi ≤ w.heap.size
theorem ResWs.new {w : World} {lo : Nat} {v : Value} {ts : List Wi} (h : OwnWs w lo v ts) : ResWs w lo w.heap.size v ts := ⟨h, fun b hb => (h.has_in hb).2, Nat.le_refl _⟩
theorem ResWs.step {w w' : World} {lo hi : Nat} {v : Value} {ts : List Wi} (h : ResWs w lo hi v ts) (hb : Below w.heap.size w w') : ResWs w' lo hi v ts := ⟨h.own.below hb, h.top, Nat.le_trans h.le hb.size⟩
theorem ResWs.only {S : Nat → Prop} {w w' : World} {lo hi : Nat} {v : Value} {ts : List Wi} (h : ResWs w lo hi v ts) (ho : OnlyS S w w') (hs : ∀ b, S b → b < lo ∨ hi ≤ b) : ResWs w' lo hi v ts :=
  ⟨h.own.blocks fun b hb => ho.block b fun e => by
    have h1 := h.top b hb
    have h2 := (h.own.has_in hb).1
    rcases hs b e with q | q <;> omega, h.top, by rw [ho.size]; exact h.le⟩
theorem lensWs {w : World} {B : Nat} {v : Value} {ts : List Wi} (h : OwnWs w B v ts) (hs : ShortWs ts) : ∀ x ∈ ts, x.ls.length ≤ 1048576 ∧ x.ps.length ≤ 1048576 := fun x hx => by
  obtain ⟨k, hk, rfl⟩ := List.getElem_of_mem hx
  have h1 := (h.x k _ (List.getElem?_eq_getElem hk)).wi
  have h2 := hs _ hx
  exact ⟨by rw [h1.l.1]; exact h2.1, by rw [h1.p.1]; exact h2.2⟩
theorem markWs_has {v : Value} (ts : List Wi) : ∀ (k : Nat) (b : Nat), hasWs v (markWs k ts) b → hasWs v ts b := fun k b hb => by
  rcases hb with hb | ⟨y, hy, hb⟩
  · exact .inl hb
  · obtain ⟨i, hi, rfl⟩ := List.getElem_of_mem hy
    have hi' : i < ts.length := by rw [markWs_len] at hi; exact hi
    have h1 := markWs_at ts k i _ (List.getElem?_eq_getElem hi')
    rw [List.getElem?_eq_getElem hi] at h1
    rw [Option.some.inj h1] at hb
    exact .inr ⟨_, List.getElem_mem hi', hb⟩
/-- A slice that a call handed back: it lies between the blocks lo and hi. -/
structure ResN (w : World) (lo hi : Nat) (v : Value) (ts : List Nd) : Prop where
  own : OwnN w lo v ts
  top : ∀ b, hasN v ts b → b < hi
  le : hi ≤ w.heap.size
theorem ResN.new {w : World} {lo : Nat} {v : Value} {ts : List Nd} (h : OwnN w lo v ts) : ResN w lo w.heap.size v ts := ⟨h, fun b hb => (h.has_in hb).2, Nat.le_refl _⟩
theorem ResN.step {w w' : World} {lo hi : Nat} {v : Value} {ts : List Nd} (h : ResN w lo hi v ts) (hb : Below w.heap.size w w') : ResN w' lo hi v ts := ⟨h.own.below hb, h.top, Nat.le_trans h.le hb.size⟩
theorem ResN.only {S : Nat → Prop} {w w' : World} {lo hi : Nat} {v : Value} {ts : List Nd} (h : ResN w lo hi v ts) (ho : OnlyS S w w') (hs : ∀ b, S b → b < lo ∨ hi ≤ b) : ResN w' lo hi v ts :=
  ⟨h.own.blocks fun b hb => ho.block b fun e => by
    have h1 := h.top b hb
    have h2 := (h.own.has_in hb).1
    rcases hs b e with q | q <;> omega, h.top, by rw [ho.size]; exact h.le⟩
theorem lensN {w : World} {B : Nat} {v : Value} {ts : List Nd} (h : OwnN w B v ts) (hs : ShortN ts) : ∀ x ∈ ts, x.t.ls.length ≤ 1048576 ∧ x.t.ps.length ≤ 1048576 := fun x hx => by
  obtain ⟨k, hk, rfl⟩ := List.getElem_of_mem hx
  have h1 := (h.x k _ (List.getElem?_eq_getElem hk)).2.wi
  have h2 := hs _ hx
  exact ⟨by rw [h1.l.1]; exact h2.1, by rw [h1.p.1]; exact h2.2⟩
theorem ResN.eq {w : World} {lo hi lo' hi' : Nat} {A A' : Option Addr} {c c' : Nat} {ts ts' : List Nd} {D : List ND} (h1 : ResN w lo hi (.slice A ts.length c) ts) (h2 : ResN w lo' hi' (.slice A' ts'.length c') ts') (d1 : datN ts = D) (d2 : datN ts' = D) (hn : D.length ≤ 1048576) (hs : ShortN ts) :
    Calls Try.prog 14 #[.slice A ts.length c, .slice A' ts'.length c'] w fun e w' => e = .returned (.bool true) ∧ Below w.heap.size w w' :=
  eqNodes_c w w.heap.size _ _ _ _ _ _ ts ts' h1.own.nodes h2.own.nodes (Nat.le_refl _) (by rw [← d1] at hn; unfold datN at hn; rwa [List.length_map] at hn) hs true ⟨fun _ => d1.trans d2.symm, fun _ => rfl⟩
theorem markN_has {v : Value} (ts : List Nd) : ∀ (k : Nat) (b : Nat), hasN v (markN k ts) b → hasN v ts b := fun k b hb => by
  rcases hb with hb | ⟨y, hy, hb⟩
  · exact .inl hb
  · obtain ⟨i, hi, rfl⟩ := List.getElem_of_mem hy
    have hi' : i < ts.length := by rw [markN_len] at hi; exact hi
    have h1 := markN_at ts k i _ (List.getElem?_eq_getElem hi')
    rw [List.getElem?_eq_getElem hi] at h1
    rw [Option.some.inj h1] at hb
    exact .inr ⟨_, List.getElem_mem hi', hb⟩
theorem ResN.mark {w : World} {lo hi : Nat} {v : Value} {ts : List Nd} (h : ResN w lo hi v ts) (hn : ts.length ≤ 1048576) (hs : ShortN ts) (z : Int) (k0 : Nat) (hz : z = (k0 : Int)) (hk0 : k0 ≤ 1125899906842624) :
    Calls Try.prog 15 #[v, .int .i64 z] w fun e w' => e = .returned (.int .i64 ((k0 + cntN ts : Nat) : Int)) ∧ ResN w' lo hi v (markN k0 ts) ∧ OnlyS (fun b => lo ≤ b ∧ b < hi) w w' := by
  rw [hz]
  refine (markNodeS_c w lo v ts h.own hn (lensN h.own hs) k0 hk0).mono ?_
  rintro e w' ⟨rfl, h1, h2⟩
  refine ⟨rfl, ⟨h1, fun b hb => ?_, by rw [h2.size]; exact h.le⟩, h2.sub fun b hb => ⟨(h.own.has_in hb).1, h.top b hb⟩⟩
  exact h.top b (markN_has ts k0 b hb)
theorem ResN.held {w : World} {lo hi : Nat} {v : Value} {ts : List Nd} {k0 : Nat} (h : ResN w lo hi v (markN k0 ts)) (hn : ts.length ≤ 1048576) (hl : ∀ x ∈ ts, x.t.ls.length ≤ 1048576 ∧ x.t.ps.length ≤ 1048576) (z : Int) (hz : z = (k0 : Int)) (hk0 : k0 ≤ 1125899906842624) :
    Calls Try.prog 16 #[v, .int .i64 z] w fun e w' => e = .returned (.int .i64 ((k0 + cntN ts : Nat) : Int)) ∧ w = w' := by
  rw [hz]
  exact heldNodeS_c w lo v ts k0 h.own hn hl hk0
/-- A copy that the law made, as a slice that a call handed back. -/
theorem CopyN.res {w : World} {lo n : Nat} {ns ns' : List Nd} (h : CopyN w lo n ns ns') : ResN w lo w.heap.size (.slice (some ⟨lo, 0, none⟩) n n) ns' := .new h.own
theorem CopyN.len {w : World} {lo n : Nat} {ns ns' : List Nd} (h : CopyN w lo n ns ns') : ns'.length = n := h.own.nodes.len
theorem OnlyS.lo {lo hi B : Nat} {w w' : World} (h : OnlyS (fun b => lo ≤ b ∧ b < hi) w w') (hB : B ≤ lo) : Below B w w' := h.below fun b hb => Nat.le_trans hB hb.1
end Go.Proofs.Ytaijajajpnekbaa.num
namespace Go.Proofs.Ytaijajajpnekbaa.num
set_option maxRecDepth 20000
open Go.RowKit
set_option linter.unusedVariables false

/-- What ApplyRule answers: whether something was made, and the nodes. -/
def AppA (nds : List ND) (rule pos : Int) (r : Bool) (D : List ND) : Prop := ∃ o, AppD nds rule pos o ∧ o.isSome = r ∧ o.getD nds = D
theorem AppA.ex (nds : List ND) (rule pos : Int) : ∃ r D, AppA nds rule pos r D := by
  obtain ⟨o, ho⟩ := AppD.ex nds rule pos
  exact ⟨_, _, o, ho, rfl, rfl⟩
theorem AppA.len {nds : List ND} {rule pos : Int} {r : Bool} {D : List ND} (h : AppA nds rule pos r D) (hn : nds.length ≤ 1048576) : D.length ≤ 1048576 := by
  obtain ⟨o, ho, _, rfl⟩ := h
  cases o with
  | none => exact hn
  | some x => exact Nat.le_trans (AppY.len ho) (by decide)
theorem SubD.len {nds : List ND} {pos : Int} {out : List ND} (h : SubD nds pos out) : out.length ≤ 1048576 := by
  rcases h with ⟨k, i, s, _, ha, rfl⟩ | ⟨_, rfl⟩
  · exact Nat.le_trans ha.len9 (by decide)
  · exact Nat.zero_le _
theorem sApplyA (w : World) (B : Nat) (A : Option Addr) (n c : Nat) (ns : List Nd) (rule pos : Int) (hi : Nodes w B A n ns) (hB : B ≤ w.heap.size) (hnc : n ≤ c) (hc : c ≤ 9223372036854775807) (hn : n ≤ 1048576) (hN : ShortN ns) (r : Bool) (D : List ND) (h : AppA (datN ns) rule pos r D) :
    Calls Try.prog 17 #[.slice A n c, .int .i64 rule, .int .i64 pos] w fun e w' => ∃ v ns', e = .returned (.tuple #[v, .bool r]) ∧ datN ns' = D ∧ ShortN ns' ∧ OwnN w' w.heap.size v ns' ∧ Below w.heap.size w w' := by
  obtain ⟨o, ho, rfl, rfl⟩ := h
  exact sApply w B A n c ns rule pos hi hB hnc hc hn hN o ho
theorem iApplyA (w : World) (B : Nat) (A : Option Addr) (n c : Nat) (ns : List Nd) (rule pos : Int) (hi : Nodes w B A n ns) (hB : B ≤ w.heap.size) (hnc : n ≤ c) (hc : c ≤ 9223372036854775807) (hn : n ≤ 1048576) (hN : ShortN ns) (r : Bool) (D : List ND) (h : AppA (datN ns) rule pos r D) :
    Calls Try.prog 18 #[.slice A n c, .int .i64 rule, .int .i64 pos] w fun e w' => ∃ v ns', e = .returned (.tuple #[v, .bool r]) ∧ datN ns' = D ∧ ShortN ns' ∧ OwnN w' w.heap.size v ns' ∧ Below w.heap.size w w' := by
  obtain ⟨o, ho, rfl, rfl⟩ := h
  exact iApply w B A n c ns rule pos hi hB hnc hc hn hN o ho
end Go.Proofs.Ytaijajajpnekbaa.num
