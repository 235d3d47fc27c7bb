/- Contracts of functions that the laws of this chapter call, packed. -/
import Derived.Test.YtaijajajpnekbaaGreatExpA
import Derived.Test.YtaijajajpnekbaaGreatExpOpen
import Derived.Test.YtaijajajpnekbaaGreatExpSpec
import Derived.Test.YtaijajajpnekbaaGreatRewA
import Derived.Test.YtaijajajpnekbaaGreatRewB
import Derived.Test.YtaijajajpnekbaaGreatRegion
import Derived.ScopeJumps
namespace Go.Proofs.YtaijajajpnekbaaGreat.num
set_option maxRecDepth 20000
open Go.RowKit
set_option linter.unusedVariables false
set_option linter.unusedSimpArgs false

def markWi (k : Nat) (x : Wi) : Wi := ⟨((k : Nat) : Int), ((k + 1 : Nat) : Int), ((k + 2 : Nat) : Int), x.LA, x.Ln, x.Lc, marks (k + 3) x.ls.length, x.PA, x.Pn, x.Pc, pmarks (k + 3 + x.ls.length) x.ps.length⟩
def cntWi (x : Wi) : Nat := 3 + x.ls.length + 2 * x.ps.length
def markWs : Nat → List Wi → List Wi
  | _, [] => []
  | k, x :: r => markWi k x :: markWs (k + cntWi x) r
def cntWs : List Wi → Nat
  | [] => 0
  | x :: r => cntWi x + cntWs r
theorem cntWs_snoc (l : List Wi) (x : Wi) : cntWs (l ++ [x]) = cntWs l + cntWi x := by
  induction l with
  | nil => simp [cntWs]
  | cons y r ih => simp only [List.cons_append, cntWs, ih]; omega
theorem markWs_snoc (l : List Wi) (x : Wi) : ∀ k, markWs k (l ++ [x]) = markWs k l ++ [markWi (k + cntWs l) x] := by
  induction l with
  | nil => intro k; simp [markWs, cntWs]
  | cons y r ih => intro k; simp only [List.cons_append, markWs, cntWs, ih]; rw [Nat.add_assoc]
theorem markWs_len (l : List Wi) : ∀ k, (markWs k l).length = l.length := by
  induction l with
  | nil => intro k; rfl
  | cons y r ih => intro k; simp [markWs, ih]
theorem markWs_at (l : List Wi) : ∀ (k i : Nat) (x : Wi), l[i]? = some x → (markWs k l)[i]? = some (markWi (k + cntWs (l.take i)) x) := by
  induction l with
  | nil => intro k i x h; simp at h
  | cons y r ih =>
    intro k i x h
    cases i with
    | zero => simp at h; subst h; simp [markWs, cntWs]
    | succ i =>
      have h' : r[i]? = some x := by simpa using h
      simp only [markWs, List.getElem?_cons_succ, List.take_succ_cons, cntWs]
      rw [ih _ i x h', Nat.add_assoc]
/-- Each count of a short list is small. -/
theorem cntWs_le {l : List Wi} (h : ∀ x ∈ l, x.ls.length ≤ 1048576 ∧ x.ps.length ≤ 1048576) : cntWs l ≤ l.length * 3145732 := by
  induction l with
  | nil => simp [cntWs]
  | cons y r ih =>
    have h1 := ih fun x hx => h x (List.mem_cons_of_mem _ hx)
    have h2 := h y (List.mem_cons_self ..)
    simp only [cntWs, cntWi, List.length_cons]
    omega
/-- As far as k, the marks; the rest as it was. -/
theorem markWs_step {l : List Wi} {k k0 : Nat} {x : Wi} (h : l[k]? = some x) : (markWs k0 (l.take k) ++ l.drop k)[k]? = some x ∧ (markWs k0 (l.take k) ++ l.drop k).set k (markWi (k0 + cntWs (l.take k)) x) = markWs k0 (l.take (k + 1)) ++ l.drop (k + 1) := by
  have hlt : k < l.length := by
    rcases Nat.lt_or_ge k l.length with g | g
    · exact g
    · rw [List.getElem?_eq_none g] at h; cases h
  have hl : (markWs k0 (l.take k)).length = k := by rw [markWs_len, List.length_take]; omega
  have hd : l.drop k = x :: l.drop (k + 1) := by
    rw [List.drop_eq_getElem_cons hlt]
    rw [List.getElem?_eq_getElem hlt] at h
    rw [Option.some.inj h]
  refine ⟨by rw [List.getElem?_append_right (by omega), hl, hd]; simp, ?_⟩
  rw [hd, List.set_append_right _ _ (by omega), hl, Nat.sub_self, List.set_cons_zero, ptake_at h, markWs_snoc, List.append_assoc, List.singleton_append]

theorem OwnWs.cells_at {w : World} {B g n c k : Nat} {l : List Wi} {x : Wi} (h : OwnWs w B (.slice (some ⟨g, 0, none⟩) n c) l) (hk : l[k]? = some x) : (∀ (j : Nat) (v : Value), (wishCells x)[j]? = some v → w.cell? ⟨g, k * 5 + j, none⟩ = some v) ∧ ∀ j, w.frozen? ⟨g, j, none⟩ = false := by
  refine ⟨fun j v hv => ?_, fun j => ?_⟩
  · obtain ⟨b, off, e, _, hc⟩ := (h.r.read wishCells_len).at' k x hk
    injection e with e
    injection e with e1 e2
    subst e1 e2
    have := hc j v hv
    rwa [Nat.zero_add] at this
  · rcases h.r.row with ⟨e, _⟩ | ⟨g', cap, f, e, _, _, _, hrow, _⟩
    · cases e
    · injection e with e _ _
      injection e with e
      injection e with e
      subst e
      exact World.rowIs.frozen hrow j
set_option maxRecDepth 20000 in
/-- One element is marked. -/
theorem OwnWs.mark1 {w w5 w6 : World} {B g n c : Nat} {l : List Wi} {k m : Nat} {x : Wi} {u0 : Int} {u1 : Int} {u2 : Int} (hu0 : u0 = ((m : Nat) : Int)) (hu1 : u1 = ((m + 1 : Nat) : Int)) (hu2 : u2 = ((m + 2 : Nat) : Int)) (hm : m ≤ 4700000000000000000) (h : OwnWs w B (.slice (some ⟨g, 0, none⟩) n c) l) (hk : l[k]? = some x)
    (h5 : OnlyV (.slice x.LA x.Ln x.Lc) ((((w.setCell ⟨g, k * 5, none⟩ (.int .i64 u0)).setCell ⟨g, k * 5 + 1, none⟩ (.int .i64 u1)).setCell ⟨g, k * 5 + 2, none⟩ (.int .i64 u2))) w5) (hl : OwnI w5 B (.slice x.LA x.Ln x.Lc) (marks (m + 3) x.ls.length)) (h6 : OnlyV (.slice x.PA x.Pn x.Pc) w5 w6) (hp : OwnP w6 B (.slice x.PA x.Pn x.Pc) (pmarks (m + 3 + x.ls.length) x.ps.length)) :
    OwnWs w6 B (.slice (some ⟨g, 0, none⟩) n c) (l.set k (markWi m x)) ∧ OnlyS (hasWs (.slice (some ⟨g, 0, none⟩) n c) l) w w6 ∧ ∀ b, hasWs (.slice (some ⟨g, 0, none⟩) n c) (l.set k (markWi m x)) b → hasWs (.slice (some ⟨g, 0, none⟩) n c) l b := by
  have hlt : k < l.length := by
    rcases Nat.lt_or_ge k l.length with q | q
    · exact q
    · rw [List.getElem?_eq_none q] at hk; cases hk
  obtain ⟨hwf, hx⟩ := (⟨trivial, h.x k x hk⟩ : True ∧ WiO w B x)
  have hmem : x ∈ l := List.mem_of_getElem? hk
  have a1 : (Value.slice x.LA x.Ln x.Lc).ownBlock ≠ some g := fun e => h.a k x g hk (.inl e) rfl
  have a2 : (Value.slice x.PA x.Pn x.Pc).ownBlock ≠ some g := fun e => h.a k x g hk (.inr e) rfl
  have hoth : ∀ b, b ≠ g → ¬ x.has b → w6.heap[b]? = w.heap[b]? := fun b hb hn => by
    rw [h6.block b fun e => hn (.inr e), h5.block b fun e => hn (.inl e)]
    repeat rw [heap_setCell_other _ _ _ _ (by simpa using hb)]
  have hget : ∀ (i : Nat) (y : Wi), (l.set k (markWi m x))[i]? = some y → (i = k ∧ y = markWi m x) ∨ (i ≠ k ∧ l[i]? = some y) := fun i y hy => by
    by_cases e : i = k
    · subst e
      rw [List.getElem?_set_self hlt] at hy
      exact .inl ⟨rfl, (Option.some.inj hy).symm⟩
    · rw [List.getElem?_set_ne (fun e' => e e'.symm)] at hy
      exact .inr ⟨e, hy⟩
  have hhas : ∀ b, (markWi m x).has b → x.has b := fun b hb => hb
  refine ⟨⟨?_, ?_, ?_, ?_⟩, ?_, ?_⟩
  · rcases h.r.row with ⟨e, _⟩ | ⟨g', cap, f, e, hB, hle, hcap, hrow, hf⟩
    · cases e
    · injection e with e1 e2 e3
      injection e1 with e1
      injection e1 with e1
      subst e1 e2 e3
      have hr6 := World.rowIs.of_block (World.rowIs.of_block (World.rowIs.set (World.rowIs.set (World.rowIs.set hrow (k * 5) (.int .i64 u0)) (k * 5 + 1) (.int .i64 u1)) (k * 5 + 2) (.int .i64 u2)) (h5.block g a1)) (h6.block g a2)
      refine OwnG.of_row wishCells_len hB (by simp) hle hcap hr6 fun j hj => ?_
      rw [fm_set wishCells_len l k _ hlt j hj]
      by_cases e : j / 5 = k
      · obtain ⟨r, hr, rfl⟩ : ∃ r, r < 5 ∧ j = k * 5 + r := ⟨j % 5, Nat.mod_lt _ (by decide), by omega⟩
        rw [if_pos e, show (k * 5 + r) % 5 = r by omega]
        have hold := hf _ hj
        rw [fm_at wishCells_len l k r x hk hr] at hold
        have hr' : r = 0 ∨ r = 1 ∨ r = 2 ∨ r = 3 ∨ r = 4 := by omega
        rcases hr' with rfl | rfl | rfl | rfl | rfl
        · rw [if_neg (by omega), if_neg (by omega), if_pos (by omega)]; exact (congrArg some (congrArg (Value.int .i64) hu0)).symm
        · rw [if_neg (by omega), if_pos rfl]; exact (congrArg some (congrArg (Value.int .i64) hu1)).symm
        · rw [if_pos rfl]; exact (congrArg some (congrArg (Value.int .i64) hu2)).symm
        · rw [if_neg (by omega), if_neg (by omega), if_neg (by omega)]
          exact hold
        · rw [if_neg (by omega), if_neg (by omega), if_neg (by omega)]
          exact hold
      · rw [if_neg e, hf j hj]
        congr 1
        have hj' : ¬ (k * 5 ≤ j ∧ j < k * 5 + 5) := by omega
        rw [if_neg (by omega), if_neg (by omega), if_neg (by omega)]
  · intro i y hy
    rcases hget i y hy with ⟨rfl, rfl⟩ | ⟨hne, hy⟩
    · exact ⟨wf_small (by omega), wf_small (by omega), wf_small (by omega), ownI_blocks hl (fun b hb => h6.block b (hx.a b hb)), hp, hx.a⟩
    · have q2 := h.x i y hy
      refine q2.blocks fun b hb => hoth b (fun e => h.a i y b hy hb (by rw [e]; rfl)) fun hb' => ?_
      rcases Nat.lt_or_gt_of_ne hne with q | q
      · exact h.d i k y x b q hy hk hb hb'
      · exact h.d k i x y b q hk hy hb' hb
  · intro i y b hy hb
    rcases hget i y hy with ⟨rfl, rfl⟩ | ⟨hne, hy⟩
    · exact h.a i x b hk (hhas b hb)
    · exact h.a i y b hy hb
  · intro i j y z b hij hy hz hb hb'
    rcases hget i y hy with ⟨ei, rfl⟩ | ⟨_, hy2⟩ <;> rcases hget j z hz with ⟨ej, rfl⟩ | ⟨_, hz2⟩
    · omega
    · exact h.d i j x z b hij (by rw [ei]; exact hk) hz2 (hhas b hb) hb'
    · exact h.d i j y x b hij hy2 (by rw [ej]; exact hk) hb (hhas b hb')
    · exact h.d i j y z b hij hy2 hz2 hb hb'
  · have hs : ∀ b, x.has b → hasWs (.slice (some ⟨g, 0, none⟩) n c) l b := fun b hb => .inr ⟨x, hmem, hb⟩
    exact (((((OnlyS.refl _ w).set (.inl rfl) _ _).set (.inl rfl) _ _).set (.inl rfl) _ _).trans (h5.s fun b hb => hs b (.inl hb))).trans (h6.s fun b hb => hs b (.inr hb))
  · intro b hb
    rcases hb with hb | ⟨y, hy, hb⟩
    · exact .inl hb
    · obtain ⟨i, hi, rfl⟩ := List.getElem_of_mem hy
      rcases hget i _ (List.getElem?_eq_getElem hi) with ⟨_, e⟩ | ⟨_, hy'⟩
      · rw [e] at hb
        exact .inr ⟨x, hmem, hhas b hb⟩
      · exact .inr ⟨_, List.mem_of_getElem? hy', hb⟩
end Go.Proofs.YtaijajajpnekbaaGreat.num
namespace Go.Proofs.YtaijajajpnekbaaGreat.num
set_option maxRecDepth 20000
open Go.RowKit
set_option linter.unusedVariables false

/-- A copy of the nodes ns at block lo. -/
structure CopyN (w : World) (lo n : Nat) (ns ns' : List Nd) : Prop where
  dat : datN ns' = datN ns
  short : ShortN ns'
  own : OwnN w lo (.slice (some ⟨lo, 0, none⟩) n n) ns'
theorem CopyN.step {w w' : World} {lo n : Nat} {ns ns' : List Nd} (h : CopyN w lo n ns ns') (hb : Below w.heap.size w w') : CopyN w' lo n ns ns' := ⟨h.dat, h.short, h.own.below hb⟩
theorem CopyN.nodes {w : World} {lo n : Nat} {ns ns' : List Nd} (h : CopyN w lo n ns ns') : Nodes w w.heap.size (some ⟨lo, 0, none⟩) n ns' := h.own.nodes
theorem CopyN.lt {w : World} {lo n : Nat} {ns ns' : List Nd} (h : CopyN w lo n ns ns') : lo < w.heap.size := h.own.r.tops lo rfl
end Go.Proofs.YtaijajajpnekbaaGreat.num
namespace Go.Proofs.YtaijajajpnekbaaGreat.num
set_option maxRecDepth 20000
open Go.RowKit
set_option linter.unusedVariables false

/-- A slice that a call handed back: it lies between the blocks lo and hi. -/
structure ResWs (w : World) (lo hi : Nat) (v : Value) (ts : List Wi) : Prop where
  own : OwnWs w lo v ts
  top : ∀ b, hasWs v ts b → b < hi
  le : hi ≤ w.heap.size
theorem ResWs.new {w : World} {lo : Nat} {v : Value} {ts : List Wi} (h : OwnWs w lo v ts) : ResWs w lo w.heap.size v ts := ⟨h, fun b hb => (h.has_in hb).2, Nat.le_refl _⟩
theorem ResWs.step {w w' : World} {lo hi : Nat} {v : Value} {ts : List Wi} (h : ResWs w lo hi v ts) (hb : Below w.heap.size w w') : ResWs w' lo hi v ts := ⟨h.own.below hb, h.top, Nat.le_trans h.le hb.size⟩
theorem ResWs.only {S : Nat → Prop} {w w' : World} {lo hi : Nat} {v : Value} {ts : List Wi} (h : ResWs w lo hi v ts) (ho : OnlyS S w w') (hs : ∀ b, S b → b < lo ∨ hi ≤ b) : ResWs w' lo hi v ts :=
  ⟨h.own.blocks fun b hb => ho.block b fun e => by
    have h1 := h.top b hb
    have h2 := (h.own.has_in hb).1
    rcases hs b e with q | q <;> omega, h.top, by rw [ho.size]; exact h.le⟩
theorem lensWs {w : World} {B : Nat} {v : Value} {ts : List Wi} (h : OwnWs w B v ts) (hs : ShortWs ts) : ∀ x ∈ ts, x.ls.length ≤ 1048576 ∧ x.ps.length ≤ 1048576 := fun x hx => by
  obtain ⟨k, hk, rfl⟩ := List.getElem_of_mem hx
  have h1 := (h.x k _ (List.getElem?_eq_getElem hk)).wi
  have h2 := hs _ hx
  exact ⟨by rw [h1.l.1]; exact h2.1, by rw [h1.p.1]; exact h2.2⟩
theorem markWs_has {v : Value} (ts : List Wi) : ∀ (k : Nat) (b : Nat), hasWs v (markWs k ts) b → hasWs v ts b := fun k b hb => by
  rcases hb with hb | ⟨y, hy, hb⟩
  · exact .inl hb
  · obtain ⟨i, hi, rfl⟩ := List.getElem_of_mem hy
    have hi' : i < ts.length := by rw [markWs_len] at hi; exact hi
    have h1 := markWs_at ts k i _ (List.getElem?_eq_getElem hi')
    rw [List.getElem?_eq_getElem hi] at h1
    rw [Option.some.inj h1] at hb
    exact .inr ⟨_, List.getElem_mem hi', hb⟩
/-- A slice that a call handed back: it lies between the blocks lo and hi. -/
structure ResN (w : World) (lo hi : Nat) (v : Value) (ts : List Nd) : Prop where
  own : OwnN w lo v ts
  top : ∀ b, hasN v ts b → b < hi
  le : hi ≤ w.heap.size
theorem ResN.new {w : World} {lo : Nat} {v : Value} {ts : List Nd} (h : OwnN w lo v ts) : ResN w lo w.heap.size v ts := ⟨h, fun b hb => (h.has_in hb).2, Nat.le_refl _⟩
theorem ResN.step {w w' : World} {lo hi : Nat} {v : Value} {ts : List Nd} (h : ResN w lo hi v ts) (hb : Below w.heap.size w w') : ResN w' lo hi v ts := ⟨h.own.below hb, h.top, Nat.le_trans h.le hb.size⟩
theorem ResN.only {S : Nat → Prop} {w w' : World} {lo hi : Nat} {v : Value} {ts : List Nd} (h : ResN w lo hi v ts) (ho : OnlyS S w w') (hs : ∀ b, S b → b < lo ∨ hi ≤ b) : ResN w' lo hi v ts :=
  ⟨h.own.blocks fun b hb => ho.block b fun e => by
    have h1 := h.top b hb
    have h2 := (h.own.has_in hb).1
    rcases hs b e with q | q <;> omega, h.top, by rw [ho.size]; exact h.le⟩
theorem lensN {w : World} {B : Nat} {v : Value} {ts : List Nd} (h : OwnN w B v ts) (hs : ShortN ts) : ∀ x ∈ ts, x.t.ls.length ≤ 1048576 ∧ x.t.ps.length ≤ 1048576 := fun x hx => by
  obtain ⟨k, hk, rfl⟩ := List.getElem_of_mem hx
  have h1 := (h.x k _ (List.getElem?_eq_getElem hk)).2.wi
  have h2 := hs _ hx
  exact ⟨by rw [h1.l.1]; exact h2.1, by rw [h1.p.1]; exact h2.2⟩
theorem markN_has {v : Value} (ts : List Nd) : ∀ (k : Nat) (b : Nat), hasN v (markN k ts) b → hasN v ts b := fun k b hb => by
  rcases hb with hb | ⟨y, hy, hb⟩
  · exact .inl hb
  · obtain ⟨i, hi, rfl⟩ := List.getElem_of_mem hy
    have hi' : i < ts.length := by rw [markN_len] at hi; exact hi
    have h1 := markN_at ts k i _ (List.getElem?_eq_getElem hi')
    rw [List.getElem?_eq_getElem hi] at h1
    rw [Option.some.inj h1] at hb
    exact .inr ⟨_, List.getElem_mem hi', hb⟩
/-- A copy that the law made, as a slice that a call handed back. -/
theorem CopyN.res {w : World} {lo n : Nat} {ns ns' : List Nd} (h : CopyN w lo n ns ns') : ResN w lo w.heap.size (.slice (some ⟨lo, 0, none⟩) n n) ns' := .new h.own
theorem CopyN.len {w : World} {lo n : Nat} {ns ns' : List Nd} (h : CopyN w lo n ns ns') : ns'.length = n := h.own.nodes.len
theorem OnlyS.lo {lo hi B : Nat} {w w' : World} (h : OnlyS (fun b => lo ≤ b ∧ b < hi) w w') (hB : B ≤ lo) : Below B w w' := h.below fun b hb => Nat.le_trans hB hb.1
end Go.Proofs.YtaijajajpnekbaaGreat.num
namespace Go.Proofs.YtaijajajpnekbaaGreat.num
set_option maxRecDepth 20000
open Go.RowKit
set_option linter.unusedVariables false

/-- What ApplyRule answers: whether something was made, and the nodes. -/
def AppA (nds : List ND) (rule pos : Int) (r : Bool) (D : List ND) : Prop := ∃ o, AppD nds rule pos o ∧ o.isSome = r ∧ o.getD nds = D
theorem AppA.ex (nds : List ND) (rule pos : Int) : ∃ r D, AppA nds rule pos r D := by
  obtain ⟨o, ho⟩ := AppD.ex nds rule pos
  exact ⟨_, _, o, ho, rfl, rfl⟩
theorem AppA.len {nds : List ND} {rule pos : Int} {r : Bool} {D : List ND} (h : AppA nds rule pos r D) (hn : nds.length ≤ 1048576) : D.length ≤ 1048576 := by
  obtain ⟨o, ho, _, rfl⟩ := h
  cases o with
  | none => exact hn
  | some x => exact Nat.le_trans (AppY.len ho) (by decide)
theorem SubD.len {nds : List ND} {pos : Int} {out : List ND} (h : SubD nds pos out) : out.length ≤ 1048576 := by
  rcases h with ⟨k, i, s, _, ha, rfl⟩ | ⟨_, rfl⟩
  · exact Nat.le_trans ha.len9 (by decide)
  · exact Nat.zero_le _
theorem sApplyA (w : World) (B : Nat) (A : Option Addr) (n c : Nat) (ns : List Nd) (rule pos : Int) (hi : Nodes w B A n ns) (hB : B ≤ w.heap.size) (hnc : n ≤ c) (hc : c ≤ 9223372036854775807) (hn : n ≤ 1048576) (hN : ShortN ns) (r : Bool) (D : List ND) (h : AppA (datN ns) rule pos r D) :
    Calls Tryz.prog 7 #[.slice A n c, .int .i64 rule, .int .i64 pos] w fun e w' => ∃ v ns', e = .returned (.tuple #[v, .bool r]) ∧ datN ns' = D ∧ ShortN ns' ∧ OwnN w' w.heap.size v ns' ∧ Below w.heap.size w w' := by
  obtain ⟨o, ho, rfl, rfl⟩ := h
  exact sApply w B A n c ns rule pos hi hB hnc hc hn hN o ho
theorem iApplyA (w : World) (B : Nat) (A : Option Addr) (n c : Nat) (ns : List Nd) (rule pos : Int) (hi : Nodes w B A n ns) (hB : B ≤ w.heap.size) (hnc : n ≤ c) (hc : c ≤ 9223372036854775807) (hn : n ≤ 1048576) (hN : ShortN ns) (r : Bool) (D : List ND) (h : AppA (datN ns) rule pos r D) :
    Calls Tryz.prog 6 #[.slice A n c, .int .i64 rule, .int .i64 pos] w fun e w' => ∃ v ns', e = .returned (.tuple #[v, .bool r]) ∧ datN ns' = D ∧ ShortN ns' ∧ OwnN w' w.heap.size v ns' ∧ Below w.heap.size w w' := by
  obtain ⟨o, ho, rfl, rfl⟩ := h
  exact iApply w B A n c ns rule pos hi hB hnc hc hn hN o ho
end Go.Proofs.YtaijajajpnekbaaGreat.num
namespace Go.Proofs.YtaijajajpnekbaaGreat.num
set_option maxRecDepth 20000
open Go.RowKit
set_option linter.unusedVariables false

/-- A kind of element: its cells, what is asked of one, and the blocks that it owns. -/
structure Kd (α : Type) where
  f : α → List Value
  s : Nat
  T : TypeId
  ok : World → Nat → α → Prop
  has : α → Nat → Prop
  len : ∀ x, (f x).length = s
  blocks : ∀ {w w' : World} {B : Nat} {x : α}, ok w B x → (∀ b, has x b → w'.heap[b]? = w.heap[b]?) → ok w' B x
  inn : ∀ {w : World} {B : Nat} {x : α} {b : Nat}, ok w B x → has x b → B ≤ b ∧ b < w.heap.size
  low : ∀ {w : World} {B B' : Nat} {x : α}, ok w B x → B' ≤ B → ok w B' x
/-- The slice v and all that its elements hold are the call's own, apart from one another. -/
structure OwnX {α : Type} (K : Kd α) (w : World) (B : Nat) (v : Value) (l : List α) : Prop where
  r : OwnG K.T K.f K.s w B v l
  x : ∀ (k : Nat) (x : α), l[k]? = some x → K.ok w B x
  a : ∀ (k : Nat) (x : α) (b : Nat), l[k]? = some x → K.has x b → v.ownBlock ≠ some b
  d : ∀ (i j : Nat) (x y : α) (b : Nat), i < j → l[i]? = some x → l[j]? = some y → K.has x b → ¬ K.has y b
/-- The blocks of the slice v and of its elements. -/
def hasX {α : Type} (K : Kd α) (v : Value) (l : List α) (b : Nat) : Prop := v.ownBlock = some b ∨ ∃ x ∈ l, K.has x b
section
variable {α : Type} {K : Kd α}
theorem OwnX.nil (w : World) (B : Nat) : OwnX K w B (.slice none 0 0) [] := ⟨.nil _ _, by simp, by simp, by simp⟩
theorem OwnX.has_in {w : World} {B : Nat} {v : Value} {l : List α} (h : OwnX K w B v l) {b : Nat} (hb : hasX K v l b) : B ≤ b ∧ b < w.heap.size := by
  rcases hb with hb | ⟨x, hx, hb⟩
  · exact ⟨h.r.lows b hb, h.r.tops b hb⟩
  · obtain ⟨k, hk, rfl⟩ := List.getElem_of_mem hx
    exact K.inn (h.x k _ (List.getElem?_eq_getElem hk)) hb
theorem OwnX.blocks {w w' : World} {B : Nat} {v : Value} {l : List α} (h : OwnX K w B v l) (hb : ∀ b, hasX K v l b → w'.heap[b]? = w.heap[b]?) : OwnX K w' B v l :=
  ⟨h.r.blocks fun k hk => hb k (.inl hk), fun k x hk => K.blocks (h.x k x hk) fun b hb' => hb b (.inr ⟨x, List.mem_of_getElem? hk, hb'⟩), h.a, h.d⟩
theorem OwnX.below {w w' : World} {B : Nat} {v : Value} {l : List α} (h : OwnX K w B v l) (hb : Below w.heap.size w w') : OwnX K w' B v l := h.blocks fun b k => hb.block b (h.has_in k).2
theorem OwnX.low {w : World} {B B' : Nat} {v : Value} {l : List α} (h : OwnX K w B v l) (hB : B' ≤ B) : OwnX K w B' v l := ⟨h.r.low hB, fun k x hk => K.low (h.x k x hk) hB, h.a, h.d⟩
/-- One element more. N: where the grown row lies, if it is a new one. -/
theorem OwnX.snoc {w w' : World} {B N : Nat} {v v' : Value} {l : List α} {x : α} (h : OwnX K w B v l) (hg : w.grownBy w' v.ownBlock) (hat : v'.ownBlock = v.ownBlock ∨ v'.ownBlock = some N) (hN : w.heap.size ≤ N) (hr : OwnG K.T K.f K.s w' B v' (l ++ [x])) (hx : K.ok w B x) (hap : ∀ b, K.has x b → ¬ hasX K v l b) : OwnX K w' B v' (l ++ [x]) := by
  have hin : ∀ (i : Nat) (y : α) (b : Nat), l[i]? = some y → K.has y b → hasX K v l b := fun i y b hy hb => .inr ⟨y, List.mem_of_getElem? hy, hb⟩
  have hnb : ∀ b, K.has x b → some b ≠ v.ownBlock := fun b hb e => hap b hb (.inl e.symm)
  refine ⟨hr, ?_, ?_, ?_⟩
  · intro i y hy
    rcases get_snoc rfl hy with ⟨_, hy⟩ | ⟨_, rfl⟩
    · exact K.blocks (h.x i y hy) fun b hb => hg.block b (K.inn (h.x i y hy) hb).2 fun e => h.a i y b hy hb e.symm
    · exact K.blocks hx fun b hb => hg.block b (K.inn hx hb).2 (hnb b hb)
  · intro i y b hy hb e
    rcases get_snoc rfl hy with ⟨_, hy⟩ | ⟨_, rfl⟩
    · rcases hat with q | q
      · exact h.a i y b hy hb (q ▸ e)
      · have h2 := (h.has_in (hin i y b hy hb)).2
        rw [q] at e
        have := Option.some.inj e
        omega
    · rcases hat with q | q
      · exact hnb b hb (q ▸ e).symm
      · have h2 := (K.inn hx hb).2
        rw [q] at e
        have := Option.some.inj e
        omega
  · intro i j y z b hij hy hz hb hb'
    rcases get_snoc rfl hz with ⟨hj, hz⟩ | ⟨hj, rfl⟩
    · rcases get_snoc rfl hy with ⟨_, hy⟩ | ⟨hi, _⟩
      · exact h.d i j y z b hij hy hz hb hb'
      · omega
    · rcases get_snoc rfl hy with ⟨_, hy⟩ | ⟨hi, _⟩
      · exact hap b hb' (hin i y b hy hb)
      · omega
/-- One element is another, with the same blocks. -/
theorem OwnX.put {w w6 : World} {B : Nat} {v : Value} {l : List α} {k : Nat} {x y : α} (h : OwnX K w B v l) (hk : l[k]? = some x) (hr : OwnG K.T K.f K.s w6 B v (l.set k y)) (hy : K.ok w6 B y) (hhas : ∀ b, K.has y b → K.has x b) (hoth : ∀ b, v.ownBlock ≠ some b → ¬ K.has x b → w6.heap[b]? = w.heap[b]?) :
    OwnX K w6 B v (l.set k y) ∧ ∀ b, hasX K v (l.set k y) b → hasX K v l b := by
  have hlt : k < l.length := by
    rcases Nat.lt_or_ge k l.length with q | q
    · exact q
    · rw [List.getElem?_eq_none q] at hk; cases hk
  have hget : ∀ (i : Nat) (z : α), (l.set k y)[i]? = some z → (i = k ∧ z = y) ∨ (i ≠ k ∧ l[i]? = some z) := fun i z hz => by
    by_cases e : i = k
    · subst e
      rw [List.getElem?_set_self hlt] at hz
      exact .inl ⟨rfl, (Option.some.inj hz).symm⟩
    · rw [List.getElem?_set_ne (fun e' => e e'.symm)] at hz
      exact .inr ⟨e, hz⟩
  refine ⟨⟨hr, ?_, ?_, ?_⟩, ?_⟩
  · intro i z hz
    rcases hget i z hz with ⟨rfl, rfl⟩ | ⟨hne, hz⟩
    · exact hy
    · refine K.blocks (h.x i z hz) fun b hb => hoth b (h.a i z b hz hb) fun hb' => ?_
      rcases Nat.lt_or_gt_of_ne hne with q | q
      · exact h.d i k z x b q hz hk hb hb'
      · exact h.d k i x z b q hk hz hb' hb
  · intro i z b hz hb
    rcases hget i z hz with ⟨rfl, rfl⟩ | ⟨hne, hz⟩
    · exact h.a i x b hk (hhas b hb)
    · exact h.a i z b hz hb
  · intro i j z u b hij hz hu hb hb'
    rcases hget i z hz with ⟨ei, rfl⟩ | ⟨_, hz2⟩ <;> rcases hget j u hu with ⟨ej, rfl⟩ | ⟨_, hu2⟩
    · omega
    · exact h.d i j x u b hij (by rw [ei]; exact hk) hu2 (hhas b hb) hb'
    · exact h.d i j z x b hij hz2 (by rw [ej]; exact hk) hb (hhas b hb')
    · exact h.d i j z u b hij hz2 hu2 hb hb'
  · intro b hb
    rcases hb with hb | ⟨z, hz, hb⟩
    · exact .inl hb
    · obtain ⟨i, hi, rfl⟩ := List.getElem_of_mem hz
      rcases hget i _ (List.getElem?_eq_getElem hi) with ⟨_, e⟩ | ⟨_, hz'⟩
      · rw [e] at hb
        exact .inr ⟨x, List.mem_of_getElem? hk, hhas b hb⟩
      · exact .inr ⟨_, List.mem_of_getElem? hz', hb⟩
theorem OwnX.cells_at {w : World} {B g n c k : Nat} {l : List α} {x : α} (h : OwnX K w B (.slice (some ⟨g, 0, none⟩) n c) l) (hk : l[k]? = some x) : (∀ (j : Nat) (v : Value), (K.f x)[j]? = some v → w.cell? ⟨g, k * K.s + j, none⟩ = some v) ∧ ∀ j, w.frozen? ⟨g, j, none⟩ = false := by
  refine ⟨fun j v hv => ?_, fun j => ?_⟩
  · obtain ⟨b, off, e, _, hc⟩ := (h.r.read K.len).at' k x hk
    injection e with e
    injection e with e1 e2
    subst e1 e2
    have := hc j v hv
    rwa [Nat.zero_add] at this
  · rcases h.r.row with ⟨e, _⟩ | ⟨g', cap, f, e, _, _, _, hrow, _⟩
    · cases e
    · injection e with e _ _
      injection e with e
      injection e with e
      subst e
      exact World.rowIs.frozen hrow j
/-- A slice that a call handed back: its memory from lo up to hi. -/
structure ResX (K : Kd α) (w : World) (lo hi : Nat) (v : Value) (l : List α) : Prop where
  own : OwnX K w lo v l
  top : ∀ b, hasX K v l b → b < hi
  le : hi ≤ w.heap.size
theorem ResX.new {w : World} {lo : Nat} {v : Value} {l : List α} (h : OwnX K w lo v l) : ResX K w lo w.heap.size v l := ⟨h, fun b hb => (h.has_in hb).2, Nat.le_refl _⟩
theorem ResX.step {w w' : World} {lo hi : Nat} {v : Value} {l : List α} (h : ResX K w lo hi v l) (hb : Below w.heap.size w w') : ResX K w' lo hi v l := ⟨h.own.below hb, h.top, Nat.le_trans h.le hb.size⟩
theorem ResX.only {S : Nat → Prop} {w w' : World} {lo hi : Nat} {v : Value} {l : List α} (h : ResX K w lo hi v l) (ho : OnlyS S w w') (hs : ∀ b, S b → b < lo ∨ hi ≤ b) : ResX K w' lo hi v l :=
  ⟨h.own.blocks fun b hb => ho.block b fun e => by
    have h1 := h.top b hb
    have h2 := (h.own.has_in hb).1
    rcases hs b e with q | q <;> omega, h.top, by rw [ho.size]; exact h.le⟩
/-- The marks, one element behind the other: mk k x is x marked from k on, cnt x how many marks it takes. -/
def markG (mk : Nat → α → α) (cnt : α → Nat) : Nat → List α → List α
  | _, [] => []
  | k, x :: r => mk k x :: markG mk cnt (k + cnt x) r
def cntG (cnt : α → Nat) : List α → Nat
  | [] => 0
  | x :: r => cnt x + cntG cnt r
variable {mk : Nat → α → α} {cnt : α → Nat}
theorem cntG_snoc (l : List α) (x : α) : cntG cnt (l ++ [x]) = cntG cnt l + cnt x := by
  induction l with
  | nil => simp [cntG]
  | cons y r ih => simp only [List.cons_append, cntG, ih]; omega
theorem markG_len (l : List α) : ∀ k, (markG mk cnt k l).length = l.length := by
  induction l with
  | nil => intro k; rfl
  | cons y r ih => intro k; simp [markG, ih]
theorem markG_snoc (l : List α) (x : α) : ∀ k, markG mk cnt k (l ++ [x]) = markG mk cnt k l ++ [mk (k + cntG cnt l) x] := by
  induction l with
  | nil => intro k; simp [markG, cntG]
  | cons y r ih => intro k; simp only [List.cons_append, markG, ih, cntG, Nat.add_assoc]
theorem markG_at (l : List α) : ∀ (k i : Nat) (x : α), l[i]? = some x → (markG mk cnt k l)[i]? = some (mk (k + cntG cnt (l.take i)) x) := by
  induction l with
  | nil => intro k i x h; simp at h
  | cons y r ih =>
    intro k i x h
    cases i with
    | zero => simp at h; subst h; simp [markG, cntG]
    | succ i =>
      simp only [List.getElem?_cons_succ] at h
      simp only [markG, List.getElem?_cons_succ, List.take_succ_cons, cntG]
      rw [ih _ i x h, Nat.add_assoc]
theorem cntG_le {M : Nat} {l : List α} (h : ∀ x ∈ l, cnt x ≤ M) : cntG cnt l ≤ l.length * M := by
  induction l with
  | nil => simp [cntG]
  | cons y r ih =>
    have h1 := h y (List.mem_cons_self ..)
    have h2 := ih fun x hx => h x (List.mem_cons_of_mem _ hx)
    simp only [cntG, List.length_cons, Nat.add_mul]
    omega
theorem markG_step {l : List α} {k k0 : Nat} {x : α} (h : l[k]? = some x) : (markG mk cnt k0 (l.take k) ++ l.drop k)[k]? = some x ∧ (markG mk cnt k0 (l.take k) ++ l.drop k).set k (mk (k0 + cntG cnt (l.take k)) x) = markG mk cnt k0 (l.take (k + 1)) ++ l.drop (k + 1) := by
  have hlt : k < l.length := by
    rcases Nat.lt_or_ge k l.length with g | g
    · exact g
    · rw [List.getElem?_eq_none g] at h; cases h
  have hl : (markG mk cnt k0 (l.take k)).length = k := by rw [markG_len, List.length_take]; omega
  have hd : l.drop k = x :: l.drop (k + 1) := by
    rw [List.drop_eq_getElem_cons hlt]
    rw [List.getElem?_eq_getElem hlt] at h
    rw [Option.some.inj h]
  refine ⟨by rw [List.getElem?_append_right (by omega), hl, hd]; simp, ?_⟩
  rw [List.set_append_right _ _ (by omega), hl, hd, Nat.sub_self, List.set_cons_zero, ptake_at h, markG_snoc, List.append_assoc]
  rfl
theorem markG_has (hm : ∀ k x b, K.has (mk k x) b → K.has x b) {v : Value} (l : List α) : ∀ (k : Nat) (b : Nat), hasX K v (markG mk cnt k l) b → hasX K v l b := fun k b hb => by
  rcases hb with hb | ⟨y, hy, hb⟩
  · exact .inl hb
  · obtain ⟨i, hi, rfl⟩ := List.getElem_of_mem hy
    have hi' : i < l.length := by rw [markG_len] at hi; exact hi
    have h1 := markG_at (mk := mk) (cnt := cnt) l k i _ (List.getElem?_eq_getElem hi')
    rw [List.getElem?_eq_getElem hi] at h1
    rw [Option.some.inj h1] at hb
    exact .inr ⟨_, List.getElem_mem hi', hm _ _ _ hb⟩
end
end Go.Proofs.YtaijajajpnekbaaGreat.num
namespace Go.Proofs.YtaijajajpnekbaaGreat.num
set_option maxRecDepth 20000
open Go.RowKit Go.Maps
set_option linter.unusedVariables false
set_option linter.unusedSimpArgs false

/-- A rewriting's value: the rule, the place, and the slice of nodes with what it reads as. -/
structure Rw where
  rule : Int
  pos : Int
  A : Option Addr
  n : Nat
  c : Nat
  ns : List Nd
def Rw.val (x : Rw) : Value := .agg #[.int .i64 x.rule, .int .i64 x.pos, .slice x.A x.n x.c]
def rwCells (x : Rw) : List Value := [.int .i64 x.rule, .int .i64 x.pos, .slice x.A x.n x.c]
theorem rwCells_len (x : Rw) : (rwCells x).length = 3 := rfl
theorem rwCells_one (x : Rw) : ∀ u ∈ rwCells x, u.oneCell' = true := by simp [rwCells, Value.oneCell']
theorem info_rw : (Tryz.prog.info? 39).map (fun i => (i.zero, i.size, i.bytes)) = some (some (.agg #[.int .i64 0, .int .i64 0, .slice none 0 0]), 3, 40) := by kernel_rfl
def Rw.dat (x : Rw) : RW := ⟨x.rule, x.pos, datN x.ns⟩
def datR (l : List Rw) : List RW := l.map Rw.dat
def kR : Kd Rw where
  f := rwCells
  s := 3
  T := 39
  ok := fun w B x => (Lit.int .i64 x.rule).wf = true ∧ (Lit.int .i64 x.pos).wf = true ∧ OwnN w B (.slice x.A x.n x.c) x.ns
  has := fun x b => hasN (.slice x.A x.n x.c) x.ns b
  len := rwCells_len
  blocks := fun h hb => ⟨h.1, h.2.1, h.2.2.blocks hb⟩
  inn := fun h hb => h.2.2.has_in hb
  low := fun h hB => ⟨h.1, h.2.1, h.2.2.low hB⟩
/-- The slice (A, n) reads as l, all of it below block B. -/
structure Rws (w : World) (B : Nat) (A : Option Addr) (n : Nat) (l : List Rw) : Prop where
  r : ReadG rwCells 3 w B A n l
  x : ∀ x ∈ l, Nodes w B x.A x.n x.ns
theorem Rws.below {w w' : World} {B : Nat} {A : Option Addr} {n : Nat} {l : List Rw} (h : Rws w B A n l) (hb : Below B w w') : Rws w' B A n l := ⟨h.r.below hb, fun x hx => (h.x x hx).below hb⟩
theorem Rws.at {w : World} {B : Nat} {A : Option Addr} {n : Nat} {l : List Rw} (h : Rws w B A n l) (k : Nat) (hk : k < n) :
    ∃ (b off : Nat) (x : Rw), A = some ⟨b, off, none⟩ ∧ b < B ∧ l[k]? = some x ∧ Nodes w B x.A x.n x.ns ∧ w.cell? ⟨b, off + k * 3, none⟩ = some (.int .i64 x.rule) ∧ w.cell? ⟨b, off + k * 3 + 1, none⟩ = some (.int .i64 x.pos) ∧ w.cell? ⟨b, off + k * 3 + 2, none⟩ = some (.slice x.A x.n x.c) := by
  obtain ⟨x, hx⟩ := h.r.get hk
  obtain ⟨b, off, e, hb, hc⟩ := h.r.at' k x hx
  exact ⟨b, off, x, e, hb, hx, h.x x (List.mem_of_getElem? hx), hc 0 _ rfl, hc 1 _ rfl, hc 2 _ rfl⟩
def ShortR (l : List Rw) : Prop := ∀ x ∈ l, ShortN x.ns ∧ x.ns.length ≤ 9
theorem OwnX.rws {w : World} {B : Nat} {A : Option Addr} {n c : Nat} {l : List Rw} (h : OwnX kR w B (.slice A n c) l) : Rws w w.heap.size A n l :=
  ⟨OwnG.read rwCells_len h.r, fun x hx => by
    obtain ⟨k, hk, rfl⟩ := List.getElem_of_mem hx
    exact (h.x k _ (List.getElem?_eq_getElem hk)).2.2.nodes⟩
theorem rw_dat {x y : Rw} : x.dat = y.dat ↔ x.rule = y.rule ∧ x.pos = y.pos ∧ datN x.ns = datN y.ns := by
  unfold Rw.dat
  constructor
  · intro h
    injection h with h1 h2 h3
    exact ⟨h1, h2, h3⟩
  · rintro ⟨h1, h2, h3⟩
    rw [h1, h2, h3]
theorem ne_rw {l l' : List Rw} {k : Nat} {t t' : Rw} (h1 : l[k]? = some t) (h2 : l'[k]? = some t') (h : t.dat ≠ t'.dat) : datR l ≠ datR l' := fun e => by
  have h3 : (datR l)[k]? = (datR l')[k]? := by rw [e]
  unfold datR at h3
  rw [List.getElem?_map, List.getElem?_map, h1, h2] at h3
  exact h (Option.some.inj h3)
def mkR (k : Nat) (x : Rw) : Rw := ⟨((k : Nat) : Int), ((k + 1 : Nat) : Int), x.A, x.n, x.c, markN (k + 2) x.ns⟩
def cntR (x : Rw) : Nat := 2 + cntN x.ns
theorem mkR_has (k : Nat) (x : Rw) (b : Nat) (h : kR.has (mkR k x) b) : kR.has x b := markN_has x.ns (k + 2) b h
def LenR (l : List Rw) : Prop := ∀ x ∈ l, x.ns.length ≤ 9 ∧ ∀ y ∈ x.ns, y.t.ls.length ≤ 1048576 ∧ y.t.ps.length ≤ 1048576
theorem cntR_le {l : List Rw} (h : LenR l) : ∀ x ∈ l, cntR x ≤ 30000000 := fun x hx => by
  obtain ⟨h1, h2⟩ := h x hx
  have h3 := cntN_le h2
  have h4 := Nat.mul_le_mul_right 3145732 h1
  unfold cntR
  omega
theorem OwnX.lenR {w : World} {B : Nat} {v : Value} {l : List Rw} (h : OwnX kR w B v l) (hs : ShortR l) : LenR l := fun x hx => by
  obtain ⟨k, hk, rfl⟩ := List.getElem_of_mem hx
  exact ⟨(hs _ hx).2, lensN (h.x k _ (List.getElem?_eq_getElem hk)).2.2 (hs _ hx).1⟩
/-- One element is marked. -/
theorem OwnX.mark1 {w w5 : World} {B g n c : Nat} {l : List Rw} {k m : Nat} {x : Rw} {u0 u1 : Int} (hu0 : u0 = ((m : Nat) : Int)) (hu1 : u1 = ((m + 1 : Nat) : Int)) (hm : m ≤ 4700000000000000000) (h : OwnX kR w B (.slice (some ⟨g, 0, none⟩) n c) l) (hk : l[k]? = some x)
    (h5 : OnlyS (hasN (.slice x.A x.n x.c) x.ns) ((w.setCell ⟨g, k * 3, none⟩ (.int .i64 u0)).setCell ⟨g, k * 3 + 1, none⟩ (.int .i64 u1)) w5) (hn : OwnN w5 B (.slice x.A x.n x.c) (markN (m + 2) x.ns)) :
    OwnX kR w5 B (.slice (some ⟨g, 0, none⟩) n c) (l.set k (mkR m x)) ∧ OnlyS (hasX kR (.slice (some ⟨g, 0, none⟩) n c) l) w w5 ∧ ∀ b, hasX kR (.slice (some ⟨g, 0, none⟩) n c) (l.set k (mkR m x)) b → hasX kR (.slice (some ⟨g, 0, none⟩) n c) l b := by
  have hmem : x ∈ l := List.mem_of_getElem? hk
  have hg : ¬ hasN (.slice x.A x.n x.c) x.ns g := fun e => h.a k x g hk e rfl
  have hset : OwnG 39 rwCells 3 ((w.setCell ⟨g, k * 3, none⟩ (.int .i64 u0)).setCell ⟨g, k * 3 + 1, none⟩ (.int .i64 u1)) B (.slice (some ⟨g, 0, none⟩) n c) (l.set k (mkR m x)) :=
    OwnG.set2 rwCells_len (i1 := 0) (i2 := 1) h.r hk (fun j hj => by
      have hj' : j = 0 ∨ j = 1 ∨ j = 2 := by omega
      rcases hj' with rfl | rfl | rfl
      · rw [if_neg (by decide), if_pos rfl, hu0]; rfl
      · rw [if_pos rfl, hu1]; rfl
      · rw [if_neg (by decide), if_neg (by decide)]; rfl) (by decide) (by decide)
  have hr : OwnG 39 rwCells 3 w5 B (.slice (some ⟨g, 0, none⟩) n c) (l.set k (mkR m x)) := hset.blocks fun b hb => h5.block b (by
    have : b = g := (Option.some.inj hb).symm
    rw [this]
    exact hg)
  obtain ⟨p1, p2⟩ := h.put (y := mkR m x) hk hr ⟨wf_small (by omega), wf_small (by omega), hn⟩ (mkR_has m x) (fun b hb hx => by
    rw [h5.block b hx]
    have hne : b ≠ g := fun e => hb (by rw [e]; rfl)
    rw [heap_setCell_other _ _ _ _ (by simpa using hne), heap_setCell_other _ _ _ _ (by simpa using hne)])
  exact ⟨p1, (((OnlyS.refl _ w).set (.inl rfl) _ _).set (.inl rfl) _ _).trans (h5.sub fun b hb => .inr ⟨x, hmem, hb⟩), p2⟩
end Go.Proofs.YtaijajajpnekbaaGreat.num
namespace Go.Proofs.YtaijajajpnekbaaGreat.num
set_option maxRecDepth 20000
open Go.RowKit Go.Maps
set_option linter.unusedVariables false
set_option linter.unusedSimpArgs false

theorem RewL.len {nds : List ND} {k j : Nat} {out : List RW} (h : RewL nds k j out) : out.length ≤ 4 * k + j := by
  induction h with
  | zero => exact Nat.le_refl _
  | skip h hj hd ih => omega
  | take h hj hd ih => rw [List.length_append, List.length_singleton]; omega
  | next h ih => omega
theorem datR_app (l m : List Rw) : datR (l ++ m) = datR l ++ datR m := by unfold datR; rw [List.map_append]
theorem datR_len {l : List Rw} {out : List RW} (h : datR l = out) : l.length = out.length := by rw [← h]; unfold datR; rw [List.length_map]
/-- What has been gathered. -/
structure Gath (w0 w : World) (lo : Nat) (nds : List ND) (k j : Nat) (V : Value) (l : List Rw) : Prop where
  own : OwnX kR w lo V l
  rew : RewL nds k j (datR l)
  sh : ShortR l
  bel : Below lo w0 w
/-- One rewriting more. -/
theorem Gath.more {w0 w w1 w2 : World} {lo k j : Nat} {nds r : List ND} {V V' : Value} {l : List Rw} {A : Option Addr} {n c : Nat} {ns : List Nd} {rule pos : Int} (h : Gath w0 w lo nds k j V l) (hj : j < 4) (hr : rule = (j : Int) + 1) (hp : pos = (k : Nat)) (hk : k ≤ 1048576) (hd : AppD nds ((j : Int) + 1) (k : Nat) (some r))
    (hb : Below w.heap.size w w1) (hlo : lo ≤ w.heap.size) (ho : OwnN w1 w.heap.size (.slice A n c) ns) (hdat : datN ns = r) (hs : ShortN ns) (hg : w1.grownBy w2 V.ownBlock) (hat : V'.ownBlock = V.ownBlock ∨ V'.ownBlock = some (w1.heap.size + 1)) (hown : OwnG 39 rwCells 3 w2 lo V' (l ++ [⟨rule, pos, A, n, c, ns⟩])) :
    Gath w0 w2 lo nds k (j + 1) V' (l ++ [⟨rule, pos, A, n, c, ns⟩]) := by
  have h9 : r.length ≤ 9 := AppY.len hd
  refine ⟨(h.own.below hb).snoc hg hat (Nat.le_succ _) hown ⟨WalkArith.wf_i64 (n := rule) (by omega), WalkArith.wf_i64 (n := pos) (by omega), ho.low hlo⟩ (fun b h1 h2 => ?_), ?_, ?_, ?_⟩
  · have q1 := (ho.has_in h1).1
    have q2 := (h.own.has_in h2).2
    omega
  · rw [datR_app]
    have e : datR [(⟨rule, pos, A, n, c, ns⟩ : Rw)] = [⟨(j : Int) + 1, (k : Nat), r⟩] := by
      show [(⟨rule, pos, datN ns⟩ : RW)] = _
      rw [hr, hp, hdat]
    rw [e]
    exact .take h.rew hj hd
  · intro x hx
    rcases List.mem_append.1 hx with hx | hx
    · exact h.sh x hx
    · rw [List.mem_singleton.1 hx]
      exact ⟨hs, by show ns.length ≤ 9; rw [← datN_length, hdat]; exact h9⟩
  · exact (h.bel.trans (hb.mono hlo)).grown hg (Nat.le_trans hlo hb.size) fun b hv => h.own.r.lows b hv
theorem Gath.skip {w0 w w1 : World} {lo k j : Nat} {nds : List ND} {V : Value} {l : List Rw} (h : Gath w0 w lo nds k j V l) (hj : j < 4) (hd : AppD nds ((j : Int) + 1) (k : Nat) none) (hb : Below w.heap.size w w1) (hlo : lo ≤ w.heap.size) : Gath w0 w1 lo nds k (j + 1) V l :=
  ⟨h.own.below hb, .skip h.rew hj hd, h.sh, h.bel.trans (hb.mono hlo)⟩
theorem Gath.next {w0 w : World} {lo k : Nat} {nds : List ND} {V : Value} {l : List Rw} (h : Gath w0 w lo nds k 4 V l) : Gath w0 w lo nds (k + 1) 0 V l := ⟨h.own, .next h.rew, h.sh, h.bel⟩
theorem Gath.step {w0 w w1 : World} {lo k j : Nat} {nds : List ND} {V : Value} {l : List Rw} (h : Gath w0 w lo nds k j V l) (hb : Below w.heap.size w w1) (hlo : lo ≤ w.heap.size) : Gath w0 w1 lo nds k j V l := ⟨h.own.below hb, h.rew, h.sh, h.bel.trans (hb.mono hlo)⟩
set_option maxRecDepth 20000 in
set_option maxHeartbeats 3200000 in
theorem iRewritings (w : World) (B : Nat) (A : Option Addr) (n c : Nat) (ns : List Nd) (hi : Nodes w B A n ns) (hB : B ≤ w.heap.size) (hnc : n ≤ c) (hc : c ≤ 9223372036854775807) (hn : n ≤ 1048576) (hN : ShortN ns) (D : List RW) (hD : RewL (datN ns) (datN ns).length 0 D) :
    Calls Tryz.prog 16 #[.slice A n c] w fun e w' => ∃ v l, e = .returned v ∧ datR l = D ∧ ShortR l ∧ OwnX kR w' w.heap.size v l ∧ Below w.heap.size w w' := by
  obtain ⟨q, hq⟩ := bool_of (IsE (datN ns))
  have hlen : (datN ns).length = n := by rw [datN_length, hi.len]
  rw [hlen] at hD
  have HX := Lib.hid hi
  have HSh := Lib.hid hN
  have HQ := Lib.hid hq
  have HD := Lib.hid hD
  have HLen := Lib.hid hlen
  have HC : Hid (∀ w1, Below w.heap.size w w1 → Calls Tryz.prog 10 #[.slice A n c] w1 fun e w' => e = .returned (.bool q) ∧ Below w1.heap.size w1 w') := Lib.hid fun w1 h => iIsEW w1 B A n c ns (hi.below (h.mono hB)) (Nat.le_trans hB h.size) hnc hc hN q hq
  clear hi hN hq hlen hD
  go_enter Tryz.func16, Tryz.ntmps16
  go_wp2_with fail
  refine (HC.out _ (Below.refl _ _)).mono ?_
  rintro e w1 ⟨rfl, hb1⟩
  have HB1 := Lib.hid hb1
  clear hb1
  cases q
  · have hnil : D = [] := RewL.nil (fun h => by have := HQ.out.2 h; cases this) HD.out
    go_wp2
    go_ret
    exact ⟨_, [], rfl, hnil.symm, by simp [ShortR], .nil _ _, HB1.out⟩
  go_wp2
  go_loopw [3, 13] (fun v i wr => ∃ (k : Nat) (V : Value) (l : List Rw), k ≤ n ∧ i = .int .i64 k ∧ V = v ∧ Gath w wr w.heap.size (datN ns) k 0 V l) (fun _ i _ => n - (intOf i).toNat)
  case atStart => exact ⟨0, _, [], Nat.zero_le _, rfl, rfl, .nil _ _, .zero, by simp [ShortR], HB1.out⟩
  case round =>
    obtain ⟨k, V, l, hk, rfl, rfl, hg⟩ := hrel
    have HG0 := Lib.hid hg
    clear hg
    by_cases hlt : k < n
    · have hlt' : (k : Int) < (n : Int) := by omega
      have hd : decide ((k : Int) < (n : Int)) = true := by simp; omega
      go_wp2
      clear hd
      go_loopw [3, 5] (fun v i wr => ∃ (j : Nat) (V : Value) (l : List Rw), j ≤ 4 ∧ i = .int .i64 ((j : Int) + 1) ∧ V = v ∧ Gath w wr w.heap.size (datN ns) k j V l) (fun _ i _ => 5 - (intOf i).toNat)
      case atStart => exact ⟨0, _, _, Nat.zero_le _, rfl, rfl, HG0.out⟩
      case round =>
        obtain ⟨j, V, l, hj, rfl, rfl, hg⟩ := hrel
        have HG := Lib.hid hg
        clear hg HG0
        by_cases hjt : j < 4
        · obtain ⟨o, ho⟩ := AppD.ex (datN ns) ((j : Int) + 1) (k : Nat)
          have HO := Lib.hid ho
          have hwj : IntKind.i64.wrap ((j : Int) + 1 + 1) = (j : Int) + 1 + 1 := IntWalk.i64_in _ ⟨by omega, by omega⟩
          have hj4 : ¬ ((4 : Int) < (j : Int) + 1) := by omega
          have hj5 : (j : Int) + 1 ≤ 4 := by omega
          have hlo : w.heap.size ≤ wr.heap.size := HG.out.bel.size
          have HLo := Lib.hid hlo
          clear ho
          go_wp2_with fail
          refine (iApply wr B A n c ns ((j : Int) + 1) (k : Nat) (HX.out.below (HG.out.bel.mono hB)) (Nat.le_trans hB HLo.out) hnc hc hn HSh.out o HO.out).mono ?_
          rintro e w1 ⟨v, ks, rfl, hd, hs, hown, hb⟩
          cases o with
          | none =>
            have HG1 := Lib.hid (HG.out.skip hjt HO.out hb HLo.out)
            clear hd hs hown hb
            go_wp2
            go_roundw
            case rel => exact ⟨j + 1, V, l, by omega, by go_num, rfl, HG1.out⟩
            case measure => simp [intOf]; omega
          | some r =>
            obtain ⟨A', c', rfl, -, -⟩ := hown.r.shape
            have hll := HG.out.rew.len
            rw [← datR_len rfl] at hll
            obtain ⟨v', w3, hr, hown3, hg3, hat3⟩ := run_oneG rwCells_len rwCells_one (ty := 36) (c := 1) Tryz.underlying36 info_rw rfl (by decide) (by decide) (⟨(j : Int) + 1, (k : Nat), A', ks.length, c', ks⟩ : Rw) (cs := #[.int .i64 ((j : Int) + 1), .int .i64 (k : Int), .slice A' ks.length c']) rfl (HG.out.own.below hb).r rfl (by omega) (Nat.le_trans HLo.out hb.size)
            have HG1 := Lib.hid (HG.out.more hjt rfl rfl (by omega) HO.out hb HLo.out hown hd hs hg3 hat3 hown3)
            clear hd hs hown hb hown3 hg3 hat3 hll
            go_wp2_with (at_builtin; refine Go.Lib.wpList_append_run_sl _ (by rfl) (.tmp 28) (.tmp 33) 36 (by rfl) _ _ (by rfl) (by rfl) hr ?_)
            clear hr
            go_wp2
            go_roundw
            case rel => exact ⟨j + 1, v', _, by omega, by go_num, rfl, HG1.out⟩
            case measure => simp [intOf]; omega
        · obtain rfl : j = 4 := by omega
          have hj4 : (4 : Int) < ((4 : Nat) : Int) + 1 := by omega
          have hj5 : ¬ (((4 : Nat) : Int) + 1 ≤ 4) := by omega
          have HG1 := Lib.hid HG.out.next
          go_wp2
          go_roundw
          case rel => exact ⟨k + 1, _, _, by omega, by go_num, rfl, HG1.out⟩
          case measure => simp [intOf]; omega
    · obtain rfl : k = n := by omega
      have hDD : Hid (datR l = D) := Lib.hid (HG0.out.rew.one HD.out)
      go_wp2
      go_ret
      exact ⟨_, l, rfl, hDD.out, HG0.out.sh, HG0.out.own, HG0.out.bel⟩
end Go.Proofs.YtaijajajpnekbaaGreat.num
namespace Go.Proofs.YtaijajajpnekbaaGreat.num
set_option maxRecDepth 20000
open Go.RowKit Go.Maps
set_option linter.unusedVariables false
set_option linter.unusedSimpArgs false

/-- Where the search stands: at most m steps are left. -/
structure NormS (w0 w : World) (out : List ND) (m : Nat) (V : Value) (ks : List Nd) : Prop where
  own : OwnN w w0.heap.size V ks
  nor : NormR m (datN ks) out
  sh : ShortN ks
  bel : Below w0.heap.size w0 w
  len : ks.length ≤ 1048576
  m60 : m ≤ 60
theorem RewL.small {nds : List ND} {D : List RW} (h : RewL nds nds.length 0 D) : D.length ≤ 36 := by
  by_cases he : IsE nds
  · have h1 := h.len
    have h2 := he.1
    omega
  · rw [RewL.nil he h]
    decide
theorem RewL.all (nds : List ND) : ∃ L, RewL nds nds.length 0 L := RewL.ex nds nds.length
theorem datR_get {l : List Rw} {k : Nat} {x : Rw} (h : l[k]? = some x) : (datR l)[k]? = some x.dat := by unfold datR; rw [List.getElem?_map, h]; rfl
/-- The step that the first rewriting makes. -/
theorem NormS.jump {w0 w w1 w2 : World} {out : List ND} {m k : Nat} {V : Value} {ks : List Nd} {L : List RW} {l : List Rw} {v : Value} {x : Rw} (h : NormS w0 w out (m + 1) V ks) (hL : RewL (datN ks) (datN ks).length 0 L) (hd : datR l = L) (hs : ShortR l) (hown : OwnX kR w1 w.heap.size v l) (hb : Below w.heap.size w w1) (hb2 : Below w1.heap.size w1 w2) (hx : l[k]? = some x) (hr : x.rule ≠ 4) (hbf : ∀ (j : Nat) (y : RW), j < k → L[j]? = some y → y.rule = 4) :
    NormS w0 w2 out m (.slice x.A x.n x.c) x.ns := by
  have hx' := datR_get hx
  rw [hd] at hx'
  have hf : First (datN ks) x.dat.after := hL.first hx' hr hbf
  have ho := (hown.x k x hx).2.2
  have hsx := hs x (List.mem_of_getElem? hx)
  exact ⟨(ho.below hb2).low h.bel.size, h.nor.next hf, hsx.1, (h.bel.trans (hb.mono h.bel.size)).trans (hb2.mono (Nat.le_trans h.bel.size hb.size)), Nat.le_trans hsx.2 (by decide), by have := h.m60; omega⟩
/-- No step is left to make. -/
theorem NormS.done {w0 w w1 : World} {out : List ND} {m : Nat} {V : Value} {ks : List Nd} {L : List RW} (h : NormS w0 w out m V ks) (hL : RewL (datN ks) (datN ks).length 0 L) (hb : Below w.heap.size w w1) (hbf : m = 0 ∨ ∀ (j : Nat) (y : RW), L[j]? = some y → y.rule = 4) :
    datN ks = out ∧ OwnN w1 w0.heap.size V ks ∧ Below w0.heap.size w0 w1 := by
  refine ⟨?_, h.own.below hb, h.bel.trans (hb.mono h.bel.size)⟩
  rcases hbf with e | e
  · subst e
    exact h.nor.none.symm
  · exact (h.nor.now (hL.normal e)).symm
set_option maxRecDepth 100000 in
set_option maxHeartbeats 6400000 in
theorem iNormalize (w : World) (B : Nat) (A : Option Addr) (n c : Nat) (ns : List Nd) (hi : Nodes w B A n ns) (hB : B ≤ w.heap.size) (hn : n ≤ 1048576) (hN : ShortN ns) (out : List ND) (ho : NormR 60 (datN ns) out) :
    Calls Tryz.prog 13 #[.slice A n c] w fun e w' => ∃ v ns', e = .returned v ∧ datN ns' = out ∧ ShortN ns' ∧ OwnN w' w.heap.size v ns' ∧ Below w.heap.size w w' := by
  have HX := Lib.hid hi
  have HSh := Lib.hid hN
  have HO := Lib.hid ho
  clear hi hN ho
  go_enter Tryz.func13, Tryz.ntmps13
  go_wp2
  refine wp_scope_jumps 0 (fun (a' : Act) (w' : World) => ∃ (V : Value) (m : Nat) (ks : List Nd) (u1 u5 u6 u7 u8 u9 u10 u11 u12 u13 u14 u15 u16 u17 u18 u19 u20 u21 u22 u23 u24 u25 u26 u27 u28 : Value), a' = { tmps := #[.slice A n c, u1, .slice none 0 0, V, .int .i64 (m : Int), u5, u6, u7, u8, u9, u10, u11, u12, u13, u14, u15, u16, u17, u18, u19, u20, u21, u22, u23, u24, u25, u26, u27, u28], defers := [] } ∧ NormS w w' out m V ks) (fun a' _ => (intOf (a'.tmps.getD 4 undef)).toNat) rfl ?_ ?_
  · go_wp2_with fail
    refine (copyNodes_c w B A n c ns HX.out hB hn HSh.out).mono ?_
    rintro e w0 ⟨V, ks, rfl, hd, hs, hown, hb⟩
    have HS : Hid (NormS w w0 out 60 V ks) := Lib.hid ⟨hown, by rw [hd]; exact HO.out, hs, hb, by rw [datN_len hd, HX.out.len]; exact hn, Nat.le_refl _⟩
    obtain ⟨A1, c1, rfl, hle1, hcm1⟩ := hown.r.shape
    clear hd hs hown hb
    have hm60 : (60 : Nat) ≤ 60 := by decide
    obtain ⟨m, hm⟩ : ∃ m : Nat, m = 60 := ⟨_, rfl⟩
    have hmi : (60 : Int) = (m : Int) := by omega
    have HS0 : Hid (NormS w w0 out m (.slice A1 ks.length c1) ks) := Lib.hid (by rw [hm]; exact HS.out)
    clear HS hm60
    have hlk := HS0.out.len
    obtain ⟨L, hL⟩ := RewL.all (datN ks)
    have HL := Lib.hid hL
    have hc1 : c1 ≤ 9223372036854775807 := by unfold maxLen at hcm1; omega
    have HSh2 := Lib.hid HS0.out.sh
    have HNd := Lib.hid HS0.out.own.nodes
    obtain ⟨nk, hnk⟩ : ∃ nk, ks.length = nk := ⟨_, rfl⟩
    rw [hnk] at hle1 hlk HS0 HNd
    rw [hnk]
    clear hL hnk
    go_wp2
    rw [hmi]
    clear hmi hm
    go_step3
    go_wp2_with fail
    refine (iRewritings w0 w0.heap.size A1 nk c1 ks HNd.out (Nat.le_refl _) hle1 hc1 hlk HSh2.out L HL.out).mono ?_
    rintro e w1 ⟨v, l, rfl, hd, hs, hown, hb⟩
    obtain ⟨A2, c2, rfl, hle2, hcm2⟩ := hown.r.shape
    have HD := Lib.hid hd
    have HS2 := Lib.hid hs
    have HOw := Lib.hid hown
    have HB1 := Lib.hid hb
    have HRw := Lib.hid hown.rws
    obtain ⟨nl, hnl⟩ : ∃ nl, l.length = nl := ⟨_, rfl⟩
    rw [hnl] at hle2 HOw HRw ⊢
    have HNl := Lib.hid hnl
    have hn36 : nl ≤ 36 := by
      have h1 := HL.out.small
      rw [← hnl, datR_len HD.out]
      exact h1
    clear hd hs hown hb hnl hcm2
    go_wp2
    go_loopw [3, 4, 12] (fun x3 x4 i wr => ∃ k : Nat, x3 = .slice A1 nk c1 ∧ x4 = .int .i64 (m : Int) ∧ k ≤ nl ∧ i = .int .i64 k ∧ (m = 0 ∨ ∀ (j : Nat) (y : RW), j < k → L[j]? = some y → y.rule = 4) ∧ Below w1.heap.size w1 wr) (fun _ _ i _ => nl - (intOf i).toNat)
    case atStart => exact ⟨0, rfl, rfl, Nat.zero_le _, rfl, .inr (fun j y hj => by omega), Below.refl _ _⟩
    case round =>
      obtain ⟨k, rfl, rfl, hk, rfl, hbf, hbel⟩ := hrel
      have HBf := Lib.hid hbf
      have HB := Lib.hid hbel
      clear hbf
      by_cases hlt : k < nl
      · obtain ⟨b1, off, x, rfl, hb1, hat, -, d0, d1, d2⟩ := HRw.out.at k hlt
        have f0 := (hbel.cell (p := ⟨b1, off + k * 3, none⟩) hb1).trans d0
        have f1 := (hbel.cell (p := ⟨b1, off + k * 3 + 1, none⟩) hb1).trans d1
        have f2 := (hbel.cell (p := ⟨b1, off + k * 3 + 2, none⟩) hb1).trans d2
        have HAt := Lib.hid hat
        have hlt' : (k : Int) < (nl : Int) := by omega
        have HBn : Hid (∀ ob : Obj, Below w1.heap.size w1 (wr.alloc ob)) := Lib.hid fun ob => HB.out.alloc HB.out.size _
        clear d0 d1 d2 hat hbel
        by_cases hr4 : x.rule = 4
        · have hne : (x.rule != 4) = false := by simpa using hr4
          have hne' : (4 != (4 : Int)) = false := by decide
          have HBf2 : Hid (m = 0 ∨ ∀ (j : Nat) (y : RW), j < k + 1 → L[j]? = some y → y.rule = 4) := Lib.hid (by
            rcases HBf.out with h | h
            · exact .inl h
            · refine .inr fun j y hj hy => ?_
              by_cases e : j = k
              · subst e
                have hx' := datR_get HAt.out
                rw [HD.out, hy] at hx'
                rw [Option.some.inj hx']
                exact hr4
              · exact h j y (by omega) hy)
          clear hr4
          go_wp2
          go_roundw
          case rel => exact ⟨k + 1, rfl, rfl, by omega, by go_num, HBf2.out, HBn.out _⟩
          case measure => simp [intOf]; omega
        · have hne : (x.rule != 4) = true := by simpa using hr4
          rcases Nat.eq_zero_or_pos m with hm0 | hm0
          · have hg0 : ¬ ((0 : Int) < (m : Int)) := by omega
            have hg1 : decide ((0 : Int) < (m : Int)) = false := by simp; omega
            clear hr4
            go_wp2
            go_roundw
            case rel => exact ⟨k + 1, rfl, rfl, by omega, by go_num, .inl hm0, HBn.out _⟩
            case measure => simp [intOf]; omega
          · obtain ⟨m1, rfl⟩ : ∃ m1, m = m1 + 1 := ⟨m - 1, by omega⟩
            have hg0 : (0 : Int) < ((m1 + 1 : Nat) : Int) := by omega
            have hg1 : decide ((0 : Int) < ((m1 + 1 : Nat) : Int)) = true := by simp
            have hwm : IntKind.i64.wrap (((m1 + 1 : Nat) : Int) - 1) = (m1 : Int) := by
              rw [show ((m1 + 1 : Nat) : Int) - 1 = (m1 : Int) by omega]
              exact IntWalk.i64_in _ ⟨by omega, by have := HS0.out.m60; omega⟩
            have hw64 : wrap64 (m1 : Int) = (m1 : Int) := by
              have := HS0.out.m60
              unfold wrap64
              omega
            have HJ : Hid (∀ ob : Obj, NormS w (wr.alloc ob) out m1 (.slice x.A x.n x.c) x.ns) := Lib.hid fun ob => HS0.out.jump HL.out HD.out HS2.out HOw.out HB1.out (HBn.out ob) HAt.out hr4 (by
              rcases HBf.out with h | h
              · exact absurd h (Nat.succ_ne_zero _)
              · exact h)
            clear hr4
            go_wp2
            try rw [hw64]
            go_step3
            exact ⟨rfl, _, m1, x.ns, _, _, _, _, _, _, _, _, _, _, _, _, _, _, _, _, _, _, _, _, _, _, _, _, _, rfl, HJ.out _⟩
      · obtain rfl : k = nl := by omega
        have HF := Lib.hid (HS0.out.done HL.out (HB1.out.trans (hbel.mono HB1.out.size)) (by
          rcases HBf.out with h | h
          · exact .inl h
          · refine .inr fun j y hy => h j y ?_ hy
            have hll : L.length = k := by rw [← HD.out]; unfold datR; rw [List.length_map]; exact HNl.out
            rcases Nat.lt_or_ge j k with g | g
            · exact g
            · rw [List.getElem?_eq_none (by omega)] at hy; cases hy))
        clear hbel
        go_wp2
        simp only [Exit.jump]
        go_ret
        exact ⟨_, ks, rfl, HF.out.1, HS0.out.sh, HF.out.2.1, HF.out.2.2⟩
  · rintro a' w0 ⟨V, m, ks, u1, u5, u6, u7, u8, u9, u10, u11, u12, u13, u14, u15, u16, u17, u18, u19, u20, u21, u22, u23, u24, u25, u26, u27, u28, rfl, hS⟩
    have HS0 := Lib.hid hS
    obtain ⟨A1, c1, rfl, hle1, hcm1⟩ := hS.own.r.shape
    clear hS
    have hlk := HS0.out.len
    obtain ⟨L, hL⟩ := RewL.all (datN ks)
    have HL := Lib.hid hL
    have hc1 : c1 ≤ 9223372036854775807 := by unfold maxLen at hcm1; omega
    have HSh2 := Lib.hid HS0.out.sh
    have HNd := Lib.hid HS0.out.own.nodes
    obtain ⟨nk, hnk⟩ : ∃ nk, ks.length = nk := ⟨_, rfl⟩
    rw [hnk] at hle1 hlk HS0 HNd
    rw [hnk]
    clear hL hnk
    go_wp2_with fail
    refine (iRewritings w0 w0.heap.size A1 nk c1 ks HNd.out (Nat.le_refl _) hle1 hc1 hlk HSh2.out L HL.out).mono ?_
    rintro e w1 ⟨v, l, rfl, hd, hs, hown, hb⟩
    obtain ⟨A2, c2, rfl, hle2, hcm2⟩ := hown.r.shape
    have HD := Lib.hid hd
    have HS2 := Lib.hid hs
    have HOw := Lib.hid hown
    have HB1 := Lib.hid hb
    have HRw := Lib.hid hown.rws
    obtain ⟨nl, hnl⟩ : ∃ nl, l.length = nl := ⟨_, rfl⟩
    rw [hnl] at hle2 HOw HRw ⊢
    have HNl := Lib.hid hnl
    have hn36 : nl ≤ 36 := by
      have h1 := HL.out.small
      rw [← hnl, datR_len HD.out]
      exact h1
    clear hd hs hown hb hnl hcm2
    go_wp2
    go_loopw [3, 4, 12] (fun x3 x4 i wr => ∃ k : Nat, x3 = .slice A1 nk c1 ∧ x4 = .int .i64 (m : Int) ∧ k ≤ nl ∧ i = .int .i64 k ∧ (m = 0 ∨ ∀ (j : Nat) (y : RW), j < k → L[j]? = some y → y.rule = 4) ∧ Below w1.heap.size w1 wr) (fun _ _ i _ => nl - (intOf i).toNat)
    case atStart => exact ⟨0, rfl, rfl, Nat.zero_le _, rfl, .inr (fun j y hj => by omega), Below.refl _ _⟩
    case round =>
      obtain ⟨k, rfl, rfl, hk, rfl, hbf, hbel⟩ := hrel
      have HBf := Lib.hid hbf
      have HB := Lib.hid hbel
      clear hbf
      by_cases hlt : k < nl
      · obtain ⟨b1, off, x, rfl, hb1, hat, -, d0, d1, d2⟩ := HRw.out.at k hlt
        have f0 := (hbel.cell (p := ⟨b1, off + k * 3, none⟩) hb1).trans d0
        have f1 := (hbel.cell (p := ⟨b1, off + k * 3 + 1, none⟩) hb1).trans d1
        have f2 := (hbel.cell (p := ⟨b1, off + k * 3 + 2, none⟩) hb1).trans d2
        have HAt := Lib.hid hat
        have hlt' : (k : Int) < (nl : Int) := by omega
        have HBn : Hid (∀ ob : Obj, Below w1.heap.size w1 (wr.alloc ob)) := Lib.hid fun ob => HB.out.alloc HB.out.size _
        clear d0 d1 d2 hat hbel
        by_cases hr4 : x.rule = 4
        · have hne : (x.rule != 4) = false := by simpa using hr4
          have hne' : (4 != (4 : Int)) = false := by decide
          have HBf2 : Hid (m = 0 ∨ ∀ (j : Nat) (y : RW), j < k + 1 → L[j]? = some y → y.rule = 4) := Lib.hid (by
            rcases HBf.out with h | h
            · exact .inl h
            · refine .inr fun j y hj hy => ?_
              by_cases e : j = k
              · subst e
                have hx' := datR_get HAt.out
                rw [HD.out, hy] at hx'
                rw [Option.some.inj hx']
                exact hr4
              · exact h j y (by omega) hy)
          clear hr4
          go_wp2
          go_roundw
          case rel => exact ⟨k + 1, rfl, rfl, by omega, by go_num, HBf2.out, HBn.out _⟩
          case measure => simp [intOf]; omega
        · have hne : (x.rule != 4) = true := by simpa using hr4
          rcases Nat.eq_zero_or_pos m with hm0 | hm0
          · have hg0 : ¬ ((0 : Int) < (m : Int)) := by omega
            have hg1 : decide ((0 : Int) < (m : Int)) = false := by simp; omega
            clear hr4
            go_wp2
            go_roundw
            case rel => exact ⟨k + 1, rfl, rfl, by omega, by go_num, .inl hm0, HBn.out _⟩
            case measure => simp [intOf]; omega
          · obtain ⟨m1, rfl⟩ : ∃ m1, m = m1 + 1 := ⟨m - 1, by omega⟩
            have hg0 : (0 : Int) < ((m1 + 1 : Nat) : Int) := by omega
            have hg1 : decide ((0 : Int) < ((m1 + 1 : Nat) : Int)) = true := by simp
            have hwm : IntKind.i64.wrap (((m1 + 1 : Nat) : Int) - 1) = (m1 : Int) := by
              rw [show ((m1 + 1 : Nat) : Int) - 1 = (m1 : Int) by omega]
              exact IntWalk.i64_in _ ⟨by omega, by have := HS0.out.m60; omega⟩
            have hw64 : wrap64 (m1 : Int) = (m1 : Int) := by
              have := HS0.out.m60
              unfold wrap64
              omega
            have HJ : Hid (∀ ob : Obj, NormS w (wr.alloc ob) out m1 (.slice x.A x.n x.c) x.ns) := Lib.hid fun ob => HS0.out.jump HL.out HD.out HS2.out HOw.out HB1.out (HBn.out ob) HAt.out hr4 (by
              rcases HBf.out with h | h
              · exact absurd h (Nat.succ_ne_zero _)
              · exact h)
            clear hr4
            go_wp2
            try rw [hw64]
            go_step3
            refine ⟨rfl, ⟨_, m1, x.ns, _, _, _, _, _, _, _, _, _, _, _, _, _, _, _, _, _, _, _, _, _, _, _, _, _, rfl, HJ.out _⟩, ?_⟩
            simp [intOf]
      · obtain rfl : k = nl := by omega
        have HF := Lib.hid (HS0.out.done HL.out (HB1.out.trans (hbel.mono HB1.out.size)) (by
          rcases HBf.out with h | h
          · exact .inl h
          · refine .inr fun j y hy => h j y ?_ hy
            have hll : L.length = k := by rw [← HD.out]; unfold datR; rw [List.length_map]; exact HNl.out
            rcases Nat.lt_or_ge j k with g | g
            · exact g
            · rw [List.getElem?_eq_none (by omega)] at hy; cases hy))
        clear hbel
        go_wp2
        simp only [Exit.jump]
        go_ret
        exact ⟨_, ks, rfl, HF.out.1, HS0.out.sh, HF.out.2.1, HF.out.2.2⟩
/-- Nothing but the exchange is possible ahead of node k, nor there by the first j rules. -/
def NoneB (nds : List ND) (k j : Nat) : Prop := ∀ rule pos r, rule ≤ 3 → (pos < (k : Int) ∨ pos = (k : Int) ∧ rule ≤ (j : Int)) → ¬ AppY nds rule pos r
theorem NoneB.zero (nds : List ND) : NoneB nds 0 0 := fun rule pos r _ h hy => by have := hy.pos; omega
theorem NoneB.step {nds : List ND} {k j : Nat} (h : NoneB nds k j) (hd : AppD nds ((j : Int) + 1) (k : Nat) none) : NoneB nds k (j + 1) := fun rule pos r h3 hp hy => by
  by_cases e : pos = (k : Int) ∧ rule = (j : Int) + 1
  · obtain ⟨rfl, rfl⟩ := e
    exact hd r hy
  · exact h rule pos r h3 (by omega) hy
theorem NoneB.next {nds : List ND} {k : Nat} (h : NoneB nds k 3) : NoneB nds (k + 1) 0 := fun rule pos r h3 hp hy => h rule pos r h3 (by have := hy.pos; omega) hy
theorem NoneB.first {nds r : List ND} {k j : Nat} (h : NoneB nds k j) (hj : j < 3) (hy : AppY nds ((j : Int) + 1) (k : Nat) r) : First nds r :=
  ⟨(j : Int) + 1, (k : Nat), by omega, hy, fun rule pos r' h3 hp => h rule pos r' h3 (by omega)⟩
theorem NoneB.normal {nds : List ND} (h : NoneB nds nds.length 0) : Normal nds := fun rule pos r h3 hy => h rule pos r h3 (.inl hy.pos.2.1) hy
theorem NormS.step {w0 w w1 : World} {out : List ND} {m : Nat} {V : Value} {ks : List Nd} (h : NormS w0 w out m V ks) (hb : Below w.heap.size w w1) : NormS w0 w1 out m V ks :=
  ⟨h.own.below hb, h.nor, h.sh, h.bel.trans (hb.mono h.bel.size), h.len, h.m60⟩
/-- The step that the first rule makes. -/
theorem NormS.app {w0 w w1 : World} {out r : List ND} {m : Nat} {V V' : Value} {ks ks' : List Nd} (h : NormS w0 w out (m + 1) V ks) (hf : First (datN ks) r) (hb : Below w.heap.size w w1) (hd : datN ks' = r) (hs : ShortN ks') (hown : OwnN w1 w.heap.size V' ks') : NormS w0 w1 out m V' ks' :=
  ⟨hown.low h.bel.size, by rw [hd]; exact h.nor.next hf, hs, h.bel.trans (hb.mono h.bel.size), by
    obtain ⟨a, p, _, h2, _⟩ := hf
    have h9 := AppY.len (show AppD (datN ks) a p (some r) from h2)
    rw [← datN_length, hd]
    omega, by have := h.m60; omega⟩
set_option maxRecDepth 20000 in
set_option maxHeartbeats 6400000 in
theorem sNormalize (w : World) (B : Nat) (A : Option Addr) (n c : Nat) (ns : List Nd) (hi : Nodes w B A n ns) (hB : B ≤ w.heap.size) (hn : n ≤ 1048576) (hN : ShortN ns) (out : List ND) (ho : NormR 60 (datN ns) out) :
    Calls Tryz.prog 14 #[.slice A n c] w fun e w' => ∃ v ns', e = .returned v ∧ datN ns' = out ∧ ShortN ns' ∧ OwnN w' w.heap.size v ns' ∧ Below w.heap.size w w' := by
  have HX := Lib.hid hi
  have HSh := Lib.hid hN
  have HO := Lib.hid ho
  clear hi hN ho
  go_enter Tryz.func14, Tryz.ntmps14
  go_wp2_with fail
  refine (sCopyN_c w B A n c ns HX.out hB hn HSh.out).mono ?_
  rintro e w0 ⟨V0, ks0, rfl, hd, hs, hown, hb⟩
  have HS : Hid (NormS w w0 out 60 V0 ks0) := Lib.hid ⟨hown, by rw [hd]; exact HO.out, hs, hb, by rw [datN_len hd, HX.out.len]; exact hn, Nat.le_refl _⟩
  clear hd hs hown hb
  go_wp2
  go_loopw [3, 4] (fun x r wr => ∃ (V : Value) (j : Nat) (ks : List Nd), V = x ∧ r = .int .i64 (j : Int) ∧ j ≤ 60 ∧ NormS w wr out (60 - j) V ks) (fun _ r _ => 60 - (intOf r).toNat)
  case atStart => exact ⟨_, 0, ks0, rfl, rfl, Nat.zero_le _, HS.out⟩
  case round =>
    obtain ⟨V, j, ks, rfl, rfl, hj, hS⟩ := hrel
    obtain ⟨A1, c1, rfl, hle1, hcm1⟩ := hS.own.r.shape
    have hc1 : c1 ≤ 9223372036854775807 := by unfold maxLen at hcm1; omega
    have hlk := hS.len
    have HLk : Hid ((datN ks).length = ks.length) := Lib.hid (datN_length ks)
    obtain ⟨nk, hnk⟩ : ∃ nk, ks.length = nk := ⟨_, rfl⟩
    rw [hnk] at hle1 hlk hS HLk ⊢
    obtain ⟨m, hm⟩ : ∃ m, 60 - j = m := ⟨_, rfl⟩
    rw [hm] at hS
    have HS := Lib.hid hS
    have HM := Lib.hid hm
    clear hnk hcm1 hS hm
    by_cases hj60 : j < 60
    · obtain ⟨q, hq⟩ := bool_of (IsE (datN ks))
      have HQ := Lib.hid hq
      have hjd : (j : Int) < 60 := by omega
      have hwj : IntKind.i64.wrap ((j : Int) + 1) = (j : Int) + 1 := IntWalk.i64_in _ ⟨by omega, by omega⟩
      obtain ⟨m1, rfl⟩ : ∃ m1, m = m1 + 1 := ⟨m - 1, by have := HM.out; omega⟩
      clear hq
      go_wp2_with fail
      refine (sIsE wr wr.heap.size A1 nk c1 ks HS.out.own.nodes (Nat.le_refl _) hlk HS.out.sh q HQ.out).mono ?_
      rintro e w1 ⟨rfl, hb1⟩
      have HS1 := Lib.hid (HS.out.step hb1)
      clear hb1 HS
      cases q
      · have hcur : datN ks = out := (HS1.out.nor.out fun h => by have := HQ.out.2 h; cases this).symm
        go_wp2
        go_ret
        exact ⟨_, ks, rfl, hcur, HS1.out.sh, HS1.out.own, HS1.out.bel⟩
      go_wp2
      go_loopw [3, 5, 6] (fun x ch at' wr => ∃ (cb : Bool) (k : Nat) (ks' : List Nd), ch = .bool cb ∧ at' = .int .i64 (k : Int) ∧ k ≤ nk ∧ ((cb = false ∧ x = .slice A1 nk c1 ∧ NormS w wr out (m1 + 1) (.slice A1 nk c1) ks ∧ NoneB (datN ks) k 0) ∨ (cb = true ∧ NormS w wr out m1 x ks'))) (fun _ _ at' _ => nk - (intOf at').toNat)
      case atStart => exact ⟨false, 0, [], rfl, rfl, Nat.zero_le _, .inl ⟨rfl, rfl, HS1.out, .zero _⟩⟩
      case round =>
        obtain ⟨cb, k, ks', rfl, rfl, hk, hst⟩ := hrel
        clear HS1
        rcases hst with ⟨rfl, rfl, hS, hno⟩ | ⟨rfl, hS⟩
        · have HS2 := Lib.hid hS
          have HNo := Lib.hid hno
          clear hS hno
          by_cases hlt : k < nk
          · have hlt' : (k : Int) < (nk : Int) := by omega
            have hwk : IntKind.i64.wrap ((k : Int) + 1) = (k : Int) + 1 := IntWalk.i64_in _ ⟨by omega, by omega⟩
            go_wp2
            go_loopw [3, 5, 7] (fun x ch ru wr => ∃ (cb : Bool) (i : Nat) (ks' : List Nd), ch = .bool cb ∧ ru = .int .i64 ((i : Int) + 1) ∧ i ≤ 3 ∧ ((cb = false ∧ x = .slice A1 nk c1 ∧ NormS w wr out (m1 + 1) (.slice A1 nk c1) ks ∧ NoneB (datN ks) k i) ∨ (cb = true ∧ NormS w wr out m1 x ks'))) (fun _ _ ru _ => 4 - (intOf ru).toNat)
            case atStart => exact ⟨false, 0, [], rfl, rfl, by decide, .inl ⟨rfl, rfl, HS2.out, HNo.out⟩⟩
            case round =>
              obtain ⟨cb, i, ks', rfl, rfl, hi3, hst⟩ := hrel
              clear HS2 HNo
              rcases hst with ⟨rfl, rfl, hS, hno⟩ | ⟨rfl, hS⟩
              · have HS3 := Lib.hid hS
                have HNo := Lib.hid hno
                clear hS hno
                by_cases hi : i < 3
                · have hri : (i : Int) + 1 ≤ 3 := by omega
                  have hwi : IntKind.i64.wrap ((i : Int) + 1 + 1) = (i : Int) + 1 + 1 := IntWalk.i64_in _ ⟨by omega, by omega⟩
                  obtain ⟨o, hoo⟩ := AppD.ex (datN ks) ((i : Int) + 1) (k : Nat)
                  have HOo := Lib.hid hoo
                  clear hoo
                  go_wp2_with fail
                  refine (sApply wr wr.heap.size A1 nk c1 ks ((i : Int) + 1) (k : Nat) HS3.out.own.nodes (Nat.le_refl _) hle1 hc1 hlk HS3.out.sh o HOo.out).mono ?_
                  rintro e w4 ⟨v4, ks4, rfl, hd4, hs4, hown4, hb4⟩
                  cases o with
                  | none =>
                    have HS4 := Lib.hid (HS3.out.step hb4)
                    have HN4 := Lib.hid (HNo.out.step HOo.out)
                    clear hd4 hs4 hown4 hb4
                    go_wp2
                    go_roundw
                    case rel => exact ⟨false, i + 1, [], rfl, by go_num, by omega, .inl ⟨rfl, rfl, HS4.out, HN4.out⟩⟩
                    case measure => simp [intOf]; omega
                  | some r =>
                    have HS4 : Hid (NormS w w4 out m1 v4 ks4) := Lib.hid (HS3.out.app (HNo.out.first hi HOo.out) hb4 hd4 hs4 hown4)
                    clear hd4 hs4 hown4 hb4
                    go_wp2
                    go_roundw
                    case rel => exact ⟨true, i + 1, ks4, rfl, by go_num, by omega, .inr ⟨rfl, HS4.out⟩⟩
                    case measure => simp [intOf]; omega
                · obtain rfl : i = 3 := by omega
                  have hri : ¬ (((3 : Nat) : Int) + 1 ≤ 3) := by omega
                  have HN4 := Lib.hid HNo.out.next
                  go_wp2
                  go_roundw
                  case rel => exact ⟨false, k + 1, [], rfl, by go_num, by omega, .inl ⟨rfl, rfl, HS3.out, HN4.out⟩⟩
                  case measure => simp [intOf]; omega
              · have HS3 := Lib.hid hS
                clear hS
                by_cases hi : i < 3
                · have hri : (i : Int) + 1 ≤ 3 := by omega
                  go_wp2
                  go_roundw
                  case rel => exact ⟨true, k + 1, ks', rfl, by go_num, by omega, .inr ⟨rfl, HS3.out⟩⟩
                  case measure => simp [intOf]; omega
                · obtain rfl : i = 3 := by omega
                  have hri : ¬ (((3 : Nat) : Int) + 1 ≤ 3) := by omega
                  go_wp2
                  go_roundw
                  case rel => exact ⟨true, k + 1, ks', rfl, by go_num, by omega, .inr ⟨rfl, HS3.out⟩⟩
                  case measure => simp [intOf]; omega
          · obtain rfl : k = nk := by omega
            have hcur : Hid (datN ks = out) := Lib.hid (HS2.out.nor.now (NoneB.normal (by rw [HLk.out]; exact HNo.out))).symm
            go_wp2
            go_ret
            exact ⟨_, ks, rfl, hcur.out, HS2.out.sh, HS2.out.own, HS2.out.bel⟩
        · obtain ⟨A2, c2, rfl, -, -⟩ := hS.own.r.shape
          obtain ⟨n2, hn2⟩ : ∃ n2, ks'.length = n2 := ⟨_, rfl⟩
          rw [hn2] at hS ⊢
          have HS2 := Lib.hid hS
          have HJ : Hid (60 - (j + 1) = m1) := Lib.hid (by have := HM.out; omega)
          clear hS hn2
          by_cases hlt : (k : Int) < (n2 : Int)
          · go_wp2
            go_roundw
            case rel => exact ⟨_, j + 1, ks', rfl, by go_num, by omega, by rw [HJ.out]; exact HS2.out⟩
            case measure => simp [intOf]; omega
          · go_wp2
            go_roundw
            case rel => exact ⟨_, j + 1, ks', rfl, by go_num, by omega, by rw [HJ.out]; exact HS2.out⟩
            case measure => simp [intOf]; omega
    · obtain rfl : j = 60 := by omega
      have hcur : Hid (datN ks = out) := Lib.hid (by
        have h := HM.out
        obtain rfl : m = 0 := by omega
        exact HS.out.nor.none.symm)
      go_wp2
      go_ret
      exact ⟨_, ks, rfl, hcur.out, HS.out.sh, HS.out.own, HS.out.bel⟩
theorem NormR.len {m : Nat} {nds out : List ND} (h : NormR m nds out) {N : Nat} (hN : 9 ≤ N) : nds.length ≤ N → out.length ≤ N := by
  induction h with
  | stop h => exact id
  | zero => exact id
  | step h hr ih =>
    intro _
    obtain ⟨a, p, _, h2, _⟩ := h
    exact ih (Nat.le_trans (AppY.len (show AppD _ a p (some _) from h2)) hN)
end Go.Proofs.YtaijajajpnekbaaGreat.num
