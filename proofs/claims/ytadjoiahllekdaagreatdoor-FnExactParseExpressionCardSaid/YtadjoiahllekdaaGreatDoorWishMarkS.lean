/-
  The laws' marks on slices of wishes that are the call's own: markWishS, heldWishS.
-/
import Derived.Test.YtadjoiahllekdaaGreatDoorWishesMem
import Derived.Test.YtadjoiahllekdaaGreatDoorExpMark
namespace Go.Proofs.YtadjoiahllekdaaGreatDoor.num
set_option maxRecDepth 20000
open Go.RowKit
set_option linter.unusedVariables false
set_option linter.unusedSimpArgs false

def markWi (k : Nat) (x : Wi) : Wi := ⟨((k : Nat) : Int), ((k + 1 : Nat) : Int), ((k + 2 : Nat) : Int), x.LA, x.Ln, x.Lc, marks (k + 3) x.ls.length, x.PA, x.Pn, x.Pc, pmarks (k + 3 + x.ls.length) x.ps.length⟩
def cntWi (x : Wi) : Nat := 3 + x.ls.length + 2 * x.ps.length
def markWs : Nat → List Wi → List Wi
  | _, [] => []
  | k, x :: r => markWi k x :: markWs (k + cntWi x) r
def cntWs : List Wi → Nat
  | [] => 0
  | x :: r => cntWi x + cntWs r
theorem cntWs_snoc (l : List Wi) (x : Wi) : cntWs (l ++ [x]) = cntWs l + cntWi x := by
  induction l with
  | nil => simp [cntWs]
  | cons y r ih => simp only [List.cons_append, cntWs, ih]; omega
theorem markWs_snoc (l : List Wi) (x : Wi) : ∀ k, markWs k (l ++ [x]) = markWs k l ++ [markWi (k + cntWs l) x] := by
  induction l with
  | nil => intro k; simp [markWs, cntWs]
  | cons y r ih => intro k; simp only [List.cons_append, markWs, cntWs, ih]; rw [Nat.add_assoc]
theorem markWs_len (l : List Wi) : ∀ k, (markWs k l).length = l.length := by
  induction l with
  | nil => intro k; rfl
  | cons y r ih => intro k; simp [markWs, ih]
theorem markWs_at (l : List Wi) : ∀ (k i : Nat) (x : Wi), l[i]? = some x → (markWs k l)[i]? = some (markWi (k + cntWs (l.take i)) x) := by
  induction l with
  | nil => intro k i x h; simp at h
  | cons y r ih =>
    intro k i x h
    cases i with
    | zero => simp at h; subst h; simp [markWs, cntWs]
    | succ i =>
      have h' : r[i]? = some x := by simpa using h
      simp only [markWs, List.getElem?_cons_succ, List.take_succ_cons, cntWs]
      rw [ih _ i x h', Nat.add_assoc]
/-- Each count of a short list is small. -/
theorem cntWs_le {l : List Wi} (h : ∀ x ∈ l, x.ls.length ≤ 1048576 ∧ x.ps.length ≤ 1048576) : cntWs l ≤ l.length * 3145732 := by
  induction l with
  | nil => simp [cntWs]
  | cons y r ih =>
    have h1 := ih fun x hx => h x (List.mem_cons_of_mem _ hx)
    have h2 := h y (List.mem_cons_self ..)
    simp only [cntWs, cntWi, List.length_cons]
    omega
/-- As far as k, the marks; the rest as it was. -/
theorem markWs_step {l : List Wi} {k k0 : Nat} {x : Wi} (h : l[k]? = some x) : (markWs k0 (l.take k) ++ l.drop k)[k]? = some x ∧ (markWs k0 (l.take k) ++ l.drop k).set k (markWi (k0 + cntWs (l.take k)) x) = markWs k0 (l.take (k + 1)) ++ l.drop (k + 1) := by
  have hlt : k < l.length := by
    rcases Nat.lt_or_ge k l.length with g | g
    · exact g
    · rw [List.getElem?_eq_none g] at h; cases h
  have hl : (markWs k0 (l.take k)).length = k := by rw [markWs_len, List.length_take]; omega
  have hd : l.drop k = x :: l.drop (k + 1) := by
    rw [List.drop_eq_getElem_cons hlt]
    rw [List.getElem?_eq_getElem hlt] at h
    rw [Option.some.inj h]
  refine ⟨by rw [List.getElem?_append_right (by omega), hl, hd]; simp, ?_⟩
  rw [hd, List.set_append_right _ _ (by omega), hl, Nat.sub_self, List.set_cons_zero, ptake_at h, markWs_snoc, List.append_assoc, List.singleton_append]

theorem OwnWs.cells_at {w : World} {B g n c k : Nat} {l : List Wi} {x : Wi} (h : OwnWs w B (.slice (some ⟨g, 0, none⟩) n c) l) (hk : l[k]? = some x) : (∀ (j : Nat) (v : Value), (wishCells x)[j]? = some v → w.cell? ⟨g, k * 5 + j, none⟩ = some v) ∧ ∀ j, w.frozen? ⟨g, j, none⟩ = false := by
  refine ⟨fun j v hv => ?_, fun j => ?_⟩
  · obtain ⟨b, off, e, _, hc⟩ := (h.r.read wishCells_len).at' k x hk
    injection e with e
    injection e with e1 e2
    subst e1 e2
    have := hc j v hv
    rwa [Nat.zero_add] at this
  · rcases h.r.row with ⟨e, _⟩ | ⟨g', cap, f, e, _, _, _, hrow, _⟩
    · cases e
    · injection e with e _ _
      injection e with e
      injection e with e
      subst e
      exact World.rowIs.frozen hrow j
set_option maxRecDepth 20000 in
/-- One element is marked. -/
theorem OwnWs.mark1 {w w5 w6 : World} {B g n c : Nat} {l : List Wi} {k m : Nat} {x : Wi} {u0 : Int} {u1 : Int} {u2 : Int} (hu0 : u0 = ((m : Nat) : Int)) (hu1 : u1 = ((m + 1 : Nat) : Int)) (hu2 : u2 = ((m + 2 : Nat) : Int)) (hm : m ≤ 4700000000000000000) (h : OwnWs w B (.slice (some ⟨g, 0, none⟩) n c) l) (hk : l[k]? = some x)
    (h5 : OnlyV (.slice x.LA x.Ln x.Lc) ((((w.setCell ⟨g, k * 5, none⟩ (.int .i64 u0)).setCell ⟨g, k * 5 + 1, none⟩ (.int .i64 u1)).setCell ⟨g, k * 5 + 2, none⟩ (.int .i64 u2))) w5) (hl : OwnI w5 B (.slice x.LA x.Ln x.Lc) (marks (m + 3) x.ls.length)) (h6 : OnlyV (.slice x.PA x.Pn x.Pc) w5 w6) (hp : OwnP w6 B (.slice x.PA x.Pn x.Pc) (pmarks (m + 3 + x.ls.length) x.ps.length)) :
    OwnWs w6 B (.slice (some ⟨g, 0, none⟩) n c) (l.set k (markWi m x)) ∧ OnlyS (hasWs (.slice (some ⟨g, 0, none⟩) n c) l) w w6 ∧ ∀ b, hasWs (.slice (some ⟨g, 0, none⟩) n c) (l.set k (markWi m x)) b → hasWs (.slice (some ⟨g, 0, none⟩) n c) l b := by
  have hlt : k < l.length := by
    rcases Nat.lt_or_ge k l.length with q | q
    · exact q
    · rw [List.getElem?_eq_none q] at hk; cases hk
  obtain ⟨hwf, hx⟩ := (⟨trivial, h.x k x hk⟩ : True ∧ WiO w B x)
  have hmem : x ∈ l := List.mem_of_getElem? hk
  have a1 : (Value.slice x.LA x.Ln x.Lc).ownBlock ≠ some g := fun e => h.a k x g hk (.inl e) rfl
  have a2 : (Value.slice x.PA x.Pn x.Pc).ownBlock ≠ some g := fun e => h.a k x g hk (.inr e) rfl
  have hoth : ∀ b, b ≠ g → ¬ x.has b → w6.heap[b]? = w.heap[b]? := fun b hb hn => by
    rw [h6.block b fun e => hn (.inr e), h5.block b fun e => hn (.inl e)]
    repeat rw [heap_setCell_other _ _ _ _ (by simpa using hb)]
  have hget : ∀ (i : Nat) (y : Wi), (l.set k (markWi m x))[i]? = some y → (i = k ∧ y = markWi m x) ∨ (i ≠ k ∧ l[i]? = some y) := fun i y hy => by
    by_cases e : i = k
    · subst e
      rw [List.getElem?_set_self hlt] at hy
      exact .inl ⟨rfl, (Option.some.inj hy).symm⟩
    · rw [List.getElem?_set_ne (fun e' => e e'.symm)] at hy
      exact .inr ⟨e, hy⟩
  have hhas : ∀ b, (markWi m x).has b → x.has b := fun b hb => hb
  refine ⟨⟨?_, ?_, ?_, ?_⟩, ?_, ?_⟩
  · rcases h.r.row with ⟨e, _⟩ | ⟨g', cap, f, e, hB, hle, hcap, hrow, hf⟩
    · cases e
    · injection e with e1 e2 e3
      injection e1 with e1
      injection e1 with e1
      subst e1 e2 e3
      have hr6 := World.rowIs.of_block (World.rowIs.of_block (World.rowIs.set (World.rowIs.set (World.rowIs.set hrow (k * 5) (.int .i64 u0)) (k * 5 + 1) (.int .i64 u1)) (k * 5 + 2) (.int .i64 u2)) (h5.block g a1)) (h6.block g a2)
      refine OwnG.of_row wishCells_len hB (by simp) hle hcap hr6 fun j hj => ?_
      rw [fm_set wishCells_len l k _ hlt j hj]
      by_cases e : j / 5 = k
      · obtain ⟨r, hr, rfl⟩ : ∃ r, r < 5 ∧ j = k * 5 + r := ⟨j % 5, Nat.mod_lt _ (by decide), by omega⟩
        rw [if_pos e, show (k * 5 + r) % 5 = r by omega]
        have hold := hf _ hj
        rw [fm_at wishCells_len l k r x hk hr] at hold
        have hr' : r = 0 ∨ r = 1 ∨ r = 2 ∨ r = 3 ∨ r = 4 := by omega
        rcases hr' with rfl | rfl | rfl | rfl | rfl
        · rw [if_neg (by omega), if_neg (by omega), if_pos (by omega)]; exact (congrArg some (congrArg (Value.int .i64) hu0)).symm
        · rw [if_neg (by omega), if_pos rfl]; exact (congrArg some (congrArg (Value.int .i64) hu1)).symm
        · rw [if_pos rfl]; exact (congrArg some (congrArg (Value.int .i64) hu2)).symm
        · rw [if_neg (by omega), if_neg (by omega), if_neg (by omega)]
          exact hold
        · rw [if_neg (by omega), if_neg (by omega), if_neg (by omega)]
          exact hold
      · rw [if_neg e, hf j hj]
        congr 1
        have hj' : ¬ (k * 5 ≤ j ∧ j < k * 5 + 5) := by omega
        rw [if_neg (by omega), if_neg (by omega), if_neg (by omega)]
  · intro i y hy
    rcases hget i y hy with ⟨rfl, rfl⟩ | ⟨hne, hy⟩
    · exact ⟨wf_small (by omega), wf_small (by omega), wf_small (by omega), ownI_blocks hl (fun b hb => h6.block b (hx.a b hb)), hp, hx.a⟩
    · have q2 := h.x i y hy
      refine q2.blocks fun b hb => hoth b (fun e => h.a i y b hy hb (by rw [e]; rfl)) fun hb' => ?_
      rcases Nat.lt_or_gt_of_ne hne with q | q
      · exact h.d i k y x b q hy hk hb hb'
      · exact h.d k i x y b q hk hy hb' hb
  · intro i y b hy hb
    rcases hget i y hy with ⟨rfl, rfl⟩ | ⟨hne, hy⟩
    · exact h.a i x b hk (hhas b hb)
    · exact h.a i y b hy hb
  · intro i j y z b hij hy hz hb hb'
    rcases hget i y hy with ⟨ei, rfl⟩ | ⟨_, hy2⟩ <;> rcases hget j z hz with ⟨ej, rfl⟩ | ⟨_, hz2⟩
    · omega
    · exact h.d i j x z b hij (by rw [ei]; exact hk) hz2 (hhas b hb) hb'
    · exact h.d i j y x b hij hy2 (by rw [ej]; exact hk) hb (hhas b hb')
    · exact h.d i j y z b hij hy2 hz2 hb hb'
  · have hs : ∀ b, x.has b → hasWs (.slice (some ⟨g, 0, none⟩) n c) l b := fun b hb => .inr ⟨x, hmem, hb⟩
    exact (((((OnlyS.refl _ w).set (.inl rfl) _ _).set (.inl rfl) _ _).set (.inl rfl) _ _).trans (h5.s fun b hb => hs b (.inl hb))).trans (h6.s fun b hb => hs b (.inr hb))
  · intro b hb
    rcases hb with hb | ⟨y, hy, hb⟩
    · exact .inl hb
    · obtain ⟨i, hi, rfl⟩ := List.getElem_of_mem hy
      rcases hget i _ (List.getElem?_eq_getElem hi) with ⟨_, e⟩ | ⟨_, hy'⟩
      · rw [e] at hb
        exact .inr ⟨x, hmem, hhas b hb⟩
      · exact .inr ⟨_, List.mem_of_getElem? hy', hb⟩
end Go.Proofs.YtadjoiahllekdaaGreatDoor.num
