/-
  The laws' marks on slices of wishes that are the call's own: markWishS, heldWishS.
-/
import Derived.Test.YtmbchpdcgjlggaaWishesMem
import Derived.Test.YtmbchpdcgjlggaaExpMark
namespace Go.Proofs.Ytmbchpdcgjlggaa.num
set_option maxRecDepth 20000
open Go.RowKit
set_option linter.unusedVariables false
set_option linter.unusedSimpArgs false

def markWi (k : Nat) (x : Wi) : Wi := ⟨((k : Nat) : Int), ((k + 1 : Nat) : Int), ((k + 2 : Nat) : Int), x.LA, x.Ln, x.Lc, marks (k + 3) x.ls.length, x.PA, x.Pn, x.Pc, pmarks (k + 3 + x.ls.length) x.ps.length⟩
def cntWi (x : Wi) : Nat := 3 + x.ls.length + 2 * x.ps.length
def markWs : Nat → List Wi → List Wi
  | _, [] => []
  | k, x :: r => markWi k x :: markWs (k + cntWi x) r
def cntWs : List Wi → Nat
  | [] => 0
  | x :: r => cntWi x + cntWs r
theorem cntWs_snoc (l : List Wi) (x : Wi) : cntWs (l ++ [x]) = cntWs l + cntWi x := by
  induction l with
  | nil => simp [cntWs]
  | cons y r ih => simp only [List.cons_append, cntWs, ih]; omega
theorem markWs_snoc (l : List Wi) (x : Wi) : ∀ k, markWs k (l ++ [x]) = markWs k l ++ [markWi (k + cntWs l) x] := by
  induction l with
  | nil => intro k; simp [markWs, cntWs]
  | cons y r ih => intro k; simp only [List.cons_append, markWs, cntWs, ih]; rw [Nat.add_assoc]
theorem markWs_len (l : List Wi) : ∀ k, (markWs k l).length = l.length := by
  induction l with
  | nil => intro k; rfl
  | cons y r ih => intro k; simp [markWs, ih]
theorem markWs_at (l : List Wi) : ∀ (k i : Nat) (x : Wi), l[i]? = some x → (markWs k l)[i]? = some (markWi (k + cntWs (l.take i)) x) := by
  induction l with
  | nil => intro k i x h; simp at h
  | cons y r ih =>
    intro k i x h
    cases i with
    | zero => simp at h; subst h; simp [markWs, cntWs]
    | succ i =>
      have h' : r[i]? = some x := by simpa using h
      simp only [markWs, List.getElem?_cons_succ, List.take_succ_cons, cntWs]
      rw [ih _ i x h', Nat.add_assoc]
/-- Each count of a short list is small. -/
theorem cntWs_le {l : List Wi} (h : ∀ x ∈ l, x.ls.length ≤ 1048576 ∧ x.ps.length ≤ 1048576) : cntWs l ≤ l.length * 3145732 := by
  induction l with
  | nil => simp [cntWs]
  | cons y r ih =>
    have h1 := ih fun x hx => h x (List.mem_cons_of_mem _ hx)
    have h2 := h y (List.mem_cons_self ..)
    simp only [cntWs, cntWi, List.length_cons]
    omega
/-- As far as k, the marks; the rest as it was. -/
theorem markWs_step {l : List Wi} {k k0 : Nat} {x : Wi} (h : l[k]? = some x) : (markWs k0 (l.take k) ++ l.drop k)[k]? = some x ∧ (markWs k0 (l.take k) ++ l.drop k).set k (markWi (k0 + cntWs (l.take k)) x) = markWs k0 (l.take (k + 1)) ++ l.drop (k + 1) := by
  have hlt : k < l.length := by
    rcases Nat.lt_or_ge k l.length with g | g
    · exact g
    · rw [List.getElem?_eq_none g] at h; cases h
  have hl : (markWs k0 (l.take k)).length = k := by rw [markWs_len, List.length_take]; omega
  have hd : l.drop k = x :: l.drop (k + 1) := by
    rw [List.drop_eq_getElem_cons hlt]
    rw [List.getElem?_eq_getElem hlt] at h
    rw [Option.some.inj h]
  refine ⟨by rw [List.getElem?_append_right (by omega), hl, hd]; simp, ?_⟩
  rw [hd, List.set_append_right _ _ (by omega), hl, Nat.sub_self, List.set_cons_zero, ptake_at h, markWs_snoc, List.append_assoc, List.singleton_append]

theorem OwnWs.cells_at {w : World} {B g n c k : Nat} {l : List Wi} {x : Wi} (h : OwnWs w B (.slice (some ⟨g, 0, none⟩) n c) l) (hk : l[k]? = some x) : (∀ (j : Nat) (v : Value), (wishCells x)[j]? = some v → w.cell? ⟨g, k * 5 + j, none⟩ = some v) ∧ ∀ j, w.frozen? ⟨g, j, none⟩ = false := by
  refine ⟨fun j v hv => ?_, fun j => ?_⟩
  · obtain ⟨b, off, e, _, hc⟩ := (h.r.read wishCells_len).at' k x hk
    injection e with e
    injection e with e1 e2
    subst e1 e2
    have := hc j v hv
    rwa [Nat.zero_add] at this
  · rcases h.r.row with ⟨e, _⟩ | ⟨g', cap, f, e, _, _, _, hrow, _⟩
    · cases e
    · injection e with e _ _
      injection e with e
      injection e with e
      subst e
      exact World.rowIs.frozen hrow j
set_option maxRecDepth 20000 in
/-- One element is marked. -/
theorem OwnWs.mark1 {w w5 w6 : World} {B g n c : Nat} {l : List Wi} {k m : Nat} {x : Wi} {u0 : Int} {u1 : Int} {u2 : Int} (hu0 : u0 = ((m : Nat) : Int)) (hu1 : u1 = ((m + 1 : Nat) : Int)) (hu2 : u2 = ((m + 2 : Nat) : Int)) (hm : m ≤ 4700000000000000000) (h : OwnWs w B (.slice (some ⟨g, 0, none⟩) n c) l) (hk : l[k]? = some x)
    (h5 : OnlyV (.slice x.LA x.Ln x.Lc) ((((w.setCell ⟨g, k * 5, none⟩ (.int .i64 u0)).setCell ⟨g, k * 5 + 1, none⟩ (.int .i64 u1)).setCell ⟨g, k * 5 + 2, none⟩ (.int .i64 u2))) w5) (hl : OwnI w5 B (.slice x.LA x.Ln x.Lc) (marks (m + 3) x.ls.length)) (h6 : OnlyV (.slice x.PA x.Pn x.Pc) w5 w6) (hp : OwnP w6 B (.slice x.PA x.Pn x.Pc) (pmarks (m + 3 + x.ls.length) x.ps.length)) :
    OwnWs w6 B (.slice (some ⟨g, 0, none⟩) n c) (l.set k (markWi m x)) ∧ OnlyS (hasWs (.slice (some ⟨g, 0, none⟩) n c) l) w w6 ∧ ∀ b, hasWs (.slice (some ⟨g, 0, none⟩) n c) (l.set k (markWi m x)) b → hasWs (.slice (some ⟨g, 0, none⟩) n c) l b := by
  have hlt : k < l.length := by
    rcases Nat.lt_or_ge k l.length with q | q
    · exact q
    · rw [List.getElem?_eq_none q] at hk; cases hk
  obtain ⟨hwf, hx⟩ := (⟨trivial, h.x k x hk⟩ : True ∧ WiO w B x)
  have hmem : x ∈ l := List.mem_of_getElem? hk
  have a1 : (Value.slice x.LA x.Ln x.Lc).ownBlock ≠ some g := fun e => h.a k x g hk (.inl e) rfl
  have a2 : (Value.slice x.PA x.Pn x.Pc).ownBlock ≠ some g := fun e => h.a k x g hk (.inr e) rfl
  have hoth : ∀ b, b ≠ g → ¬ x.has b → w6.heap[b]? = w.heap[b]? := fun b hb hn => by
    rw [h6.block b fun e => hn (.inr e), h5.block b fun e => hn (.inl e)]
    repeat rw [heap_setCell_other _ _ _ _ (by simpa using hb)]
  have hget : ∀ (i : Nat) (y : Wi), (l.set k (markWi m x))[i]? = some y → (i = k ∧ y = markWi m x) ∨ (i ≠ k ∧ l[i]? = some y) := fun i y hy => by
    by_cases e : i = k
    · subst e
      rw [List.getElem?_set_self hlt] at hy
      exact .inl ⟨rfl, (Option.some.inj hy).symm⟩
    · rw [List.getElem?_set_ne (fun e' => e e'.symm)] at hy
      exact .inr ⟨e, hy⟩
  have hhas : ∀ b, (markWi m x).has b → x.has b := fun b hb => hb
  refine ⟨⟨?_, ?_, ?_, ?_⟩, ?_, ?_⟩
  · rcases h.r.row with ⟨e, _⟩ | ⟨g', cap, f, e, hB, hle, hcap, hrow, hf⟩
    · cases e
    · injection e with e1 e2 e3
      injection e1 with e1
      injection e1 with e1
      subst e1 e2 e3
      have hr6 := World.rowIs.of_block (World.rowIs.of_block (World.rowIs.set (World.rowIs.set (World.rowIs.set hrow (k * 5) (.int .i64 u0)) (k * 5 + 1) (.int .i64 u1)) (k * 5 + 2) (.int .i64 u2)) (h5.block g a1)) (h6.block g a2)
      refine OwnG.of_row wishCells_len hB (by simp) hle hcap hr6 fun j hj => ?_
      rw [fm_set wishCells_len l k _ hlt j hj]
      by_cases e : j / 5 = k
      · obtain ⟨r, hr, rfl⟩ : ∃ r, r < 5 ∧ j = k * 5 + r := ⟨j % 5, Nat.mod_lt _ (by decide), by omega⟩
        rw [if_pos e, show (k * 5 + r) % 5 = r by omega]
        have hold := hf _ hj
        rw [fm_at wishCells_len l k r x hk hr] at hold
        have hr' : r = 0 ∨ r = 1 ∨ r = 2 ∨ r = 3 ∨ r = 4 := by omega
        rcases hr' with rfl | rfl | rfl | rfl | rfl
        · rw [if_neg (by omega), if_neg (by omega), if_pos (by omega)]; exact (congrArg some (congrArg (Value.int .i64) hu0)).symm
        · rw [if_neg (by omega), if_pos rfl]; exact (congrArg some (congrArg (Value.int .i64) hu1)).symm
        · rw [if_pos rfl]; exact (congrArg some (congrArg (Value.int .i64) hu2)).symm
        · rw [if_neg (by omega), if_neg (by omega), if_neg (by omega)]
          exact hold
        · rw [if_neg (by omega), if_neg (by omega), if_neg (by omega)]
          exact hold
      · rw [if_neg e, hf j hj]
        congr 1
        have hj' : ¬ (k * 5 ≤ j ∧ j < k * 5 + 5) := by omega
        rw [if_neg (by omega), if_neg (by omega), if_neg (by omega)]
  · intro i y hy
    rcases hget i y hy with ⟨rfl, rfl⟩ | ⟨hne, hy⟩
    · exact ⟨wf_small (by omega), wf_small (by omega), wf_small (by omega), ownI_blocks hl (fun b hb => h6.block b (hx.a b hb)), hp, hx.a⟩
    · have q2 := h.x i y hy
      refine q2.blocks fun b hb => hoth b (fun e => h.a i y b hy hb (by rw [e]; rfl)) fun hb' => ?_
      rcases Nat.lt_or_gt_of_ne hne with q | q
      · exact h.d i k y x b q hy hk hb hb'
      · exact h.d k i x y b q hk hy hb' hb
  · intro i y b hy hb
    rcases hget i y hy with ⟨rfl, rfl⟩ | ⟨hne, hy⟩
    · exact h.a i x b hk (hhas b hb)
    · exact h.a i y b hy hb
  · intro i j y z b hij hy hz hb hb'
    rcases hget i y hy with ⟨ei, rfl⟩ | ⟨_, hy2⟩ <;> rcases hget j z hz with ⟨ej, rfl⟩ | ⟨_, hz2⟩
    · omega
    · exact h.d i j x z b hij (by rw [ei]; exact hk) hz2 (hhas b hb) hb'
    · exact h.d i j y x b hij hy2 (by rw [ej]; exact hk) hb (hhas b hb')
    · exact h.d i j y z b hij hy2 hz2 hb hb'
  · have hs : ∀ b, x.has b → hasWs (.slice (some ⟨g, 0, none⟩) n c) l b := fun b hb => .inr ⟨x, hmem, hb⟩
    exact (((((OnlyS.refl _ w).set (.inl rfl) _ _).set (.inl rfl) _ _).set (.inl rfl) _ _).trans (h5.s fun b hb => hs b (.inl hb))).trans (h6.s fun b hb => hs b (.inr hb))
  · intro b hb
    rcases hb with hb | ⟨y, hy, hb⟩
    · exact .inl hb
    · obtain ⟨i, hi, rfl⟩ := List.getElem_of_mem hy
      rcases hget i _ (List.getElem?_eq_getElem hi) with ⟨_, e⟩ | ⟨_, hy'⟩
      · rw [e] at hb
        exact .inr ⟨x, hmem, hhas b hb⟩
      · exact .inr ⟨_, List.mem_of_getElem? hy', hb⟩
set_option maxRecDepth 20000 in
set_option maxHeartbeats 1600000 in
theorem markWishS_c (w : World) (B : Nat) (v : Value) (ns : List Wi) (h : OwnWs w B v ns) (hn : ns.length ≤ 1048576) (hN : ∀ x ∈ ns, x.ls.length ≤ 1048576 ∧ x.ps.length ≤ 1048576) (k0 : Nat) (hk0 : k0 ≤ 1125899906842624) :
    Calls Try.prog 40 #[v, .int .i64 k0] w fun e w' => e = .returned (.int .i64 ((k0 + cntWs ns : Nat) : Int)) ∧ OwnWs w' B v (markWs k0 ns) ∧ OnlyS (hasWs v ns) w w' := by
  rcases h.r.row with ⟨rfl, rfl⟩ | ⟨g, cap, f, rfl, hB, hle, hcap, hrow, hf⟩
  · go_enter Try.func40, Try.ntmps40
    go_wp2
    go_loopw [1, 5] (fun m i wr => i = .int .i64 0 ∧ m = .int .i64 k0 ∧ wr = w) (fun _ _ _ => 0)
    case atStart => exact ⟨rfl, rfl, rfl⟩
    case round =>
      obtain ⟨rfl, rfl, rfl⟩ := hrel
      go_wp2
      go_ret
      exact ⟨rfl, h, OnlyS.refl _ _⟩
  · obtain ⟨n, hn'⟩ : ∃ n, n = ns.length := ⟨_, rfl⟩
    rw [← hn'] at hn hle ⊢
    rw [← hn'] at h
    have HX := Lib.hid h
    have HN := Lib.hid hN
    have HLen := Lib.hid hn'
    have hcap' : cap ≤ 9223372036854775807 := by unfold maxLen at hcap; omega
    clear h hrow hf hN hn' hcap
    go_enter Try.func40, Try.ntmps40
    go_wp2
    go_loopw [1, 5] (fun m i wr => ∃ k : Nat, k ≤ n ∧ i = .int .i64 k ∧ m = .int .i64 ((k0 + cntWs (ns.take k) : Nat) : Int) ∧ OwnWs wr B (.slice (some ⟨g, 0, none⟩) n cap) (markWs k0 (ns.take k) ++ ns.drop k) ∧ OnlyS (hasWs (.slice (some ⟨g, 0, none⟩) n cap) ns) w wr ∧ ∀ b, hasWs (.slice (some ⟨g, 0, none⟩) n cap) (markWs k0 (ns.take k) ++ ns.drop k) b → hasWs (.slice (some ⟨g, 0, none⟩) n cap) ns b) (fun _ i _ => n - (intOf i).toNat)
    case atStart => exact ⟨0, Nat.zero_le _, rfl, rfl, by simpa [markWs] using HX.out, OnlyS.refl _ _, by simp [markWs]⟩
    case round =>
      obtain ⟨k, hk, rfl, rfl, hown, honly, hsub⟩ := hrel
      have HR := Lib.hid hown
      have HO := Lib.hid honly
      have HSub := Lib.hid hsub
      have hcnt : cntWs (ns.take k) ≤ k * 3145732 := by
        have := cntWs_le (l := ns.take k) fun x hx => HN.out x (List.mem_of_mem_take hx)
        rw [List.length_take] at this
        have h2 : min k ns.length * 3145732 ≤ k * 3145732 := Nat.mul_le_mul_right _ (Nat.min_le_left _ _)
        exact Nat.le_trans this h2
      by_cases hlt : k < n
      · obtain ⟨x, hat⟩ : ∃ x, ns[k]? = some x := ⟨_, List.getElem?_eq_getElem (by rw [← HLen.out]; exact hlt)⟩
        obtain ⟨hst1, hst2⟩ := markWs_step (k0 := k0) hat
        obtain ⟨hc, hz⟩ := hown.cells_at hst1
        obtain ⟨hl, hp⟩ := HN.out x (List.mem_of_getElem? hat)
        have hwio : WiO wr B x := hown.x k x hst1
        have e0 : wr.cell? ⟨g, k * 5, none⟩ = some (.int .i64 x.kind) := hc 0 _ rfl
        have e1 := hc 1 _ rfl
        have e2 := hc 2 _ rfl
        have e3 := hc 3 _ rfl
        have e4 := hc 4 _ rfl
        have f0 := hz (k * 5)
        have f1 := hz (k * 5 + 1)
        have f2 := hz (k * 5 + 2)
        have HST1 := Lib.hid hst1
        have HST2 := Lib.hid hst2
        have HCnt : Hid (cntWs (ns.take (k + 1)) = cntWs (ns.take k) + cntWi x) := Lib.hid (by rw [ptake_at hat, cntWs_snoc])
        have HA1 : Hid ((Value.slice x.LA x.Ln x.Lc).ownBlock ≠ some g) := Lib.hid fun e => hown.a k x g hst1 (.inl e) rfl
        have HA2 : Hid ((Value.slice x.PA x.Pn x.Pc).ownBlock ≠ some g) := Lib.hid fun e => hown.a k x g hst1 (.inr e) rfl
        have HWo := Lib.hid hwio
        have HLp := Lib.hid (And.intro hl hp)
        obtain ⟨m, hm⟩ : ∃ m : Nat, m = k0 + cntWs (ns.take k) := ⟨_, rfl⟩
        rw [← hm]
        have hm1 : m ≤ 1200000000000000 := by omega
        have HM := Lib.hid hm
        clear hown honly hsub hm hst1 hst2 hc hz hl hp hwio hcnt hat
        go_wp2_with fail
        refine (markI' _ B _ x.ls (ownI_blocks HWo.out.l fun b hb => by
          have hne : b ≠ g := fun e => HA1.out (by rw [← e]; exact hb)
          repeat rw [heap_setCell_other _ _ _ _ (by simpa using hne)]) HLp.out.1 _ (m + 3) (by omega) (by omega)).mono ?_
        rintro e w5 ⟨rfl, hm5, h5⟩
        have HM5 := Lib.hid hm5
        have H5 := Lib.hid h5
        have e4 := (World.cell?_of_block (a := ⟨g, k * 5 + 4, none⟩) (h5.block g HA1.out)).trans (((World.cell?_setCell_other _ _ _ _ (by simp)).trans ((World.cell?_setCell_other _ _ _ _ (by simp)).trans (World.cell?_setCell_other _ _ _ _ (by simp)))).trans e4)
        have HP5 : Hid (OwnP w5 B (.slice x.PA x.Pn x.Pc) x.ps) := Lib.hid (HWo.out.p.blocks fun b hb => by
          have hne : b ≠ g := fun e => HA2.out (by rw [← e]; exact hb)
          rw [h5.block b fun e => HWo.out.a b e hb]
          repeat rw [heap_setCell_other _ _ _ _ (by simpa using hne)])
        clear hm5 h5 e0 e1 e2 e3 f0 f1 f2
        go_wp2_with fail
        refine (markP w5 B _ x.ps HP5.out HLp.out.2 (m + 3 + x.ls.length) (by have := HLp.out.1; omega)).mono ?_
        rintro e w6 ⟨rfl, hm6, h6⟩
        have HS := Lib.hid (OwnWs.mark1 (by omega) (by omega) (by omega) (Nat.le_trans hm1 (by decide)) HR.out HST1.out H5.out HM5.out h6 hm6)
        clear hm6 h6 e4
        go_wp2
        go_roundw
        case rel =>
          obtain ⟨s1, s2, s3⟩ := HS.out
          have e1 := HM.out
          refine ⟨k + 1, by omega, by go_num, ?_, ?_, ?_, ?_⟩
          · rw [HCnt.out]; congr 2; unfold cntWi; omega
          · rw [← HST2.out, ← e1]; exact s1
          · exact HO.out.trans (s2.sub HSub.out)
          · rw [← HST2.out, ← e1]; exact fun b hb => HSub.out b (s3 b hb)
        case measure => simp [intOf]; omega
      · obtain rfl : k = n := by omega
        have ht : ns.take k = ns := List.take_of_length_le (by rw [← HLen.out]; exact Nat.le_refl _)
        have hd : ns.drop k = [] := List.drop_eq_nil_of_le (by rw [← HLen.out]; exact Nat.le_refl _)
        rw [ht]
        have HR2 : Hid (OwnWs wr B (.slice (some ⟨g, 0, none⟩) k cap) (markWs k0 ns)) := Lib.hid (by have := HR.out; rwa [ht, hd, List.append_nil] at this)
        clear hown honly hsub ht hd
        obtain ⟨m, hm⟩ : ∃ m : Nat, m = k0 + cntWs ns := ⟨_, rfl⟩
        rw [← hm]
        have HM := Lib.hid hm
        clear hm hcnt
        go_wp2
        go_ret
        exact ⟨by show Ending.returned (.int .i64 (m : Int)) = _; rw [HM.out], HR2.out, HO.out⟩
set_option maxRecDepth 20000 in
set_option maxHeartbeats 1600000 in
theorem heldWishS_c (w : World) (B : Nat) (v : Value) (ns : List Wi) (k0 : Nat) (h : OwnWs w B v (markWs k0 ns)) (hn : ns.length ≤ 1048576) (hN : ∀ x ∈ ns, x.ls.length ≤ 1048576 ∧ x.ps.length ≤ 1048576) (hk0 : k0 ≤ 1125899906842624) :
    Calls Try.prog 41 #[v, .int .i64 k0] w fun e w' => e = .returned (.int .i64 ((k0 + cntWs ns : Nat) : Int)) ∧ w = w' := by
  rcases h.r.row with ⟨rfl, h0⟩ | ⟨g, cap, f, rfl, hB, hle, hcap, hrow, hf⟩
  · obtain rfl : ns = [] := by
      have := congrArg List.length h0
      rw [markWs_len] at this
      exact List.eq_nil_of_length_eq_zero this
    go_enter Try.func41, Try.ntmps41
    go_wp2
    go_loopw [1, 5] (fun m i wr => i = .int .i64 0 ∧ m = .int .i64 k0 ∧ wr = w) (fun _ _ _ => 0)
    case atStart => exact ⟨rfl, rfl, rfl⟩
    case round =>
      obtain ⟨rfl, rfl, rfl⟩ := hrel
      go_wp2
      go_ret
      exact ⟨rfl, rfl⟩
  · obtain ⟨n, hn'⟩ : ∃ n, n = ns.length := ⟨_, rfl⟩
    rw [markWs_len, ← hn'] at hle h
    rw [← hn'] at hn
    rw [markWs_len, ← hn']
    have HX := Lib.hid h
    have HN := Lib.hid hN
    have HLen := Lib.hid hn'
    have hcap' : cap ≤ 9223372036854775807 := by unfold maxLen at hcap; omega
    clear h hrow hf hN hn' hcap
    go_enter Try.func41, Try.ntmps41
    go_wp2
    go_loopw [1, 5] (fun m i wr => ∃ k : Nat, k ≤ n ∧ i = .int .i64 k ∧ m = .int .i64 ((k0 + cntWs (ns.take k) : Nat) : Int) ∧ wr = w) (fun _ i _ => n - (intOf i).toNat)
    case atStart => exact ⟨0, Nat.zero_le _, rfl, rfl, rfl⟩
    case round =>
      obtain ⟨k, hk, rfl, rfl, rfl⟩ := hrel
      have hcnt : cntWs (ns.take k) ≤ k * 3145732 := by
        have := cntWs_le (l := ns.take k) fun x hx => HN.out x (List.mem_of_mem_take hx)
        rw [List.length_take] at this
        have h2 : min k ns.length * 3145732 ≤ k * 3145732 := Nat.mul_le_mul_right _ (Nat.min_le_left _ _)
        exact Nat.le_trans this h2
      by_cases hlt : k < n
      · obtain ⟨x, hat⟩ : ∃ x, ns[k]? = some x := ⟨_, List.getElem?_eq_getElem (by rw [← HLen.out]; exact hlt)⟩
        have hst1 := markWs_at ns k0 k x hat
        obtain ⟨hc, -⟩ := HX.out.cells_at hst1
        obtain ⟨hl, hp⟩ := HN.out x (List.mem_of_getElem? hat)
        have hwio : WiO wr B (markWi (k0 + cntWs (ns.take k)) x) := HX.out.x k _ hst1
        have HCnt : Hid (cntWs (ns.take (k + 1)) = cntWs (ns.take k) + cntWi x) := Lib.hid (by rw [ptake_at hat, cntWs_snoc])
        obtain ⟨m, hm⟩ : ∃ m : Nat, m = k0 + cntWs (ns.take k) := ⟨_, rfl⟩
        rw [← hm] at hc hwio ⊢
        have hm1 : m ≤ 1200000000000000 := by omega
        have e0 : wr.cell? ⟨g, k * 5, none⟩ = some (.int .i64 ((m : Nat) : Int)) := hc 0 _ rfl
        have e1 : wr.cell? ⟨g, k * 5 + 1, none⟩ = some (.int .i64 ((m + 1 : Nat) : Int)) := hc 1 _ rfl
        have e2 : wr.cell? ⟨g, k * 5 + 2, none⟩ = some (.int .i64 ((m + 2 : Nat) : Int)) := hc 2 _ rfl
        have e3 : wr.cell? ⟨g, k * 5 + 3, none⟩ = some (.slice x.LA x.Ln x.Lc) := hc 3 _ rfl
        have e4 : wr.cell? ⟨g, k * 5 + 4, none⟩ = some (.slice x.PA x.Pn x.Pc) := hc 4 _ rfl
        have HLi : Hid (OwnI wr B (.slice x.LA x.Ln x.Lc) (marks (m + 3) x.ls.length)) := Lib.hid hwio.l
        have HPi : Hid (OwnP wr B (.slice x.PA x.Pn x.Pc) (pmarks (m + 3 + x.ls.length) x.ps.length)) := Lib.hid hwio.p
        have HLp := Lib.hid (And.intro hl hp)
        have HM := Lib.hid hm
        clear hm hst1 hc hl hp hwio hcnt hat
        go_wp2_with fail
        refine (heldI' wr B _ (m + 3) x.ls.length HLi.out HLp.out.1 _ (by omega) (by omega)).mono ?_
        rintro e w5 ⟨rfl, rfl⟩
        have d1 : decide (((m + 3 + x.ls.length : Nat) : Int) < 0) = false := by simp; omega
        go_wp2_with fail
        refine (heldP wr B _ (m + 3 + x.ls.length) x.ps.length HPi.out HLp.out.2 (by have := HLp.out.1; omega)).mono ?_
        rintro e w6 ⟨rfl, rfl⟩
        have d2 : decide (((m + 3 + x.ls.length + 2 * x.ps.length : Nat) : Int) < 0) = false := by simp; omega
        go_wp2
        go_roundw
        case rel =>
          have e1 := HM.out
          refine ⟨k + 1, by omega, by go_num, ?_, by first | rfl | trivial⟩
          rw [HCnt.out]; congr 2; unfold cntWi; omega
        case measure => simp [intOf]; omega
      · obtain rfl : k = n := by omega
        have ht : ns.take k = ns := List.take_of_length_le (by rw [← HLen.out]; exact Nat.le_refl _)
        rw [ht]
        obtain ⟨m, hm⟩ : ∃ m : Nat, m = k0 + cntWs ns := ⟨_, rfl⟩
        rw [← hm]
        have HM := Lib.hid hm
        clear hm ht hcnt
        go_wp2
        go_ret
        exact ⟨by show Ending.returned (.int .i64 (m : Int)) = _; rw [HM.out], rfl⟩
end Go.Proofs.Ytmbchpdcgjlggaa.num
