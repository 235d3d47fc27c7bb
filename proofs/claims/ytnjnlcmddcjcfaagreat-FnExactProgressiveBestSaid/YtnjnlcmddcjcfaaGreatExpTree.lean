/-
  The program's tree of an expression: what it is in memory; how it is built.
-/
import Derived.Test.YtnjnlcmddcjcfaaGreatExpEq
import Derived.Test.YtnjnlcmddcjcfaaGreatWishProg
import Derived.BigRegion
namespace Go.Proofs.YtnjnlcmddcjcfaaGreat.num
set_option maxRecDepth 20000
open Go.RowKit Go.Maps
set_option linter.unusedVariables false
set_option linter.unusedSimpArgs false

/-- A part's row: its node, its taste, its operands. -/
def partRow (op : Int) (t : Wi) (v6 v7 v8 : Value) : Obj := .cells #[.int .i64 op, .int .i64 t.kind, .int .i64 t.field, .int .i64 t.value, .slice t.LA t.Ln t.Lc, .slice t.PA t.Pn t.Pc, v6, v7, v8] 152 (0, 0)
theorem part0 {w : World} {p : Nat} {op : Int} {t : Wi} {v6 v7 v8 : Value} (h : w.heap[p]? = some (partRow op t v6 v7 v8)) : w.cell? ⟨p, 0, none⟩ = some (.int .i64 op) := cell_of_row w _ 0 _ _ (0, 0) h
theorem part2 {w : World} {p : Nat} {op : Int} {t : Wi} {v6 v7 v8 : Value} (h : w.heap[p]? = some (partRow op t v6 v7 v8)) : w.cell? ⟨p, 2, none⟩ = some (.int .i64 t.field) := cell_of_row w _ 2 _ _ (0, 0) h
theorem part6 {w : World} {p : Nat} {op : Int} {t : Wi} {v6 v7 v8 : Value} (h : w.heap[p]? = some (partRow op t v6 v7 v8)) : w.cell? ⟨p, 6, none⟩ = some v6 := cell_of_row w _ 6 _ _ (0, 0) h
theorem part7 {w : World} {p : Nat} {op : Int} {t : Wi} {v6 v7 v8 : Value} (h : w.heap[p]? = some (partRow op t v6 v7 v8)) : w.cell? ⟨p, 7, none⟩ = some v7 := cell_of_row w _ 7 _ _ (0, 0) h
theorem part8 {w : World} {p : Nat} {op : Int} {t : Wi} {v6 v7 v8 : Value} (h : w.heap[p]? = some (partRow op t v6 v7 v8)) : w.cell? ⟨p, 8, none⟩ = some v8 := cell_of_row w _ 8 _ _ (0, 0) h
/-- The tree t lies at block p, all its own memory from block lo on; its wishes' slices below block B. -/
def PartAt (w : World) (B lo : Nat) : Tr → Nat → Prop
  | .base d, p => lo ≤ p ∧ p < w.heap.size ∧ ∃ (t : Wi) (v : Value), w.heap[p]? = some (partRow 0 t v (.pointer none) (.pointer none)) ∧ t.dat = d ∧ t.Short ∧ WiIn w B t ∧ IsW d ∧ TasteFrom w lo t v
  | .dual a, p => lo ≤ p ∧ p < w.heap.size ∧ ∃ (t : Wi) (q : Nat), w.heap[p]? = some (partRow 3 t .nilIface (.pointer (some ⟨q, 0, none⟩)) (.pointer none)) ∧ NoW t.dat ∧ t.Short ∧ WiIn w B t ∧ PartAt w B lo a q
  | .bin op a b, p => lo ≤ p ∧ p < w.heap.size ∧ Bin op ∧ ∃ (t : Wi) (q r : Nat), w.heap[p]? = some (partRow op t .nilIface (.pointer (some ⟨q, 0, none⟩)) (.pointer (some ⟨r, 0, none⟩))) ∧ NoW t.dat ∧ t.Short ∧ WiIn w B t ∧ PartAt w B lo a q ∧ PartAt w B lo b r
theorem WiIn.blocks {w w' : World} {B : Nat} {t : Wi} (h : WiIn w B t) (hb : ∀ k, k < B → w'.heap[k]? = w.heap[k]?) : WiIn w' B t :=
  ⟨h.k, h.f, h.v, ⟨h.l.1, fun k hk => by
    obtain ⟨b, off, ha, hB, hc⟩ := h.l.2 k hk
    exact ⟨b, off, ha, hB, (World.cell?_of_block (a := ⟨b, off + k, none⟩) (hb b hB)).trans hc⟩⟩, ⟨h.p.1, fun k p hk => by
    obtain ⟨b, off, ha, hB, h1, h2⟩ := h.p.2 k p hk
    exact ⟨b, off, ha, hB, (World.cell?_of_block (a := ⟨b, off + k * 2, none⟩) (hb b hB)).trans h1, (World.cell?_of_block (a := ⟨b, off + k * 2 + 1, none⟩) (hb b hB)).trans h2⟩⟩⟩
theorem PartAt.kept {w w' : World} {B lo : Nat} (hsz : w.heap.size ≤ w'.heap.size) (hb : ∀ k, k < B ∨ (lo ≤ k ∧ k < w.heap.size) → w'.heap[k]? = w.heap[k]?) : ∀ {t : Tr} {p : Nat}, PartAt w B lo t p → PartAt w' B lo t p
  | .base d, p, ⟨h0, h1, t, v, h2, h3, h4, h5, h6, h7⟩ => ⟨h0, Nat.lt_of_lt_of_le h1 hsz, t, v, (hb p (.inr ⟨h0, h1⟩)).trans h2, h3, h4, h5.blocks fun k hk => hb k (.inl hk), h6, h7.kept fun k h1 h2 => hb k (.inr ⟨h1, h2⟩)⟩
  | .dual a, p, ⟨h0, h1, t, q, h2, h3, h4, h5, h6⟩ => ⟨h0, Nat.lt_of_lt_of_le h1 hsz, t, q, (hb p (.inr ⟨h0, h1⟩)).trans h2, h3, h4, h5.blocks fun k hk => hb k (.inl hk), PartAt.kept hsz hb h6⟩
  | .bin op a b, p, ⟨h0, h1, h', t, q, r, h2, h3, h4, h5, h6, h7⟩ => ⟨h0, Nat.lt_of_lt_of_le h1 hsz, h', t, q, r, (hb p (.inr ⟨h0, h1⟩)).trans h2, h3, h4, h5.blocks fun k hk => hb k (.inl hk), PartAt.kept hsz hb h6, PartAt.kept hsz hb h7⟩
theorem PartAt.below {w w' : World} {B lo : Nat} (hB : B ≤ w.heap.size) (hb : Below w.heap.size w w') {t : Tr} {p : Nat} (h : PartAt w B lo t p) : PartAt w' B lo t p :=
  h.kept hb.size fun k hk => hb.block k (by rcases hk with hk | hk <;> omega)
theorem PartAt.low {w : World} {B lo lo' : Nat} (hl : lo' ≤ lo) : ∀ {t : Tr} {p : Nat}, PartAt w B lo t p → PartAt w B lo' t p
  | .base d, p, ⟨h0, h1, t, v, h2, h3, h4, h5, h6, h7⟩ => ⟨Nat.le_trans hl h0, h1, t, v, h2, h3, h4, h5, h6, h7.low hl⟩
  | .dual a, p, ⟨h0, h1, t, q, h2, h3, h4, h5, h6⟩ => ⟨Nat.le_trans hl h0, h1, t, q, h2, h3, h4, h5, PartAt.low hl h6⟩
  | .bin op a b, p, ⟨h0, h1, h', t, q, r, h2, h3, h4, h5, h6, h7⟩ => ⟨Nat.le_trans hl h0, h1, h', t, q, r, h2, h3, h4, h5, PartAt.low hl h6, PartAt.low hl h7⟩
theorem PartAt.set {w : World} {B lo : Nat} {t : Tr} {p g j : Nat} {v : Value} (h : PartAt w B lo t p) (h1 : B ≤ g) (h2 : g < lo) : PartAt (w.setCell ⟨g, j, none⟩ v) B lo t p :=
  h.kept (by simp) fun k hk => heap_setCell_other _ _ _ _ (by show k ≠ g; rcases hk with hk | hk <;> omega)
/-- What lastPart hands back of the slice (A, cap c) that holds nds. -/
def LastOut (B lo : Nat) (nds : List ND) (A : Option Addr) (c : Nat) (e : Ending) (w' : World) : Prop :=
  (∃ (t : Tr) (k p : Nat), LastP nds (some (t, k)) ∧ e = .returned (.tuple #[.pointer (some ⟨p, 0, none⟩), .slice A k c]) ∧ PartAt w' B lo t p) ∨ (LastP nds none ∧ e = .returned (.tuple #[.pointer none, .slice none 0 0]))
def zeroW : Wi := ⟨0, 0, 0, none, 0, 0, [], none, 0, 0, []⟩
theorem zeroW_in (w : World) (B : Nat) : WiIn w B zeroW := ⟨rfl, rfl, rfl, ⟨rfl, fun k hk => by cases hk⟩, ⟨rfl, fun k p hk => by simp [zeroW] at hk⟩⟩
theorem now_zero (t : Wi) : NoW t.dat ↔ t.dat = zeroW.dat := by
  constructor
  · intro ⟨h1, h2, h3, h4, h5⟩
    unfold Wi.dat zeroW at *
    simp only at h1 h2 h3 h4 h5
    rw [h1, h2, h3, h4, h5]
  · intro h
    rw [h]
    exact ⟨rfl, rfl, rfl, rfl, rfl⟩
theorem heap_set7 {w : World} {g : Nat} {T : TypeId} {v0 v1 v2 v3 v4 v5 v6 v7 v8 : Value} (h : w.heap[g]? = some (.cells #[v0, v1, v2, v3, v4, v5, v6, v7, v8] T (0, 0))) (u : Value) : (w.setCell ⟨g, 7, none⟩ u).heap[g]? = some (.cells #[v0, v1, v2, v3, v4, v5, v6, u, v8] T (0, 0)) := by
  have := heap_setCell_same w g 7 _ _ u h
  simpa using this
theorem heap_set8 {w : World} {g : Nat} {T : TypeId} {v0 v1 v2 v3 v4 v5 v6 v7 v8 : Value} (h : w.heap[g]? = some (.cells #[v0, v1, v2, v3, v4, v5, v6, v7, v8] T (0, 0))) (u : Value) : (w.setCell ⟨g, 8, none⟩ u).heap[g]? = some (.cells #[v0, v1, v2, v3, v4, v5, v6, v7, u] T (0, 0)) := by
  have := heap_setCell_same w g 8 _ _ u h
  simpa using this
theorem heap_set6 {w : World} {g : Nat} {T : TypeId} {v0 v1 v2 v3 v4 v5 v6 v7 v8 : Value} (h : w.heap[g]? = some (.cells #[v0, v1, v2, v3, v4, v5, v6, v7, v8] T (0, 0))) (u : Value) : (w.setCell ⟨g, 6, none⟩ u).heap[g]? = some (.cells #[v0, v1, v2, v3, v4, v5, u, v7, v8] T (0, 0)) := by
  have := heap_setCell_same w g 6 _ _ u h
  simpa using this

theorem iLast0 (B lo : Nat) (A : Option Addr) (c c' : Nat) (A' : Option Addr) (w : World) :
    Calls Tryz.prog 110 #[.slice A 0 c] w fun e w' => e = .returned (.tuple #[.pointer none, .slice none 0 0]) ∧ w' = w := by
  go_enter Tryz.func110, Tryz.ntmps110
  go_wp2
  go_ret2
  exact ⟨rfl, rfl⟩
set_option maxRecDepth 20000 in
set_option maxHeartbeats 3200000 in
theorem iLast (B : Nat) (A : Option Addr) (c : Nat) (hc : c ≤ 9223372036854775807) : ∀ (n : Nat) (w : World) (ns : List Nd), Nodes w B A n ns → B ≤ w.heap.size → n ≤ c → ShortN ns →
    Calls Tryz.prog 110 #[.slice A n c] w fun e w' => LastOut B w.heap.size (datN ns) A c e w' ∧ Below w.heap.size w w' := by
  intro n
  induction n using Nat.strongRecOn with
  | _ n ih =>
    intro w ns hi hB hnc hN
    rcases Nat.eq_zero_or_pos n with h0 | h0
    · subst h0
      obtain rfl : ns = [] := List.eq_nil_of_length_eq_zero hi.len
      clear ih hi
      go_enter Tryz.func110, Tryz.ntmps110
      go_wp2
      go_ret2
      exact ⟨.inr ⟨lastP_nil, rfl⟩, Below.refl _ _⟩
    · obtain ⟨m, rfl⟩ : ∃ m, n = m + 1 := ⟨n - 1, by omega⟩
      obtain ⟨b, off, ⟨op, t⟩, rfl, hb, hat, hwf, g0, g1, g2, g3, g4, g5⟩ := hi.at m (by omega)
      have HIH : Hid (∀ (k : Nat) (w : World) (ns : List Nd), k ≤ m → Nodes w B (some ⟨b, off, none⟩) k ns → B ≤ w.heap.size → ShortN ns → Calls Tryz.prog 110 #[.slice (some ⟨b, off, none⟩) k c] w fun e w' => LastOut B w.heap.size (datN ns) (some ⟨b, off, none⟩) c e w' ∧ Below w.heap.size w w') := Lib.hid fun k w ns h1 h2 h3 h4 => ih k (by omega) w ns h2 h3 (by omega) h4
      have HM : Hid (Nodes w B (some ⟨b, off, none⟩) m (ns.take m)) := Lib.hid (hi.take (by omega))
      have HN : Hid (ShortN (ns.take m)) := Lib.hid fun x hx => hN x (List.mem_of_mem_take hx)
      have HWi := Lib.hid hwf.2
      have hE : datN ns = datN (ns.take m) ++ [⟨op, t.dat⟩] := by
        have h := datN_at hat
        rwa [ptake_all hi.len] at h
      have hL : (datN (ns.take m)).length = m := by unfold datN; rw [List.length_map, List.length_take, hi.len]; omega
      have HE := Lib.hid hE
      have HL := Lib.hid hL
      have HSh : Hid t.Short := Lib.hid (hN _ (List.mem_of_getElem? hat))
      dsimp only at g0 g1 g2 g3 g4 g5
      have hx1 : (m : Int) + 1 - 1 = (m : Int) := by omega
      have hx3 : ((m : Int) + 1 == 0) = false := by simp; omega
      have hm1 : (m : Int) < (m : Int) + 1 := by omega
      have hm2 : (m : Int) ≤ (c : Int) := by omega
      clear ih hi hN hwf hE hL hat
      have HW1 : Hid (∀ o : Obj, Below w.heap.size w (w.alloc o).drew) := Lib.hid fun o => ((Below.refl _ w).alloc (Nat.le_refl _) _).drew
      have hvw : t.val = .agg #[.int .i64 t.kind, .int .i64 t.field, .int .i64 t.value, .slice t.LA t.Ln t.Lc, .slice t.PA t.Pn t.Pc] := rfl
      by_cases e0 : op = 0
      · subst e0
        obtain ⟨q, hq⟩ := bool_of (IsW t.dat)
        have HC : Hid (∀ w1, Below w.heap.size w w1 → w.heap.size + 1 ≤ w1.heap.size → Calls Tryz.prog 130 #[.agg #[.int .i64 t.kind, .int .i64 t.field, .int .i64 t.value, .slice t.LA t.Ln t.Lc, .slice t.PA t.Pn t.Pc]] w1 fun e w' => (∃ v, e = .returned (.tuple #[v, .bool q]) ∧ (q = true → TasteFrom w' (w.heap.size + 1) t v) ∧ IfV v) ∧ Below w1.heap.size w1 w') := Lib.hid fun w1 h h' => by
          rw [← hvw]
          exact (taste_ofV w1 B t (HWi.out.below (h.mono hB)) (Nat.le_trans hB h.size) HSh.out q hq).mono fun _ _ ⟨⟨v, h1, h2, h3⟩, h4⟩ => ⟨⟨v, h1, fun h => (h2 h).low h', h3⟩, h4⟩
        have HQ := Lib.hid hq
        clear hq hvw
        go_enter Tryz.func110, Tryz.ntmps110
        go_wp2
        go_region
        go_wp2_with fail
        refine (HC.out _ (HW1.out _) (by simp)).mono ?_
        rintro e w1 ⟨⟨v, rfl, hv, hif⟩, hb1⟩
        have hp : w1.heap[w.heap.size]? = some (.cells #[.int .i64 0, .int .i64 t.kind, .int .i64 t.field, .int .i64 t.value, .slice t.LA t.Ln t.Lc, .slice t.PA t.Pn t.Pc, .nilIface, .pointer none, .pointer none] 152 (0, 0)) := (hb1.block _ (by simp)).trans (heap_alloc_new w _)
        have HP := Lib.hid hp
        have HB := Lib.hid (below_on (HW1.out _) hb1)
        have HS := Lib.hid (Nat.lt_of_lt_of_le (by simp) hb1.size : w.heap.size < w1.heap.size)
        have HV := Lib.hid hv
        have c6 : w1.cell? ⟨w.heap.size, 6, none⟩ = some (.nilIface) := cell_of_row w1 _ 6 _ _ (0, 0) hp
        have z6 : w1.frozen? ⟨w.heap.size, 6, none⟩ = false := frozen_of_row w1 _ 6 _ _ hp
        clear hp hb1 hv HC
        cases q
        · have HLp : Hid (LastP (datN ns) none) := Lib.hid (by rw [HE.out]; exact (lastP_base rfl).2 fun h => by have := HQ.out.2 h; cases this)
          have HBB : Hid (∀ u, Below w.heap.size w (w1.setCell ⟨w.heap.size, 6, none⟩ u)) := Lib.hid fun u => HB.out.setCell (Nat.le_refl _) u
          rcases hif with rfl | ⟨T, x, rfl⟩
          · go_wp2
            go_ret2
            exact ⟨.inr ⟨HLp.out, rfl⟩, HBB.out _⟩
          · go_wp2
            go_ret2
            exact ⟨.inr ⟨HLp.out, rfl⟩, HBB.out _⟩
        · have HW := Lib.hid (HQ.out.1 rfl)
          have HLp : Hid (LastP (datN ns) (some (.base t.dat, m))) := Lib.hid (by rw [HE.out]; have h := (lastP_base (l := datN (ns.take m)) (nd := ⟨0, t.dat⟩) rfl).1 HW.out; rwa [HL.out] at h)
          have HBB : Hid (∀ u, Below w.heap.size w (w1.setCell ⟨w.heap.size, 6, none⟩ u)) := Lib.hid fun u => HB.out.setCell (Nat.le_refl _) u
          have HF : Hid (PartAt (w1.setCell ⟨w.heap.size, 6, none⟩ v) B w.heap.size (.base t.dat) w.heap.size) := Lib.hid (by
            have hp := heap_set6 HP.out v
            refine ⟨Nat.le_refl _, by have := HS.out; simpa using this, t, v, hp, rfl, HSh.out, HWi.out.below ((HBB.out v).mono hB), HW.out, ?_⟩
            rcases HV.out rfl with h | h | ⟨h, o, X, hX, e, a⟩
            · exact .inl h
            · exact .inr (.inl h)
            · refine .inr (.inr ⟨h, o, X, by omega, e, a.kept fun k h1 h2 => heap_setCell_other _ _ _ _ ?_⟩)
              show k ≠ w.heap.size
              omega)
          rcases hif with rfl | ⟨T, x, rfl⟩
          · go_wp2
            go_ret2
            exact ⟨.inl ⟨_, _, _, HLp.out, rfl, HF.out⟩, HBB.out _⟩
          · go_wp2
            go_ret2
            exact ⟨.inl ⟨_, _, _, HLp.out, rfl, HF.out⟩, HBB.out _⟩
      · by_cases e3 : op = 3
        · subst e3
          clear e0
          have hzw : zeroW.val = .agg #[.int .i64 0, .int .i64 0, .int .i64 0, .slice none 0 0, .slice none 0 0] := rfl
          obtain ⟨q, hq⟩ := bool_of (NoW t.dat)
          have HC : Hid (∀ w1, Below w.heap.size w w1 → Calls Tryz.prog 131 #[.agg #[.int .i64 t.kind, .int .i64 t.field, .int .i64 t.value, .slice t.LA t.Ln t.Lc, .slice t.PA t.Pn t.Pc], .agg #[.int .i64 0, .int .i64 0, .int .i64 0, .slice none 0 0, .slice none 0 0]] w1 fun e w' => e = .returned (.bool q) ∧ Below w1.heap.size w1 w') := Lib.hid fun w1 h => by
            rw [← hvw, ← hzw]
            exact iSameWish w1 B t zeroW (HWi.out.below (h.mono hB)) (zeroW_in _ _) (Nat.le_trans hB h.size) HSh.out q (by rw [hq, now_zero])
          have HQ := Lib.hid hq
          clear hq hvw hzw
          go_enter Tryz.func110, Tryz.ntmps110
          go_wp2
          go_region
          go_wp2_with fail
          refine (HIH.out m _ (ns.take m) (Nat.le_refl _) (HM.out.below ((HW1.out _).mono hB)) (Nat.le_trans hB (HW1.out _).size) HN.out).mono ?_
          rintro e w1 ⟨hout, hb1⟩
          have HPr : Hid (w1.heap[w.heap.size]? = some (.cells #[.int .i64 3, .int .i64 t.kind, .int .i64 t.field, .int .i64 t.value, .slice t.LA t.Ln t.Lc, .slice t.PA t.Pn t.Pc, .nilIface, .pointer none, .pointer none] 152 (0, 0))) := Lib.hid ((hb1.block _ (by simp)).trans (heap_alloc_new w _))
          have HBr := Lib.hid (below_on (HW1.out _) hb1)
          clear hb1
          rcases hout with ⟨ta, k, s, hl, rfl, hpa⟩ | ⟨hl, rfl⟩
          · have HLa := Lib.hid hl
            have HPa := Lib.hid hpa
            clear hl hpa
            have c0 : w1.cell? ⟨w.heap.size, 0, none⟩ = some (.int .i64 3) := cell_of_row w1 _ 0 _ _ (0, 0) HPr.out
            have c1 : w1.cell? ⟨w.heap.size, 1, none⟩ = some (.int .i64 t.kind) := cell_of_row w1 _ 1 _ _ (0, 0) HPr.out
            have c2 : w1.cell? ⟨w.heap.size, 2, none⟩ = some (.int .i64 t.field) := cell_of_row w1 _ 2 _ _ (0, 0) HPr.out
            have c3 : w1.cell? ⟨w.heap.size, 3, none⟩ = some (.int .i64 t.value) := cell_of_row w1 _ 3 _ _ (0, 0) HPr.out
            have c4 : w1.cell? ⟨w.heap.size, 4, none⟩ = some (.slice t.LA t.Ln t.Lc) := cell_of_row w1 _ 4 _ _ (0, 0) HPr.out
            have c5 : w1.cell? ⟨w.heap.size, 5, none⟩ = some (.slice t.PA t.Pn t.Pc) := cell_of_row w1 _ 5 _ _ (0, 0) HPr.out
            have c7 : w1.cell? ⟨w.heap.size, 7, none⟩ = some (.pointer none) := cell_of_row w1 _ 7 _ _ (0, 0) HPr.out
            have z7 : w1.frozen? ⟨w.heap.size, 7, none⟩ = false := frozen_of_row w1 _ 7 _ _ HPr.out
            have HB7 : Hid (∀ u, Below w.heap.size w (w1.setCell ⟨w.heap.size, 7, none⟩ u)) := Lib.hid fun u => HBr.out.setCell (Nat.le_refl _) u
            go_wp2_with fail
            refine (HC.out _ (HB7.out _)).mono ?_
            rintro e w9 ⟨rfl, hb9⟩
            have HB9 := Lib.hid (below_on (HB7.out _) hb9)
            have HD9 := Lib.hid hb9
            clear c0 c1 c2 c3 c4 c5 c7 z7
            clear hb9 HC
            cases q
            · have HLp : Hid (LastP (datN ns) none) := Lib.hid (by rw [HE.out]; exact lastP_now_no (by show (3 : Int) ≠ 0; decide) fun h => by have := HQ.out.2 h; cases this)
              go_wp2
              go_ret2
              exact ⟨.inr ⟨HLp.out, rfl⟩, HB9.out⟩
            · have HW := Lib.hid (HQ.out.1 rfl)
              have HLp : Hid (LastP (datN ns) (some (.dual ta, k))) := Lib.hid (by rw [HE.out]; exact lastP_dual rfl HW.out HLa.out)
              have HF : Hid (PartAt w9 B w.heap.size (.dual ta) w.heap.size) := Lib.hid (by
                have hp := heap_set7 HPr.out (.pointer (some ⟨s, 0, none⟩))
                have hlt := lt_of_block hp
                refine ⟨Nat.le_refl _, Nat.lt_of_lt_of_le hlt HD9.out.size, t, s, (HD9.out.block _ hlt).trans hp, HW.out, HSh.out, HWi.out.below (HB9.out.mono hB), ?_⟩
                exact ((HPa.out.set hB (by simp)).below (Nat.le_trans hB (HB7.out _).size) HD9.out).low (by simp))
              go_wp2
              go_ret2
              exact ⟨.inl ⟨_, _, _, HLp.out, rfl, HF.out⟩, HB9.out⟩
          · have HLa := Lib.hid hl
            clear hl
            have c7 : w1.cell? ⟨w.heap.size, 7, none⟩ = some (.pointer none) := cell_of_row w1 _ 7 _ _ (0, 0) HPr.out
            have z7 : w1.frozen? ⟨w.heap.size, 7, none⟩ = false := frozen_of_row w1 _ 7 _ _ HPr.out
            have HLp : Hid (LastP (datN ns) none) := Lib.hid (by rw [HE.out]; exact lastP_dual_no rfl HLa.out)
            have HB7 : Hid (∀ u, Below w.heap.size w (w1.setCell ⟨w.heap.size, 7, none⟩ u)) := Lib.hid fun u => HBr.out.setCell (Nat.le_refl _) u
            go_wp2
            go_ret2
            exact ⟨.inr ⟨HLp.out, rfl⟩, HB7.out _⟩
        · by_cases eb : op = 1 ∨ op = 2 ∨ op = 4
          · have HBin : Hid (Bin op) := Lib.hid eb
            rcases eb with rfl | rfl | rfl
            · have hzw : zeroW.val = .agg #[.int .i64 0, .int .i64 0, .int .i64 0, .slice none 0 0, .slice none 0 0] := rfl
              obtain ⟨q, hq⟩ := bool_of (NoW t.dat)
              have HC : Hid (∀ w1, Below w.heap.size w w1 → Calls Tryz.prog 131 #[.agg #[.int .i64 t.kind, .int .i64 t.field, .int .i64 t.value, .slice t.LA t.Ln t.Lc, .slice t.PA t.Pn t.Pc], .agg #[.int .i64 0, .int .i64 0, .int .i64 0, .slice none 0 0, .slice none 0 0]] w1 fun e w' => e = .returned (.bool q) ∧ Below w1.heap.size w1 w') := Lib.hid fun w1 h => by
                rw [← hvw, ← hzw]
                exact iSameWish w1 B t zeroW (HWi.out.below (h.mono hB)) (zeroW_in _ _) (Nat.le_trans hB h.size) HSh.out q (by rw [hq, now_zero])
              have HQ := Lib.hid hq
              clear hq hvw hzw
              go_enter Tryz.func110, Tryz.ntmps110
              go_wp2
              go_region
              go_wp2_with fail
              refine (HIH.out m _ (ns.take m) (Nat.le_refl _) (HM.out.below ((HW1.out _).mono hB)) (Nat.le_trans hB (HW1.out _).size) HN.out).mono ?_
              rintro e w1 ⟨hout, hb1⟩
              have HPr : Hid (w1.heap[w.heap.size]? = some (.cells #[.int .i64 1, .int .i64 t.kind, .int .i64 t.field, .int .i64 t.value, .slice t.LA t.Ln t.Lc, .slice t.PA t.Pn t.Pc, .nilIface, .pointer none, .pointer none] 152 (0, 0))) := Lib.hid ((hb1.block _ (by simp)).trans (heap_alloc_new w _))
              have HBr := Lib.hid (below_on (HW1.out _) hb1)
              clear hb1
              rcases hout with ⟨tb, k2, r, hl, rfl, hpb⟩ | ⟨hl, rfl⟩
              · have HLb := Lib.hid hl
                have HPb := Lib.hid hpb
                have hk2 : k2 ≤ m := by have := hl.lt; rw [HL.out] at this; omega
                clear hl hpb
                have c8 : w1.cell? ⟨w.heap.size, 8, none⟩ = some (.pointer none) := cell_of_row w1 _ 8 _ _ (0, 0) HPr.out
                have z8 : w1.frozen? ⟨w.heap.size, 8, none⟩ = false := frozen_of_row w1 _ 8 _ _ HPr.out
                have HP8 := Lib.hid (heap_set8 HPr.out (.pointer (some ⟨r, 0, none⟩)))
                have HB8 : Hid (∀ u, Below w.heap.size w (w1.setCell ⟨w.heap.size, 8, none⟩ u)) := Lib.hid fun u => HBr.out.setCell (Nat.le_refl _) u
                have HPb8 : Hid (∀ u, PartAt (w1.setCell ⟨w.heap.size, 8, none⟩ u) B (w.heap.size + 1) tb r) := Lib.hid fun u => by have := HPb.out.set (g := w.heap.size) (j := 8) (v := u) hB (by simp); simpa using this
                clear HPr HBr HPb
                go_wp2_with fail
                refine (HIH.out k2 _ ((ns.take m).take k2) hk2 ((HM.out.take hk2).below ((HB8.out _).mono hB)) (Nat.le_trans hB (HB8.out _).size) (fun x hx => HN.out x (List.mem_of_mem_take hx))).mono ?_
                rintro e w2 ⟨hout, hb2⟩
                have HPr : Hid (w2.heap[w.heap.size]? = some (.cells #[.int .i64 1, .int .i64 t.kind, .int .i64 t.field, .int .i64 t.value, .slice t.LA t.Ln t.Lc, .slice t.PA t.Pn t.Pc, .nilIface, .pointer none, .pointer (some ⟨r, 0, none⟩)] 152 (0, 0))) := Lib.hid ((hb2.block _ (lt_of_block HP8.out)).trans HP8.out)
                have HBr := Lib.hid (below_on (HB8.out _) hb2)
                have HPb2 : Hid (PartAt w2 B (w.heap.size + 1) tb r) := Lib.hid ((HPb8.out _).below (Nat.le_trans hB (HB8.out _).size) hb2)
                have hlo : w.heap.size + 1 ≤ (w1.setCell ⟨w.heap.size, 8, none⟩ (.pointer (some ⟨r, 0, none⟩))).heap.size := lt_of_block HP8.out
                have HLo := Lib.hid hlo
                have HTk : Hid (datN ((ns.take m).take k2) = (datN (ns.take m)).take k2) := Lib.hid (by unfold datN; rw [List.map_take])
                clear hb2 hlo HP8 HB8 HPb8
                clear c8 z8
                rcases hout with ⟨ta, k, s, hl, rfl, hpa⟩ | ⟨hl, rfl⟩
                · have HLa := Lib.hid hl
                  have HPa := Lib.hid (hpa.low HLo.out)
                  clear hl hpa
                  have c0 : w2.cell? ⟨w.heap.size, 0, none⟩ = some (.int .i64 1) := cell_of_row w2 _ 0 _ _ (0, 0) HPr.out
                  have c1 : w2.cell? ⟨w.heap.size, 1, none⟩ = some (.int .i64 t.kind) := cell_of_row w2 _ 1 _ _ (0, 0) HPr.out
                  have c2 : w2.cell? ⟨w.heap.size, 2, none⟩ = some (.int .i64 t.field) := cell_of_row w2 _ 2 _ _ (0, 0) HPr.out
                  have c3 : w2.cell? ⟨w.heap.size, 3, none⟩ = some (.int .i64 t.value) := cell_of_row w2 _ 3 _ _ (0, 0) HPr.out
                  have c4 : w2.cell? ⟨w.heap.size, 4, none⟩ = some (.slice t.LA t.Ln t.Lc) := cell_of_row w2 _ 4 _ _ (0, 0) HPr.out
                  have c5 : w2.cell? ⟨w.heap.size, 5, none⟩ = some (.slice t.PA t.Pn t.Pc) := cell_of_row w2 _ 5 _ _ (0, 0) HPr.out
                  have c7 : w2.cell? ⟨w.heap.size, 7, none⟩ = some (.pointer none) := cell_of_row w2 _ 7 _ _ (0, 0) HPr.out
                  have z7 : w2.frozen? ⟨w.heap.size, 7, none⟩ = false := frozen_of_row w2 _ 7 _ _ HPr.out
                  have HB7 : Hid (∀ u, Below w.heap.size w (w2.setCell ⟨w.heap.size, 7, none⟩ u)) := Lib.hid fun u => HBr.out.setCell (Nat.le_refl _) u
                  go_wp2_with fail
                  refine (HC.out _ (HB7.out _)).mono ?_
                  rintro e w9 ⟨rfl, hb9⟩
                  have HB9 := Lib.hid (below_on (HB7.out _) hb9)
                  have HD9 := Lib.hid hb9
                  clear c0 c1 c2 c3 c4 c5 c7 z7
                  clear hb9 HC
                  cases q
                  · have HLp : Hid (LastP (datN ns) none) := Lib.hid (by rw [HE.out]; exact lastP_now_no (by show (1 : Int) ≠ 0; decide) fun h => by have := HQ.out.2 h; cases this)
                    go_wp2
                    go_ret2
                    exact ⟨.inr ⟨HLp.out, rfl⟩, HB9.out⟩
                  · have HW := Lib.hid (HQ.out.1 rfl)
                    have HLp : Hid (LastP (datN ns) (some (.bin 1 ta tb, k))) := Lib.hid (by rw [HE.out]; exact lastP_bin HBin.out HW.out HLb.out (HTk.out ▸ HLa.out))
                    have HF : Hid (PartAt w9 B w.heap.size (.bin 1 ta tb) w.heap.size) := Lib.hid (by
                      have hp := heap_set7 HPr.out (.pointer (some ⟨s, 0, none⟩))
                      have hlt := lt_of_block hp
                      refine ⟨Nat.le_refl _, Nat.lt_of_lt_of_le hlt HD9.out.size, HBin.out, t, s, r, (HD9.out.block _ hlt).trans hp, HW.out, HSh.out, HWi.out.below (HB9.out.mono hB), ?_, ?_⟩
                      · exact ((HPa.out.set hB (by omega)).below (Nat.le_trans hB (HB7.out _).size) HD9.out).low (by omega)
                      · exact ((HPb2.out.set hB (by omega)).below (Nat.le_trans hB (HB7.out _).size) HD9.out).low (by omega))
                    go_wp2
                    go_ret2
                    exact ⟨.inl ⟨_, _, _, HLp.out, rfl, HF.out⟩, HB9.out⟩
                · have HLa := Lib.hid hl
                  clear hl
                  have c7 : w2.cell? ⟨w.heap.size, 7, none⟩ = some (.pointer none) := cell_of_row w2 _ 7 _ _ (0, 0) HPr.out
                  have z7 : w2.frozen? ⟨w.heap.size, 7, none⟩ = false := frozen_of_row w2 _ 7 _ _ HPr.out
                  have HLp : Hid (LastP (datN ns) none) := Lib.hid (by rw [HE.out]; exact lastP_bin_no1 HBin.out HLb.out (HTk.out ▸ HLa.out))
                  have HB7 : Hid (∀ u, Below w.heap.size w (w2.setCell ⟨w.heap.size, 7, none⟩ u)) := Lib.hid fun u => HBr.out.setCell (Nat.le_refl _) u
                  go_wp2
                  go_ret2
                  exact ⟨.inr ⟨HLp.out, rfl⟩, HB7.out _⟩
              · have HLa := Lib.hid hl
                clear hl
                have c8 : w1.cell? ⟨w.heap.size, 8, none⟩ = some (.pointer none) := cell_of_row w1 _ 8 _ _ (0, 0) HPr.out
                have z8 : w1.frozen? ⟨w.heap.size, 8, none⟩ = false := frozen_of_row w1 _ 8 _ _ HPr.out
                have HP8 := Lib.hid (heap_set8 HPr.out (.pointer none))
                have HB8 : Hid (∀ u, Below w.heap.size w (w1.setCell ⟨w.heap.size, 8, none⟩ u)) := Lib.hid fun u => HBr.out.setCell (Nat.le_refl _) u
                clear HPr HBr
                go_wp2_with fail
                refine (iLast0 B 0 none 0 0 none _).mono ?_
                rintro e w2 ⟨rfl, hw2⟩
                have HPr : Hid (w2.heap[w.heap.size]? = some (.cells #[.int .i64 1, .int .i64 t.kind, .int .i64 t.field, .int .i64 t.value, .slice t.LA t.Ln t.Lc, .slice t.PA t.Pn t.Pc, .nilIface, .pointer none, .pointer none] 152 (0, 0))) := Lib.hid (by rw [hw2]; exact HP8.out)
                have HBr : Hid (Below w.heap.size w w2) := Lib.hid (by rw [hw2]; exact HB8.out _)
                clear hw2 HP8 HB8
                clear c8 z8
                have c7 : w2.cell? ⟨w.heap.size, 7, none⟩ = some (.pointer none) := cell_of_row w2 _ 7 _ _ (0, 0) HPr.out
                have z7 : w2.frozen? ⟨w.heap.size, 7, none⟩ = false := frozen_of_row w2 _ 7 _ _ HPr.out
                have HLp : Hid (LastP (datN ns) none) := Lib.hid (by rw [HE.out]; exact lastP_bin_no2 HBin.out HLa.out)
                have HB7 : Hid (∀ u, Below w.heap.size w (w2.setCell ⟨w.heap.size, 7, none⟩ u)) := Lib.hid fun u => HBr.out.setCell (Nat.le_refl _) u
                go_wp2
                go_ret2
                exact ⟨.inr ⟨HLp.out, rfl⟩, HB7.out _⟩
            · have hzw : zeroW.val = .agg #[.int .i64 0, .int .i64 0, .int .i64 0, .slice none 0 0, .slice none 0 0] := rfl
              obtain ⟨q, hq⟩ := bool_of (NoW t.dat)
              have HC : Hid (∀ w1, Below w.heap.size w w1 → Calls Tryz.prog 131 #[.agg #[.int .i64 t.kind, .int .i64 t.field, .int .i64 t.value, .slice t.LA t.Ln t.Lc, .slice t.PA t.Pn t.Pc], .agg #[.int .i64 0, .int .i64 0, .int .i64 0, .slice none 0 0, .slice none 0 0]] w1 fun e w' => e = .returned (.bool q) ∧ Below w1.heap.size w1 w') := Lib.hid fun w1 h => by
                rw [← hvw, ← hzw]
                exact iSameWish w1 B t zeroW (HWi.out.below (h.mono hB)) (zeroW_in _ _) (Nat.le_trans hB h.size) HSh.out q (by rw [hq, now_zero])
              have HQ := Lib.hid hq
              clear hq hvw hzw
              go_enter Tryz.func110, Tryz.ntmps110
              go_wp2
              go_region
              go_wp2_with fail
              refine (HIH.out m _ (ns.take m) (Nat.le_refl _) (HM.out.below ((HW1.out _).mono hB)) (Nat.le_trans hB (HW1.out _).size) HN.out).mono ?_
              rintro e w1 ⟨hout, hb1⟩
              have HPr : Hid (w1.heap[w.heap.size]? = some (.cells #[.int .i64 2, .int .i64 t.kind, .int .i64 t.field, .int .i64 t.value, .slice t.LA t.Ln t.Lc, .slice t.PA t.Pn t.Pc, .nilIface, .pointer none, .pointer none] 152 (0, 0))) := Lib.hid ((hb1.block _ (by simp)).trans (heap_alloc_new w _))
              have HBr := Lib.hid (below_on (HW1.out _) hb1)
              clear hb1
              rcases hout with ⟨tb, k2, r, hl, rfl, hpb⟩ | ⟨hl, rfl⟩
              · have HLb := Lib.hid hl
                have HPb := Lib.hid hpb
                have hk2 : k2 ≤ m := by have := hl.lt; rw [HL.out] at this; omega
                clear hl hpb
                have c8 : w1.cell? ⟨w.heap.size, 8, none⟩ = some (.pointer none) := cell_of_row w1 _ 8 _ _ (0, 0) HPr.out
                have z8 : w1.frozen? ⟨w.heap.size, 8, none⟩ = false := frozen_of_row w1 _ 8 _ _ HPr.out
                have HP8 := Lib.hid (heap_set8 HPr.out (.pointer (some ⟨r, 0, none⟩)))
                have HB8 : Hid (∀ u, Below w.heap.size w (w1.setCell ⟨w.heap.size, 8, none⟩ u)) := Lib.hid fun u => HBr.out.setCell (Nat.le_refl _) u
                have HPb8 : Hid (∀ u, PartAt (w1.setCell ⟨w.heap.size, 8, none⟩ u) B (w.heap.size + 1) tb r) := Lib.hid fun u => by have := HPb.out.set (g := w.heap.size) (j := 8) (v := u) hB (by simp); simpa using this
                clear HPr HBr HPb
                go_wp2_with fail
                refine (HIH.out k2 _ ((ns.take m).take k2) hk2 ((HM.out.take hk2).below ((HB8.out _).mono hB)) (Nat.le_trans hB (HB8.out _).size) (fun x hx => HN.out x (List.mem_of_mem_take hx))).mono ?_
                rintro e w2 ⟨hout, hb2⟩
                have HPr : Hid (w2.heap[w.heap.size]? = some (.cells #[.int .i64 2, .int .i64 t.kind, .int .i64 t.field, .int .i64 t.value, .slice t.LA t.Ln t.Lc, .slice t.PA t.Pn t.Pc, .nilIface, .pointer none, .pointer (some ⟨r, 0, none⟩)] 152 (0, 0))) := Lib.hid ((hb2.block _ (lt_of_block HP8.out)).trans HP8.out)
                have HBr := Lib.hid (below_on (HB8.out _) hb2)
                have HPb2 : Hid (PartAt w2 B (w.heap.size + 1) tb r) := Lib.hid ((HPb8.out _).below (Nat.le_trans hB (HB8.out _).size) hb2)
                have hlo : w.heap.size + 1 ≤ (w1.setCell ⟨w.heap.size, 8, none⟩ (.pointer (some ⟨r, 0, none⟩))).heap.size := lt_of_block HP8.out
                have HLo := Lib.hid hlo
                have HTk : Hid (datN ((ns.take m).take k2) = (datN (ns.take m)).take k2) := Lib.hid (by unfold datN; rw [List.map_take])
                clear hb2 hlo HP8 HB8 HPb8
                clear c8 z8
                rcases hout with ⟨ta, k, s, hl, rfl, hpa⟩ | ⟨hl, rfl⟩
                · have HLa := Lib.hid hl
                  have HPa := Lib.hid (hpa.low HLo.out)
                  clear hl hpa
                  have c0 : w2.cell? ⟨w.heap.size, 0, none⟩ = some (.int .i64 2) := cell_of_row w2 _ 0 _ _ (0, 0) HPr.out
                  have c1 : w2.cell? ⟨w.heap.size, 1, none⟩ = some (.int .i64 t.kind) := cell_of_row w2 _ 1 _ _ (0, 0) HPr.out
                  have c2 : w2.cell? ⟨w.heap.size, 2, none⟩ = some (.int .i64 t.field) := cell_of_row w2 _ 2 _ _ (0, 0) HPr.out
                  have c3 : w2.cell? ⟨w.heap.size, 3, none⟩ = some (.int .i64 t.value) := cell_of_row w2 _ 3 _ _ (0, 0) HPr.out
                  have c4 : w2.cell? ⟨w.heap.size, 4, none⟩ = some (.slice t.LA t.Ln t.Lc) := cell_of_row w2 _ 4 _ _ (0, 0) HPr.out
                  have c5 : w2.cell? ⟨w.heap.size, 5, none⟩ = some (.slice t.PA t.Pn t.Pc) := cell_of_row w2 _ 5 _ _ (0, 0) HPr.out
                  have c7 : w2.cell? ⟨w.heap.size, 7, none⟩ = some (.pointer none) := cell_of_row w2 _ 7 _ _ (0, 0) HPr.out
                  have z7 : w2.frozen? ⟨w.heap.size, 7, none⟩ = false := frozen_of_row w2 _ 7 _ _ HPr.out
                  have HB7 : Hid (∀ u, Below w.heap.size w (w2.setCell ⟨w.heap.size, 7, none⟩ u)) := Lib.hid fun u => HBr.out.setCell (Nat.le_refl _) u
                  go_wp2_with fail
                  refine (HC.out _ (HB7.out _)).mono ?_
                  rintro e w9 ⟨rfl, hb9⟩
                  have HB9 := Lib.hid (below_on (HB7.out _) hb9)
                  have HD9 := Lib.hid hb9
                  clear c0 c1 c2 c3 c4 c5 c7 z7
                  clear hb9 HC
                  cases q
                  · have HLp : Hid (LastP (datN ns) none) := Lib.hid (by rw [HE.out]; exact lastP_now_no (by show (2 : Int) ≠ 0; decide) fun h => by have := HQ.out.2 h; cases this)
                    go_wp2
                    go_ret2
                    exact ⟨.inr ⟨HLp.out, rfl⟩, HB9.out⟩
                  · have HW := Lib.hid (HQ.out.1 rfl)
                    have HLp : Hid (LastP (datN ns) (some (.bin 2 ta tb, k))) := Lib.hid (by rw [HE.out]; exact lastP_bin HBin.out HW.out HLb.out (HTk.out ▸ HLa.out))
                    have HF : Hid (PartAt w9 B w.heap.size (.bin 2 ta tb) w.heap.size) := Lib.hid (by
                      have hp := heap_set7 HPr.out (.pointer (some ⟨s, 0, none⟩))
                      have hlt := lt_of_block hp
                      refine ⟨Nat.le_refl _, Nat.lt_of_lt_of_le hlt HD9.out.size, HBin.out, t, s, r, (HD9.out.block _ hlt).trans hp, HW.out, HSh.out, HWi.out.below (HB9.out.mono hB), ?_, ?_⟩
                      · exact ((HPa.out.set hB (by omega)).below (Nat.le_trans hB (HB7.out _).size) HD9.out).low (by omega)
                      · exact ((HPb2.out.set hB (by omega)).below (Nat.le_trans hB (HB7.out _).size) HD9.out).low (by omega))
                    go_wp2
                    go_ret2
                    exact ⟨.inl ⟨_, _, _, HLp.out, rfl, HF.out⟩, HB9.out⟩
                · have HLa := Lib.hid hl
                  clear hl
                  have c7 : w2.cell? ⟨w.heap.size, 7, none⟩ = some (.pointer none) := cell_of_row w2 _ 7 _ _ (0, 0) HPr.out
                  have z7 : w2.frozen? ⟨w.heap.size, 7, none⟩ = false := frozen_of_row w2 _ 7 _ _ HPr.out
                  have HLp : Hid (LastP (datN ns) none) := Lib.hid (by rw [HE.out]; exact lastP_bin_no1 HBin.out HLb.out (HTk.out ▸ HLa.out))
                  have HB7 : Hid (∀ u, Below w.heap.size w (w2.setCell ⟨w.heap.size, 7, none⟩ u)) := Lib.hid fun u => HBr.out.setCell (Nat.le_refl _) u
                  go_wp2
                  go_ret2
                  exact ⟨.inr ⟨HLp.out, rfl⟩, HB7.out _⟩
              · have HLa := Lib.hid hl
                clear hl
                have c8 : w1.cell? ⟨w.heap.size, 8, none⟩ = some (.pointer none) := cell_of_row w1 _ 8 _ _ (0, 0) HPr.out
                have z8 : w1.frozen? ⟨w.heap.size, 8, none⟩ = false := frozen_of_row w1 _ 8 _ _ HPr.out
                have HP8 := Lib.hid (heap_set8 HPr.out (.pointer none))
                have HB8 : Hid (∀ u, Below w.heap.size w (w1.setCell ⟨w.heap.size, 8, none⟩ u)) := Lib.hid fun u => HBr.out.setCell (Nat.le_refl _) u
                clear HPr HBr
                go_wp2_with fail
                refine (iLast0 B 0 none 0 0 none _).mono ?_
                rintro e w2 ⟨rfl, hw2⟩
                have HPr : Hid (w2.heap[w.heap.size]? = some (.cells #[.int .i64 2, .int .i64 t.kind, .int .i64 t.field, .int .i64 t.value, .slice t.LA t.Ln t.Lc, .slice t.PA t.Pn t.Pc, .nilIface, .pointer none, .pointer none] 152 (0, 0))) := Lib.hid (by rw [hw2]; exact HP8.out)
                have HBr : Hid (Below w.heap.size w w2) := Lib.hid (by rw [hw2]; exact HB8.out _)
                clear hw2 HP8 HB8
                clear c8 z8
                have c7 : w2.cell? ⟨w.heap.size, 7, none⟩ = some (.pointer none) := cell_of_row w2 _ 7 _ _ (0, 0) HPr.out
                have z7 : w2.frozen? ⟨w.heap.size, 7, none⟩ = false := frozen_of_row w2 _ 7 _ _ HPr.out
                have HLp : Hid (LastP (datN ns) none) := Lib.hid (by rw [HE.out]; exact lastP_bin_no2 HBin.out HLa.out)
                have HB7 : Hid (∀ u, Below w.heap.size w (w2.setCell ⟨w.heap.size, 7, none⟩ u)) := Lib.hid fun u => HBr.out.setCell (Nat.le_refl _) u
                go_wp2
                go_ret2
                exact ⟨.inr ⟨HLp.out, rfl⟩, HB7.out _⟩
            · have hzw : zeroW.val = .agg #[.int .i64 0, .int .i64 0, .int .i64 0, .slice none 0 0, .slice none 0 0] := rfl
              obtain ⟨q, hq⟩ := bool_of (NoW t.dat)
              have HC : Hid (∀ w1, Below w.heap.size w w1 → Calls Tryz.prog 131 #[.agg #[.int .i64 t.kind, .int .i64 t.field, .int .i64 t.value, .slice t.LA t.Ln t.Lc, .slice t.PA t.Pn t.Pc], .agg #[.int .i64 0, .int .i64 0, .int .i64 0, .slice none 0 0, .slice none 0 0]] w1 fun e w' => e = .returned (.bool q) ∧ Below w1.heap.size w1 w') := Lib.hid fun w1 h => by
                rw [← hvw, ← hzw]
                exact iSameWish w1 B t zeroW (HWi.out.below (h.mono hB)) (zeroW_in _ _) (Nat.le_trans hB h.size) HSh.out q (by rw [hq, now_zero])
              have HQ := Lib.hid hq
              clear hq hvw hzw
              go_enter Tryz.func110, Tryz.ntmps110
              go_wp2
              go_region
              go_wp2_with fail
              refine (HIH.out m _ (ns.take m) (Nat.le_refl _) (HM.out.below ((HW1.out _).mono hB)) (Nat.le_trans hB (HW1.out _).size) HN.out).mono ?_
              rintro e w1 ⟨hout, hb1⟩
              have HPr : Hid (w1.heap[w.heap.size]? = some (.cells #[.int .i64 4, .int .i64 t.kind, .int .i64 t.field, .int .i64 t.value, .slice t.LA t.Ln t.Lc, .slice t.PA t.Pn t.Pc, .nilIface, .pointer none, .pointer none] 152 (0, 0))) := Lib.hid ((hb1.block _ (by simp)).trans (heap_alloc_new w _))
              have HBr := Lib.hid (below_on (HW1.out _) hb1)
              clear hb1
              rcases hout with ⟨tb, k2, r, hl, rfl, hpb⟩ | ⟨hl, rfl⟩
              · have HLb := Lib.hid hl
                have HPb := Lib.hid hpb
                have hk2 : k2 ≤ m := by have := hl.lt; rw [HL.out] at this; omega
                clear hl hpb
                have c8 : w1.cell? ⟨w.heap.size, 8, none⟩ = some (.pointer none) := cell_of_row w1 _ 8 _ _ (0, 0) HPr.out
                have z8 : w1.frozen? ⟨w.heap.size, 8, none⟩ = false := frozen_of_row w1 _ 8 _ _ HPr.out
                have HP8 := Lib.hid (heap_set8 HPr.out (.pointer (some ⟨r, 0, none⟩)))
                have HB8 : Hid (∀ u, Below w.heap.size w (w1.setCell ⟨w.heap.size, 8, none⟩ u)) := Lib.hid fun u => HBr.out.setCell (Nat.le_refl _) u
                have HPb8 : Hid (∀ u, PartAt (w1.setCell ⟨w.heap.size, 8, none⟩ u) B (w.heap.size + 1) tb r) := Lib.hid fun u => by have := HPb.out.set (g := w.heap.size) (j := 8) (v := u) hB (by simp); simpa using this
                clear HPr HBr HPb
                go_wp2_with fail
                refine (HIH.out k2 _ ((ns.take m).take k2) hk2 ((HM.out.take hk2).below ((HB8.out _).mono hB)) (Nat.le_trans hB (HB8.out _).size) (fun x hx => HN.out x (List.mem_of_mem_take hx))).mono ?_
                rintro e w2 ⟨hout, hb2⟩
                have HPr : Hid (w2.heap[w.heap.size]? = some (.cells #[.int .i64 4, .int .i64 t.kind, .int .i64 t.field, .int .i64 t.value, .slice t.LA t.Ln t.Lc, .slice t.PA t.Pn t.Pc, .nilIface, .pointer none, .pointer (some ⟨r, 0, none⟩)] 152 (0, 0))) := Lib.hid ((hb2.block _ (lt_of_block HP8.out)).trans HP8.out)
                have HBr := Lib.hid (below_on (HB8.out _) hb2)
                have HPb2 : Hid (PartAt w2 B (w.heap.size + 1) tb r) := Lib.hid ((HPb8.out _).below (Nat.le_trans hB (HB8.out _).size) hb2)
                have hlo : w.heap.size + 1 ≤ (w1.setCell ⟨w.heap.size, 8, none⟩ (.pointer (some ⟨r, 0, none⟩))).heap.size := lt_of_block HP8.out
                have HLo := Lib.hid hlo
                have HTk : Hid (datN ((ns.take m).take k2) = (datN (ns.take m)).take k2) := Lib.hid (by unfold datN; rw [List.map_take])
                clear hb2 hlo HP8 HB8 HPb8
                clear c8 z8
                rcases hout with ⟨ta, k, s, hl, rfl, hpa⟩ | ⟨hl, rfl⟩
                · have HLa := Lib.hid hl
                  have HPa := Lib.hid (hpa.low HLo.out)
                  clear hl hpa
                  have c0 : w2.cell? ⟨w.heap.size, 0, none⟩ = some (.int .i64 4) := cell_of_row w2 _ 0 _ _ (0, 0) HPr.out
                  have c1 : w2.cell? ⟨w.heap.size, 1, none⟩ = some (.int .i64 t.kind) := cell_of_row w2 _ 1 _ _ (0, 0) HPr.out
                  have c2 : w2.cell? ⟨w.heap.size, 2, none⟩ = some (.int .i64 t.field) := cell_of_row w2 _ 2 _ _ (0, 0) HPr.out
                  have c3 : w2.cell? ⟨w.heap.size, 3, none⟩ = some (.int .i64 t.value) := cell_of_row w2 _ 3 _ _ (0, 0) HPr.out
                  have c4 : w2.cell? ⟨w.heap.size, 4, none⟩ = some (.slice t.LA t.Ln t.Lc) := cell_of_row w2 _ 4 _ _ (0, 0) HPr.out
                  have c5 : w2.cell? ⟨w.heap.size, 5, none⟩ = some (.slice t.PA t.Pn t.Pc) := cell_of_row w2 _ 5 _ _ (0, 0) HPr.out
                  have c7 : w2.cell? ⟨w.heap.size, 7, none⟩ = some (.pointer none) := cell_of_row w2 _ 7 _ _ (0, 0) HPr.out
                  have z7 : w2.frozen? ⟨w.heap.size, 7, none⟩ = false := frozen_of_row w2 _ 7 _ _ HPr.out
                  have HB7 : Hid (∀ u, Below w.heap.size w (w2.setCell ⟨w.heap.size, 7, none⟩ u)) := Lib.hid fun u => HBr.out.setCell (Nat.le_refl _) u
                  go_wp2_with fail
                  refine (HC.out _ (HB7.out _)).mono ?_
                  rintro e w9 ⟨rfl, hb9⟩
                  have HB9 := Lib.hid (below_on (HB7.out _) hb9)
                  have HD9 := Lib.hid hb9
                  clear c0 c1 c2 c3 c4 c5 c7 z7
                  clear hb9 HC
                  cases q
                  · have HLp : Hid (LastP (datN ns) none) := Lib.hid (by rw [HE.out]; exact lastP_now_no (by show (4 : Int) ≠ 0; decide) fun h => by have := HQ.out.2 h; cases this)
                    go_wp2
                    go_ret2
                    exact ⟨.inr ⟨HLp.out, rfl⟩, HB9.out⟩
                  · have HW := Lib.hid (HQ.out.1 rfl)
                    have HLp : Hid (LastP (datN ns) (some (.bin 4 ta tb, k))) := Lib.hid (by rw [HE.out]; exact lastP_bin HBin.out HW.out HLb.out (HTk.out ▸ HLa.out))
                    have HF : Hid (PartAt w9 B w.heap.size (.bin 4 ta tb) w.heap.size) := Lib.hid (by
                      have hp := heap_set7 HPr.out (.pointer (some ⟨s, 0, none⟩))
                      have hlt := lt_of_block hp
                      refine ⟨Nat.le_refl _, Nat.lt_of_lt_of_le hlt HD9.out.size, HBin.out, t, s, r, (HD9.out.block _ hlt).trans hp, HW.out, HSh.out, HWi.out.below (HB9.out.mono hB), ?_, ?_⟩
                      · exact ((HPa.out.set hB (by omega)).below (Nat.le_trans hB (HB7.out _).size) HD9.out).low (by omega)
                      · exact ((HPb2.out.set hB (by omega)).below (Nat.le_trans hB (HB7.out _).size) HD9.out).low (by omega))
                    go_wp2
                    go_ret2
                    exact ⟨.inl ⟨_, _, _, HLp.out, rfl, HF.out⟩, HB9.out⟩
                · have HLa := Lib.hid hl
                  clear hl
                  have c7 : w2.cell? ⟨w.heap.size, 7, none⟩ = some (.pointer none) := cell_of_row w2 _ 7 _ _ (0, 0) HPr.out
                  have z7 : w2.frozen? ⟨w.heap.size, 7, none⟩ = false := frozen_of_row w2 _ 7 _ _ HPr.out
                  have HLp : Hid (LastP (datN ns) none) := Lib.hid (by rw [HE.out]; exact lastP_bin_no1 HBin.out HLb.out (HTk.out ▸ HLa.out))
                  have HB7 : Hid (∀ u, Below w.heap.size w (w2.setCell ⟨w.heap.size, 7, none⟩ u)) := Lib.hid fun u => HBr.out.setCell (Nat.le_refl _) u
                  go_wp2
                  go_ret2
                  exact ⟨.inr ⟨HLp.out, rfl⟩, HB7.out _⟩
              · have HLa := Lib.hid hl
                clear hl
                have c8 : w1.cell? ⟨w.heap.size, 8, none⟩ = some (.pointer none) := cell_of_row w1 _ 8 _ _ (0, 0) HPr.out
                have z8 : w1.frozen? ⟨w.heap.size, 8, none⟩ = false := frozen_of_row w1 _ 8 _ _ HPr.out
                have HP8 := Lib.hid (heap_set8 HPr.out (.pointer none))
                have HB8 : Hid (∀ u, Below w.heap.size w (w1.setCell ⟨w.heap.size, 8, none⟩ u)) := Lib.hid fun u => HBr.out.setCell (Nat.le_refl _) u
                clear HPr HBr
                go_wp2_with fail
                refine (iLast0 B 0 none 0 0 none _).mono ?_
                rintro e w2 ⟨rfl, hw2⟩
                have HPr : Hid (w2.heap[w.heap.size]? = some (.cells #[.int .i64 4, .int .i64 t.kind, .int .i64 t.field, .int .i64 t.value, .slice t.LA t.Ln t.Lc, .slice t.PA t.Pn t.Pc, .nilIface, .pointer none, .pointer none] 152 (0, 0))) := Lib.hid (by rw [hw2]; exact HP8.out)
                have HBr : Hid (Below w.heap.size w w2) := Lib.hid (by rw [hw2]; exact HB8.out _)
                clear hw2 HP8 HB8
                clear c8 z8
                have c7 : w2.cell? ⟨w.heap.size, 7, none⟩ = some (.pointer none) := cell_of_row w2 _ 7 _ _ (0, 0) HPr.out
                have z7 : w2.frozen? ⟨w.heap.size, 7, none⟩ = false := frozen_of_row w2 _ 7 _ _ HPr.out
                have HLp : Hid (LastP (datN ns) none) := Lib.hid (by rw [HE.out]; exact lastP_bin_no2 HBin.out HLa.out)
                have HB7 : Hid (∀ u, Below w.heap.size w (w2.setCell ⟨w.heap.size, 7, none⟩ u)) := Lib.hid fun u => HBr.out.setCell (Nat.le_refl _) u
                go_wp2
                go_ret2
                exact ⟨.inr ⟨HLp.out, rfl⟩, HB7.out _⟩
          · have hnb : ¬ Bin op := eb
            have f0 : (op == 0) = false := by simpa using e0
            have f3 : (op == 3) = false := by simpa using e3
            have f1 : (op == 1) = false := by
              have : op ≠ 1 := fun h => eb (.inl h)
              simpa using this
            have f2 : (op == 2) = false := by
              have : op ≠ 2 := fun h => eb (.inr (.inl h))
              simpa using this
            have f4 : (op == 4) = false := by
              have : op ≠ 4 := fun h => eb (.inr (.inr h))
              simpa using this
            have HLp : Hid (LastP (datN ns) none) := Lib.hid (by rw [HE.out]; exact lastP_odd e0 e3 hnb)
            clear hnb e0 e3 eb hvw
            go_enter Tryz.func110, Tryz.ntmps110
            go_wp2
            go_region
            go_wp2
            go_ret2
            exact ⟨.inr ⟨HLp.out, rfl⟩, HW1.out _⟩
end Go.Proofs.YtnjnlcmddcjcfaaGreat.num
