/- Contracts of functions that the laws of this chapter call, packed. -/
import Derived.Test.YtmbchpdcgjlggaaExpEq
import Derived.Test.YtmbchpdcgjlggaaWishProg
import Derived.BigRegion
import Derived.Test.YtmbchpdcgjlggaaExpMath
import Derived.Test.YtmbchpdcgjlggaaWishCp
import Derived.Test.YtmbchpdcgjlggaaCopyN
import Derived.Lib.AppendZeros
namespace Go.Proofs.Ytmbchpdcgjlggaa.num
set_option maxRecDepth 20000
open Go.RowKit Go.Maps
set_option linter.unusedVariables false
set_option linter.unusedSimpArgs false

/-- A part's row: its node, its taste, its operands. -/
def partRow (op : Int) (t : Wi) (v6 v7 v8 : Value) : Obj := .cells #[.int .i64 op, .int .i64 t.kind, .int .i64 t.field, .int .i64 t.value, .slice t.LA t.Ln t.Lc, .slice t.PA t.Pn t.Pc, v6, v7, v8] 154 (0, 0)
theorem part0 {w : World} {p : Nat} {op : Int} {t : Wi} {v6 v7 v8 : Value} (h : w.heap[p]? = some (partRow op t v6 v7 v8)) : w.cell? ⟨p, 0, none⟩ = some (.int .i64 op) := cell_of_row w _ 0 _ _ (0, 0) h
theorem part2 {w : World} {p : Nat} {op : Int} {t : Wi} {v6 v7 v8 : Value} (h : w.heap[p]? = some (partRow op t v6 v7 v8)) : w.cell? ⟨p, 2, none⟩ = some (.int .i64 t.field) := cell_of_row w _ 2 _ _ (0, 0) h
theorem part6 {w : World} {p : Nat} {op : Int} {t : Wi} {v6 v7 v8 : Value} (h : w.heap[p]? = some (partRow op t v6 v7 v8)) : w.cell? ⟨p, 6, none⟩ = some v6 := cell_of_row w _ 6 _ _ (0, 0) h
theorem part7 {w : World} {p : Nat} {op : Int} {t : Wi} {v6 v7 v8 : Value} (h : w.heap[p]? = some (partRow op t v6 v7 v8)) : w.cell? ⟨p, 7, none⟩ = some v7 := cell_of_row w _ 7 _ _ (0, 0) h
theorem part8 {w : World} {p : Nat} {op : Int} {t : Wi} {v6 v7 v8 : Value} (h : w.heap[p]? = some (partRow op t v6 v7 v8)) : w.cell? ⟨p, 8, none⟩ = some v8 := cell_of_row w _ 8 _ _ (0, 0) h
/-- The tree t lies at block p, all its own memory from block lo on; its wishes' slices below block B. -/
def PartAt (w : World) (B lo : Nat) : Tr → Nat → Prop
  | .base d, p => lo ≤ p ∧ p < w.heap.size ∧ ∃ (t : Wi) (v : Value), w.heap[p]? = some (partRow 0 t v (.pointer none) (.pointer none)) ∧ t.dat = d ∧ t.Short ∧ WiIn w B t ∧ IsW d ∧ TasteFrom w lo t v
  | .dual a, p => lo ≤ p ∧ p < w.heap.size ∧ ∃ (t : Wi) (q : Nat), w.heap[p]? = some (partRow 3 t .nilIface (.pointer (some ⟨q, 0, none⟩)) (.pointer none)) ∧ NoW t.dat ∧ t.Short ∧ WiIn w B t ∧ PartAt w B lo a q
  | .bin op a b, p => lo ≤ p ∧ p < w.heap.size ∧ Bin op ∧ ∃ (t : Wi) (q r : Nat), w.heap[p]? = some (partRow op t .nilIface (.pointer (some ⟨q, 0, none⟩)) (.pointer (some ⟨r, 0, none⟩))) ∧ NoW t.dat ∧ t.Short ∧ WiIn w B t ∧ PartAt w B lo a q ∧ PartAt w B lo b r
theorem WiIn.blocks {w w' : World} {B : Nat} {t : Wi} (h : WiIn w B t) (hb : ∀ k, k < B → w'.heap[k]? = w.heap[k]?) : WiIn w' B t :=
  ⟨h.k, h.f, h.v, ⟨h.l.1, fun k hk => by
    obtain ⟨b, off, ha, hB, hc⟩ := h.l.2 k hk
    exact ⟨b, off, ha, hB, (World.cell?_of_block (a := ⟨b, off + k, none⟩) (hb b hB)).trans hc⟩⟩, ⟨h.p.1, fun k p hk => by
    obtain ⟨b, off, ha, hB, h1, h2⟩ := h.p.2 k p hk
    exact ⟨b, off, ha, hB, (World.cell?_of_block (a := ⟨b, off + k * 2, none⟩) (hb b hB)).trans h1, (World.cell?_of_block (a := ⟨b, off + k * 2 + 1, none⟩) (hb b hB)).trans h2⟩⟩⟩
theorem PartAt.kept {w w' : World} {B lo : Nat} (hsz : w.heap.size ≤ w'.heap.size) (hb : ∀ k, k < B ∨ (lo ≤ k ∧ k < w.heap.size) → w'.heap[k]? = w.heap[k]?) : ∀ {t : Tr} {p : Nat}, PartAt w B lo t p → PartAt w' B lo t p
  | .base d, p, ⟨h0, h1, t, v, h2, h3, h4, h5, h6, h7⟩ => ⟨h0, Nat.lt_of_lt_of_le h1 hsz, t, v, (hb p (.inr ⟨h0, h1⟩)).trans h2, h3, h4, h5.blocks fun k hk => hb k (.inl hk), h6, h7.kept fun k h1 h2 => hb k (.inr ⟨h1, h2⟩)⟩
  | .dual a, p, ⟨h0, h1, t, q, h2, h3, h4, h5, h6⟩ => ⟨h0, Nat.lt_of_lt_of_le h1 hsz, t, q, (hb p (.inr ⟨h0, h1⟩)).trans h2, h3, h4, h5.blocks fun k hk => hb k (.inl hk), PartAt.kept hsz hb h6⟩
  | .bin op a b, p, ⟨h0, h1, h', t, q, r, h2, h3, h4, h5, h6, h7⟩ => ⟨h0, Nat.lt_of_lt_of_le h1 hsz, h', t, q, r, (hb p (.inr ⟨h0, h1⟩)).trans h2, h3, h4, h5.blocks fun k hk => hb k (.inl hk), PartAt.kept hsz hb h6, PartAt.kept hsz hb h7⟩
theorem PartAt.below {w w' : World} {B lo : Nat} (hB : B ≤ w.heap.size) (hb : Below w.heap.size w w') {t : Tr} {p : Nat} (h : PartAt w B lo t p) : PartAt w' B lo t p :=
  h.kept hb.size fun k hk => hb.block k (by rcases hk with hk | hk <;> omega)
theorem PartAt.low {w : World} {B lo lo' : Nat} (hl : lo' ≤ lo) : ∀ {t : Tr} {p : Nat}, PartAt w B lo t p → PartAt w B lo' t p
  | .base d, p, ⟨h0, h1, t, v, h2, h3, h4, h5, h6, h7⟩ => ⟨Nat.le_trans hl h0, h1, t, v, h2, h3, h4, h5, h6, h7.low hl⟩
  | .dual a, p, ⟨h0, h1, t, q, h2, h3, h4, h5, h6⟩ => ⟨Nat.le_trans hl h0, h1, t, q, h2, h3, h4, h5, PartAt.low hl h6⟩
  | .bin op a b, p, ⟨h0, h1, h', t, q, r, h2, h3, h4, h5, h6, h7⟩ => ⟨Nat.le_trans hl h0, h1, h', t, q, r, h2, h3, h4, h5, PartAt.low hl h6, PartAt.low hl h7⟩
theorem PartAt.set {w : World} {B lo : Nat} {t : Tr} {p g j : Nat} {v : Value} (h : PartAt w B lo t p) (h1 : B ≤ g) (h2 : g < lo) : PartAt (w.setCell ⟨g, j, none⟩ v) B lo t p :=
  h.kept (by simp) fun k hk => heap_setCell_other _ _ _ _ (by show k ≠ g; rcases hk with hk | hk <;> omega)
/-- What lastPart hands back of the slice (A, cap c) that holds nds. -/
def LastOut (B lo : Nat) (nds : List ND) (A : Option Addr) (c : Nat) (e : Ending) (w' : World) : Prop :=
  (∃ (t : Tr) (k p : Nat), LastP nds (some (t, k)) ∧ e = .returned (.tuple #[.pointer (some ⟨p, 0, none⟩), .slice A k c]) ∧ PartAt w' B lo t p) ∨ (LastP nds none ∧ e = .returned (.tuple #[.pointer none, .slice none 0 0]))
def zeroW : Wi := ⟨0, 0, 0, none, 0, 0, [], none, 0, 0, []⟩
theorem zeroW_in (w : World) (B : Nat) : WiIn w B zeroW := ⟨rfl, rfl, rfl, ⟨rfl, fun k hk => by cases hk⟩, ⟨rfl, fun k p hk => by simp [zeroW] at hk⟩⟩
theorem now_zero (t : Wi) : NoW t.dat ↔ t.dat = zeroW.dat := by
  constructor
  · intro ⟨h1, h2, h3, h4, h5⟩
    unfold Wi.dat zeroW at *
    simp only at h1 h2 h3 h4 h5
    rw [h1, h2, h3, h4, h5]
  · intro h
    rw [h]
    exact ⟨rfl, rfl, rfl, rfl, rfl⟩
theorem heap_set7 {w : World} {g : Nat} {T : TypeId} {v0 v1 v2 v3 v4 v5 v6 v7 v8 : Value} (h : w.heap[g]? = some (.cells #[v0, v1, v2, v3, v4, v5, v6, v7, v8] T (0, 0))) (u : Value) : (w.setCell ⟨g, 7, none⟩ u).heap[g]? = some (.cells #[v0, v1, v2, v3, v4, v5, v6, u, v8] T (0, 0)) := by
  have := heap_setCell_same w g 7 _ _ u h
  simpa using this
theorem heap_set8 {w : World} {g : Nat} {T : TypeId} {v0 v1 v2 v3 v4 v5 v6 v7 v8 : Value} (h : w.heap[g]? = some (.cells #[v0, v1, v2, v3, v4, v5, v6, v7, v8] T (0, 0))) (u : Value) : (w.setCell ⟨g, 8, none⟩ u).heap[g]? = some (.cells #[v0, v1, v2, v3, v4, v5, v6, v7, u] T (0, 0)) := by
  have := heap_setCell_same w g 8 _ _ u h
  simpa using this
theorem heap_set6 {w : World} {g : Nat} {T : TypeId} {v0 v1 v2 v3 v4 v5 v6 v7 v8 : Value} (h : w.heap[g]? = some (.cells #[v0, v1, v2, v3, v4, v5, v6, v7, v8] T (0, 0))) (u : Value) : (w.setCell ⟨g, 6, none⟩ u).heap[g]? = some (.cells #[v0, v1, v2, v3, v4, v5, u, v7, v8] T (0, 0)) := by
  have := heap_setCell_same w g 6 _ _ u h
  simpa using this

theorem iLast0 (B lo : Nat) (A : Option Addr) (c c' : Nat) (A' : Option Addr) (w : World) :
    Calls Try.prog 110 #[.slice A 0 c] w fun e w' => e = .returned (.tuple #[.pointer none, .slice none 0 0]) ∧ w' = w := by
  go_enter Try.func110, Try.ntmps110
  go_wp2
  go_ret2
  exact ⟨rfl, rfl⟩
set_option maxRecDepth 20000 in
set_option maxHeartbeats 3200000 in
theorem iLast (B : Nat) (A : Option Addr) (c : Nat) (hc : c ≤ 9223372036854775807) : ∀ (n : Nat) (w : World) (ns : List Nd), Nodes w B A n ns → B ≤ w.heap.size → n ≤ c → ShortN ns →
    Calls Try.prog 110 #[.slice A n c] w fun e w' => LastOut B w.heap.size (datN ns) A c e w' ∧ Below w.heap.size w w' := by
  intro n
  induction n using Nat.strongRecOn with
  | _ n ih =>
    intro w ns hi hB hnc hN
    rcases Nat.eq_zero_or_pos n with h0 | h0
    · subst h0
      obtain rfl : ns = [] := List.eq_nil_of_length_eq_zero hi.len
      clear ih hi
      go_enter Try.func110, Try.ntmps110
      go_wp2
      go_ret2
      exact ⟨.inr ⟨lastP_nil, rfl⟩, Below.refl _ _⟩
    · obtain ⟨m, rfl⟩ : ∃ m, n = m + 1 := ⟨n - 1, by omega⟩
      obtain ⟨b, off, ⟨op, t⟩, rfl, hb, hat, hwf, g0, g1, g2, g3, g4, g5⟩ := hi.at m (by omega)
      have HIH : Hid (∀ (k : Nat) (w : World) (ns : List Nd), k ≤ m → Nodes w B (some ⟨b, off, none⟩) k ns → B ≤ w.heap.size → ShortN ns → Calls Try.prog 110 #[.slice (some ⟨b, off, none⟩) k c] w fun e w' => LastOut B w.heap.size (datN ns) (some ⟨b, off, none⟩) c e w' ∧ Below w.heap.size w w') := Lib.hid fun k w ns h1 h2 h3 h4 => ih k (by omega) w ns h2 h3 (by omega) h4
      have HM : Hid (Nodes w B (some ⟨b, off, none⟩) m (ns.take m)) := Lib.hid (hi.take (by omega))
      have HN : Hid (ShortN (ns.take m)) := Lib.hid fun x hx => hN x (List.mem_of_mem_take hx)
      have HWi := Lib.hid hwf.2
      have hE : datN ns = datN (ns.take m) ++ [⟨op, t.dat⟩] := by
        have h := datN_at hat
        rwa [ptake_all hi.len] at h
      have hL : (datN (ns.take m)).length = m := by unfold datN; rw [List.length_map, List.length_take, hi.len]; omega
      have HE := Lib.hid hE
      have HL := Lib.hid hL
      have HSh : Hid t.Short := Lib.hid (hN _ (List.mem_of_getElem? hat))
      dsimp only at g0 g1 g2 g3 g4 g5
      have hx1 : (m : Int) + 1 - 1 = (m : Int) := by omega
      have hx3 : ((m : Int) + 1 == 0) = false := by simp; omega
      have hm1 : (m : Int) < (m : Int) + 1 := by omega
      have hm2 : (m : Int) ≤ (c : Int) := by omega
      clear ih hi hN hwf hE hL hat
      have HW1 : Hid (∀ o : Obj, Below w.heap.size w (w.alloc o).drew) := Lib.hid fun o => ((Below.refl _ w).alloc (Nat.le_refl _) _).drew
      have hvw : t.val = .agg #[.int .i64 t.kind, .int .i64 t.field, .int .i64 t.value, .slice t.LA t.Ln t.Lc, .slice t.PA t.Pn t.Pc] := rfl
      by_cases e0 : op = 0
      · subst e0
        obtain ⟨q, hq⟩ := bool_of (IsW t.dat)
        have HC : Hid (∀ w1, Below w.heap.size w w1 → w.heap.size + 1 ≤ w1.heap.size → Calls Try.prog 67 #[.agg #[.int .i64 t.kind, .int .i64 t.field, .int .i64 t.value, .slice t.LA t.Ln t.Lc, .slice t.PA t.Pn t.Pc]] w1 fun e w' => (∃ v, e = .returned (.tuple #[v, .bool q]) ∧ (q = true → TasteFrom w' (w.heap.size + 1) t v) ∧ IfV v) ∧ Below w1.heap.size w1 w') := Lib.hid fun w1 h h' => by
          rw [← hvw]
          exact (taste_ofV w1 B t (HWi.out.below (h.mono hB)) (Nat.le_trans hB h.size) HSh.out q hq).mono fun _ _ ⟨⟨v, h1, h2, h3⟩, h4⟩ => ⟨⟨v, h1, fun h => (h2 h).low h', h3⟩, h4⟩
        have HQ := Lib.hid hq
        clear hq hvw
        go_enter Try.func110, Try.ntmps110
        go_wp2
        go_region
        go_wp2_with fail
        refine (HC.out _ (HW1.out _) (by simp)).mono ?_
        rintro e w1 ⟨⟨v, rfl, hv, hif⟩, hb1⟩
        have hp : w1.heap[w.heap.size]? = some (.cells #[.int .i64 0, .int .i64 t.kind, .int .i64 t.field, .int .i64 t.value, .slice t.LA t.Ln t.Lc, .slice t.PA t.Pn t.Pc, .nilIface, .pointer none, .pointer none] 154 (0, 0)) := (hb1.block _ (by simp)).trans (heap_alloc_new w _)
        have HP := Lib.hid hp
        have HB := Lib.hid (below_on (HW1.out _) hb1)
        have HS := Lib.hid (Nat.lt_of_lt_of_le (by simp) hb1.size : w.heap.size < w1.heap.size)
        have HV := Lib.hid hv
        have c6 : w1.cell? ⟨w.heap.size, 6, none⟩ = some (.nilIface) := cell_of_row w1 _ 6 _ _ (0, 0) hp
        have z6 : w1.frozen? ⟨w.heap.size, 6, none⟩ = false := frozen_of_row w1 _ 6 _ _ hp
        clear hp hb1 hv HC
        cases q
        · have HLp : Hid (LastP (datN ns) none) := Lib.hid (by rw [HE.out]; exact (lastP_base rfl).2 fun h => by have := HQ.out.2 h; cases this)
          have HBB : Hid (∀ u, Below w.heap.size w (w1.setCell ⟨w.heap.size, 6, none⟩ u)) := Lib.hid fun u => HB.out.setCell (Nat.le_refl _) u
          rcases hif with rfl | ⟨T, x, rfl⟩
          · go_wp2
            go_ret2
            exact ⟨.inr ⟨HLp.out, rfl⟩, HBB.out _⟩
          · go_wp2
            go_ret2
            exact ⟨.inr ⟨HLp.out, rfl⟩, HBB.out _⟩
        · have HW := Lib.hid (HQ.out.1 rfl)
          have HLp : Hid (LastP (datN ns) (some (.base t.dat, m))) := Lib.hid (by rw [HE.out]; have h := (lastP_base (l := datN (ns.take m)) (nd := ⟨0, t.dat⟩) rfl).1 HW.out; rwa [HL.out] at h)
          have HBB : Hid (∀ u, Below w.heap.size w (w1.setCell ⟨w.heap.size, 6, none⟩ u)) := Lib.hid fun u => HB.out.setCell (Nat.le_refl _) u
          have HF : Hid (PartAt (w1.setCell ⟨w.heap.size, 6, none⟩ v) B w.heap.size (.base t.dat) w.heap.size) := Lib.hid (by
            have hp := heap_set6 HP.out v
            refine ⟨Nat.le_refl _, by have := HS.out; simpa using this, t, v, hp, rfl, HSh.out, HWi.out.below ((HBB.out v).mono hB), HW.out, ?_⟩
            rcases HV.out rfl with h | h | ⟨h, o, X, hX, e, a⟩
            · exact .inl h
            · exact .inr (.inl h)
            · refine .inr (.inr ⟨h, o, X, by omega, e, a.kept fun k h1 h2 => heap_setCell_other _ _ _ _ ?_⟩)
              show k ≠ w.heap.size
              omega)
          rcases hif with rfl | ⟨T, x, rfl⟩
          · go_wp2
            go_ret2
            exact ⟨.inl ⟨_, _, _, HLp.out, rfl, HF.out⟩, HBB.out _⟩
          · go_wp2
            go_ret2
            exact ⟨.inl ⟨_, _, _, HLp.out, rfl, HF.out⟩, HBB.out _⟩
      · by_cases e3 : op = 3
        · subst e3
          clear e0
          have hzw : zeroW.val = .agg #[.int .i64 0, .int .i64 0, .int .i64 0, .slice none 0 0, .slice none 0 0] := rfl
          obtain ⟨q, hq⟩ := bool_of (NoW t.dat)
          have HC : Hid (∀ w1, Below w.heap.size w w1 → Calls Try.prog 123 #[.agg #[.int .i64 t.kind, .int .i64 t.field, .int .i64 t.value, .slice t.LA t.Ln t.Lc, .slice t.PA t.Pn t.Pc], .agg #[.int .i64 0, .int .i64 0, .int .i64 0, .slice none 0 0, .slice none 0 0]] w1 fun e w' => e = .returned (.bool q) ∧ Below w1.heap.size w1 w') := Lib.hid fun w1 h => by
            rw [← hvw, ← hzw]
            exact iSameWish w1 B t zeroW (HWi.out.below (h.mono hB)) (zeroW_in _ _) (Nat.le_trans hB h.size) HSh.out q (by rw [hq, now_zero])
          have HQ := Lib.hid hq
          clear hq hvw hzw
          go_enter Try.func110, Try.ntmps110
          go_wp2
          go_region
          go_wp2_with fail
          refine (HIH.out m _ (ns.take m) (Nat.le_refl _) (HM.out.below ((HW1.out _).mono hB)) (Nat.le_trans hB (HW1.out _).size) HN.out).mono ?_
          rintro e w1 ⟨hout, hb1⟩
          have HPr : Hid (w1.heap[w.heap.size]? = some (.cells #[.int .i64 3, .int .i64 t.kind, .int .i64 t.field, .int .i64 t.value, .slice t.LA t.Ln t.Lc, .slice t.PA t.Pn t.Pc, .nilIface, .pointer none, .pointer none] 154 (0, 0))) := Lib.hid ((hb1.block _ (by simp)).trans (heap_alloc_new w _))
          have HBr := Lib.hid (below_on (HW1.out _) hb1)
          clear hb1
          rcases hout with ⟨ta, k, s, hl, rfl, hpa⟩ | ⟨hl, rfl⟩
          · have HLa := Lib.hid hl
            have HPa := Lib.hid hpa
            clear hl hpa
            have c0 : w1.cell? ⟨w.heap.size, 0, none⟩ = some (.int .i64 3) := cell_of_row w1 _ 0 _ _ (0, 0) HPr.out
            have c1 : w1.cell? ⟨w.heap.size, 1, none⟩ = some (.int .i64 t.kind) := cell_of_row w1 _ 1 _ _ (0, 0) HPr.out
            have c2 : w1.cell? ⟨w.heap.size, 2, none⟩ = some (.int .i64 t.field) := cell_of_row w1 _ 2 _ _ (0, 0) HPr.out
            have c3 : w1.cell? ⟨w.heap.size, 3, none⟩ = some (.int .i64 t.value) := cell_of_row w1 _ 3 _ _ (0, 0) HPr.out
            have c4 : w1.cell? ⟨w.heap.size, 4, none⟩ = some (.slice t.LA t.Ln t.Lc) := cell_of_row w1 _ 4 _ _ (0, 0) HPr.out
            have c5 : w1.cell? ⟨w.heap.size, 5, none⟩ = some (.slice t.PA t.Pn t.Pc) := cell_of_row w1 _ 5 _ _ (0, 0) HPr.out
            have c7 : w1.cell? ⟨w.heap.size, 7, none⟩ = some (.pointer none) := cell_of_row w1 _ 7 _ _ (0, 0) HPr.out
            have z7 : w1.frozen? ⟨w.heap.size, 7, none⟩ = false := frozen_of_row w1 _ 7 _ _ HPr.out
            have HB7 : Hid (∀ u, Below w.heap.size w (w1.setCell ⟨w.heap.size, 7, none⟩ u)) := Lib.hid fun u => HBr.out.setCell (Nat.le_refl _) u
            go_wp2_with fail
            refine (HC.out _ (HB7.out _)).mono ?_
            rintro e w9 ⟨rfl, hb9⟩
            have HB9 := Lib.hid (below_on (HB7.out _) hb9)
            have HD9 := Lib.hid hb9
            clear c0 c1 c2 c3 c4 c5 c7 z7
            clear hb9 HC
            cases q
            · have HLp : Hid (LastP (datN ns) none) := Lib.hid (by rw [HE.out]; exact lastP_now_no (by show (3 : Int) ≠ 0; decide) fun h => by have := HQ.out.2 h; cases this)
              go_wp2
              go_ret2
              exact ⟨.inr ⟨HLp.out, rfl⟩, HB9.out⟩
            · have HW := Lib.hid (HQ.out.1 rfl)
              have HLp : Hid (LastP (datN ns) (some (.dual ta, k))) := Lib.hid (by rw [HE.out]; exact lastP_dual rfl HW.out HLa.out)
              have HF : Hid (PartAt w9 B w.heap.size (.dual ta) w.heap.size) := Lib.hid (by
                have hp := heap_set7 HPr.out (.pointer (some ⟨s, 0, none⟩))
                have hlt := lt_of_block hp
                refine ⟨Nat.le_refl _, Nat.lt_of_lt_of_le hlt HD9.out.size, t, s, (HD9.out.block _ hlt).trans hp, HW.out, HSh.out, HWi.out.below (HB9.out.mono hB), ?_⟩
                exact ((HPa.out.set hB (by simp)).below (Nat.le_trans hB (HB7.out _).size) HD9.out).low (by simp))
              go_wp2
              go_ret2
              exact ⟨.inl ⟨_, _, _, HLp.out, rfl, HF.out⟩, HB9.out⟩
          · have HLa := Lib.hid hl
            clear hl
            have c7 : w1.cell? ⟨w.heap.size, 7, none⟩ = some (.pointer none) := cell_of_row w1 _ 7 _ _ (0, 0) HPr.out
            have z7 : w1.frozen? ⟨w.heap.size, 7, none⟩ = false := frozen_of_row w1 _ 7 _ _ HPr.out
            have HLp : Hid (LastP (datN ns) none) := Lib.hid (by rw [HE.out]; exact lastP_dual_no rfl HLa.out)
            have HB7 : Hid (∀ u, Below w.heap.size w (w1.setCell ⟨w.heap.size, 7, none⟩ u)) := Lib.hid fun u => HBr.out.setCell (Nat.le_refl _) u
            go_wp2
            go_ret2
            exact ⟨.inr ⟨HLp.out, rfl⟩, HB7.out _⟩
        · by_cases eb : op = 1 ∨ op = 2 ∨ op = 4
          · have HBin : Hid (Bin op) := Lib.hid eb
            rcases eb with rfl | rfl | rfl
            · have hzw : zeroW.val = .agg #[.int .i64 0, .int .i64 0, .int .i64 0, .slice none 0 0, .slice none 0 0] := rfl
              obtain ⟨q, hq⟩ := bool_of (NoW t.dat)
              have HC : Hid (∀ w1, Below w.heap.size w w1 → Calls Try.prog 123 #[.agg #[.int .i64 t.kind, .int .i64 t.field, .int .i64 t.value, .slice t.LA t.Ln t.Lc, .slice t.PA t.Pn t.Pc], .agg #[.int .i64 0, .int .i64 0, .int .i64 0, .slice none 0 0, .slice none 0 0]] w1 fun e w' => e = .returned (.bool q) ∧ Below w1.heap.size w1 w') := Lib.hid fun w1 h => by
                rw [← hvw, ← hzw]
                exact iSameWish w1 B t zeroW (HWi.out.below (h.mono hB)) (zeroW_in _ _) (Nat.le_trans hB h.size) HSh.out q (by rw [hq, now_zero])
              have HQ := Lib.hid hq
              clear hq hvw hzw
              go_enter Try.func110, Try.ntmps110
              go_wp2
              go_region
              go_wp2_with fail
              refine (HIH.out m _ (ns.take m) (Nat.le_refl _) (HM.out.below ((HW1.out _).mono hB)) (Nat.le_trans hB (HW1.out _).size) HN.out).mono ?_
              rintro e w1 ⟨hout, hb1⟩
              have HPr : Hid (w1.heap[w.heap.size]? = some (.cells #[.int .i64 1, .int .i64 t.kind, .int .i64 t.field, .int .i64 t.value, .slice t.LA t.Ln t.Lc, .slice t.PA t.Pn t.Pc, .nilIface, .pointer none, .pointer none] 154 (0, 0))) := Lib.hid ((hb1.block _ (by simp)).trans (heap_alloc_new w _))
              have HBr := Lib.hid (below_on (HW1.out _) hb1)
              clear hb1
              rcases hout with ⟨tb, k2, r, hl, rfl, hpb⟩ | ⟨hl, rfl⟩
              · have HLb := Lib.hid hl
                have HPb := Lib.hid hpb
                have hk2 : k2 ≤ m := by have := hl.lt; rw [HL.out] at this; omega
                clear hl hpb
                have c8 : w1.cell? ⟨w.heap.size, 8, none⟩ = some (.pointer none) := cell_of_row w1 _ 8 _ _ (0, 0) HPr.out
                have z8 : w1.frozen? ⟨w.heap.size, 8, none⟩ = false := frozen_of_row w1 _ 8 _ _ HPr.out
                have HP8 := Lib.hid (heap_set8 HPr.out (.pointer (some ⟨r, 0, none⟩)))
                have HB8 : Hid (∀ u, Below w.heap.size w (w1.setCell ⟨w.heap.size, 8, none⟩ u)) := Lib.hid fun u => HBr.out.setCell (Nat.le_refl _) u
                have HPb8 : Hid (∀ u, PartAt (w1.setCell ⟨w.heap.size, 8, none⟩ u) B (w.heap.size + 1) tb r) := Lib.hid fun u => by have := HPb.out.set (g := w.heap.size) (j := 8) (v := u) hB (by simp); simpa using this
                clear HPr HBr HPb
                go_wp2_with fail
                refine (HIH.out k2 _ ((ns.take m).take k2) hk2 ((HM.out.take hk2).below ((HB8.out _).mono hB)) (Nat.le_trans hB (HB8.out _).size) (fun x hx => HN.out x (List.mem_of_mem_take hx))).mono ?_
                rintro e w2 ⟨hout, hb2⟩
                have HPr : Hid (w2.heap[w.heap.size]? = some (.cells #[.int .i64 1, .int .i64 t.kind, .int .i64 t.field, .int .i64 t.value, .slice t.LA t.Ln t.Lc, .slice t.PA t.Pn t.Pc, .nilIface, .pointer none, .pointer (some ⟨r, 0, none⟩)] 154 (0, 0))) := Lib.hid ((hb2.block _ (lt_of_block HP8.out)).trans HP8.out)
                have HBr := Lib.hid (below_on (HB8.out _) hb2)
                have HPb2 : Hid (PartAt w2 B (w.heap.size + 1) tb r) := Lib.hid ((HPb8.out _).below (Nat.le_trans hB (HB8.out _).size) hb2)
                have hlo : w.heap.size + 1 ≤ (w1.setCell ⟨w.heap.size, 8, none⟩ (.pointer (some ⟨r, 0, none⟩))).heap.size := lt_of_block HP8.out
                have HLo := Lib.hid hlo
                have HTk : Hid (datN ((ns.take m).take k2) = (datN (ns.take m)).take k2) := Lib.hid (by unfold datN; rw [List.map_take])
                clear hb2 hlo HP8 HB8 HPb8
                clear c8 z8
                rcases hout with ⟨ta, k, s, hl, rfl, hpa⟩ | ⟨hl, rfl⟩
                · have HLa := Lib.hid hl
                  have HPa := Lib.hid (hpa.low HLo.out)
                  clear hl hpa
                  have c0 : w2.cell? ⟨w.heap.size, 0, none⟩ = some (.int .i64 1) := cell_of_row w2 _ 0 _ _ (0, 0) HPr.out
                  have c1 : w2.cell? ⟨w.heap.size, 1, none⟩ = some (.int .i64 t.kind) := cell_of_row w2 _ 1 _ _ (0, 0) HPr.out
                  have c2 : w2.cell? ⟨w.heap.size, 2, none⟩ = some (.int .i64 t.field) := cell_of_row w2 _ 2 _ _ (0, 0) HPr.out
                  have c3 : w2.cell? ⟨w.heap.size, 3, none⟩ = some (.int .i64 t.value) := cell_of_row w2 _ 3 _ _ (0, 0) HPr.out
                  have c4 : w2.cell? ⟨w.heap.size, 4, none⟩ = some (.slice t.LA t.Ln t.Lc) := cell_of_row w2 _ 4 _ _ (0, 0) HPr.out
                  have c5 : w2.cell? ⟨w.heap.size, 5, none⟩ = some (.slice t.PA t.Pn t.Pc) := cell_of_row w2 _ 5 _ _ (0, 0) HPr.out
                  have c7 : w2.cell? ⟨w.heap.size, 7, none⟩ = some (.pointer none) := cell_of_row w2 _ 7 _ _ (0, 0) HPr.out
                  have z7 : w2.frozen? ⟨w.heap.size, 7, none⟩ = false := frozen_of_row w2 _ 7 _ _ HPr.out
                  have HB7 : Hid (∀ u, Below w.heap.size w (w2.setCell ⟨w.heap.size, 7, none⟩ u)) := Lib.hid fun u => HBr.out.setCell (Nat.le_refl _) u
                  go_wp2_with fail
                  refine (HC.out _ (HB7.out _)).mono ?_
                  rintro e w9 ⟨rfl, hb9⟩
                  have HB9 := Lib.hid (below_on (HB7.out _) hb9)
                  have HD9 := Lib.hid hb9
                  clear c0 c1 c2 c3 c4 c5 c7 z7
                  clear hb9 HC
                  cases q
                  · have HLp : Hid (LastP (datN ns) none) := Lib.hid (by rw [HE.out]; exact lastP_now_no (by show (1 : Int) ≠ 0; decide) fun h => by have := HQ.out.2 h; cases this)
                    go_wp2
                    go_ret2
                    exact ⟨.inr ⟨HLp.out, rfl⟩, HB9.out⟩
                  · have HW := Lib.hid (HQ.out.1 rfl)
                    have HLp : Hid (LastP (datN ns) (some (.bin 1 ta tb, k))) := Lib.hid (by rw [HE.out]; exact lastP_bin HBin.out HW.out HLb.out (HTk.out ▸ HLa.out))
                    have HF : Hid (PartAt w9 B w.heap.size (.bin 1 ta tb) w.heap.size) := Lib.hid (by
                      have hp := heap_set7 HPr.out (.pointer (some ⟨s, 0, none⟩))
                      have hlt := lt_of_block hp
                      refine ⟨Nat.le_refl _, Nat.lt_of_lt_of_le hlt HD9.out.size, HBin.out, t, s, r, (HD9.out.block _ hlt).trans hp, HW.out, HSh.out, HWi.out.below (HB9.out.mono hB), ?_, ?_⟩
                      · exact ((HPa.out.set hB (by omega)).below (Nat.le_trans hB (HB7.out _).size) HD9.out).low (by omega)
                      · exact ((HPb2.out.set hB (by omega)).below (Nat.le_trans hB (HB7.out _).size) HD9.out).low (by omega))
                    go_wp2
                    go_ret2
                    exact ⟨.inl ⟨_, _, _, HLp.out, rfl, HF.out⟩, HB9.out⟩
                · have HLa := Lib.hid hl
                  clear hl
                  have c7 : w2.cell? ⟨w.heap.size, 7, none⟩ = some (.pointer none) := cell_of_row w2 _ 7 _ _ (0, 0) HPr.out
                  have z7 : w2.frozen? ⟨w.heap.size, 7, none⟩ = false := frozen_of_row w2 _ 7 _ _ HPr.out
                  have HLp : Hid (LastP (datN ns) none) := Lib.hid (by rw [HE.out]; exact lastP_bin_no1 HBin.out HLb.out (HTk.out ▸ HLa.out))
                  have HB7 : Hid (∀ u, Below w.heap.size w (w2.setCell ⟨w.heap.size, 7, none⟩ u)) := Lib.hid fun u => HBr.out.setCell (Nat.le_refl _) u
                  go_wp2
                  go_ret2
                  exact ⟨.inr ⟨HLp.out, rfl⟩, HB7.out _⟩
              · have HLa := Lib.hid hl
                clear hl
                have c8 : w1.cell? ⟨w.heap.size, 8, none⟩ = some (.pointer none) := cell_of_row w1 _ 8 _ _ (0, 0) HPr.out
                have z8 : w1.frozen? ⟨w.heap.size, 8, none⟩ = false := frozen_of_row w1 _ 8 _ _ HPr.out
                have HP8 := Lib.hid (heap_set8 HPr.out (.pointer none))
                have HB8 : Hid (∀ u, Below w.heap.size w (w1.setCell ⟨w.heap.size, 8, none⟩ u)) := Lib.hid fun u => HBr.out.setCell (Nat.le_refl _) u
                clear HPr HBr
                go_wp2_with fail
                refine (iLast0 B 0 none 0 0 none _).mono ?_
                rintro e w2 ⟨rfl, hw2⟩
                have HPr : Hid (w2.heap[w.heap.size]? = some (.cells #[.int .i64 1, .int .i64 t.kind, .int .i64 t.field, .int .i64 t.value, .slice t.LA t.Ln t.Lc, .slice t.PA t.Pn t.Pc, .nilIface, .pointer none, .pointer none] 154 (0, 0))) := Lib.hid (by rw [hw2]; exact HP8.out)
                have HBr : Hid (Below w.heap.size w w2) := Lib.hid (by rw [hw2]; exact HB8.out _)
                clear hw2 HP8 HB8
                clear c8 z8
                have c7 : w2.cell? ⟨w.heap.size, 7, none⟩ = some (.pointer none) := cell_of_row w2 _ 7 _ _ (0, 0) HPr.out
                have z7 : w2.frozen? ⟨w.heap.size, 7, none⟩ = false := frozen_of_row w2 _ 7 _ _ HPr.out
                have HLp : Hid (LastP (datN ns) none) := Lib.hid (by rw [HE.out]; exact lastP_bin_no2 HBin.out HLa.out)
                have HB7 : Hid (∀ u, Below w.heap.size w (w2.setCell ⟨w.heap.size, 7, none⟩ u)) := Lib.hid fun u => HBr.out.setCell (Nat.le_refl _) u
                go_wp2
                go_ret2
                exact ⟨.inr ⟨HLp.out, rfl⟩, HB7.out _⟩
            · have hzw : zeroW.val = .agg #[.int .i64 0, .int .i64 0, .int .i64 0, .slice none 0 0, .slice none 0 0] := rfl
              obtain ⟨q, hq⟩ := bool_of (NoW t.dat)
              have HC : Hid (∀ w1, Below w.heap.size w w1 → Calls Try.prog 123 #[.agg #[.int .i64 t.kind, .int .i64 t.field, .int .i64 t.value, .slice t.LA t.Ln t.Lc, .slice t.PA t.Pn t.Pc], .agg #[.int .i64 0, .int .i64 0, .int .i64 0, .slice none 0 0, .slice none 0 0]] w1 fun e w' => e = .returned (.bool q) ∧ Below w1.heap.size w1 w') := Lib.hid fun w1 h => by
                rw [← hvw, ← hzw]
                exact iSameWish w1 B t zeroW (HWi.out.below (h.mono hB)) (zeroW_in _ _) (Nat.le_trans hB h.size) HSh.out q (by rw [hq, now_zero])
              have HQ := Lib.hid hq
              clear hq hvw hzw
              go_enter Try.func110, Try.ntmps110
              go_wp2
              go_region
              go_wp2_with fail
              refine (HIH.out m _ (ns.take m) (Nat.le_refl _) (HM.out.below ((HW1.out _).mono hB)) (Nat.le_trans hB (HW1.out _).size) HN.out).mono ?_
              rintro e w1 ⟨hout, hb1⟩
              have HPr : Hid (w1.heap[w.heap.size]? = some (.cells #[.int .i64 2, .int .i64 t.kind, .int .i64 t.field, .int .i64 t.value, .slice t.LA t.Ln t.Lc, .slice t.PA t.Pn t.Pc, .nilIface, .pointer none, .pointer none] 154 (0, 0))) := Lib.hid ((hb1.block _ (by simp)).trans (heap_alloc_new w _))
              have HBr := Lib.hid (below_on (HW1.out _) hb1)
              clear hb1
              rcases hout with ⟨tb, k2, r, hl, rfl, hpb⟩ | ⟨hl, rfl⟩
              · have HLb := Lib.hid hl
                have HPb := Lib.hid hpb
                have hk2 : k2 ≤ m := by have := hl.lt; rw [HL.out] at this; omega
                clear hl hpb
                have c8 : w1.cell? ⟨w.heap.size, 8, none⟩ = some (.pointer none) := cell_of_row w1 _ 8 _ _ (0, 0) HPr.out
                have z8 : w1.frozen? ⟨w.heap.size, 8, none⟩ = false := frozen_of_row w1 _ 8 _ _ HPr.out
                have HP8 := Lib.hid (heap_set8 HPr.out (.pointer (some ⟨r, 0, none⟩)))
                have HB8 : Hid (∀ u, Below w.heap.size w (w1.setCell ⟨w.heap.size, 8, none⟩ u)) := Lib.hid fun u => HBr.out.setCell (Nat.le_refl _) u
                have HPb8 : Hid (∀ u, PartAt (w1.setCell ⟨w.heap.size, 8, none⟩ u) B (w.heap.size + 1) tb r) := Lib.hid fun u => by have := HPb.out.set (g := w.heap.size) (j := 8) (v := u) hB (by simp); simpa using this
                clear HPr HBr HPb
                go_wp2_with fail
                refine (HIH.out k2 _ ((ns.take m).take k2) hk2 ((HM.out.take hk2).below ((HB8.out _).mono hB)) (Nat.le_trans hB (HB8.out _).size) (fun x hx => HN.out x (List.mem_of_mem_take hx))).mono ?_
                rintro e w2 ⟨hout, hb2⟩
                have HPr : Hid (w2.heap[w.heap.size]? = some (.cells #[.int .i64 2, .int .i64 t.kind, .int .i64 t.field, .int .i64 t.value, .slice t.LA t.Ln t.Lc, .slice t.PA t.Pn t.Pc, .nilIface, .pointer none, .pointer (some ⟨r, 0, none⟩)] 154 (0, 0))) := Lib.hid ((hb2.block _ (lt_of_block HP8.out)).trans HP8.out)
                have HBr := Lib.hid (below_on (HB8.out _) hb2)
                have HPb2 : Hid (PartAt w2 B (w.heap.size + 1) tb r) := Lib.hid ((HPb8.out _).below (Nat.le_trans hB (HB8.out _).size) hb2)
                have hlo : w.heap.size + 1 ≤ (w1.setCell ⟨w.heap.size, 8, none⟩ (.pointer (some ⟨r, 0, none⟩))).heap.size := lt_of_block HP8.out
                have HLo := Lib.hid hlo
                have HTk : Hid (datN ((ns.take m).take k2) = (datN (ns.take m)).take k2) := Lib.hid (by unfold datN; rw [List.map_take])
                clear hb2 hlo HP8 HB8 HPb8
                clear c8 z8
                rcases hout with ⟨ta, k, s, hl, rfl, hpa⟩ | ⟨hl, rfl⟩
                · have HLa := Lib.hid hl
                  have HPa := Lib.hid (hpa.low HLo.out)
                  clear hl hpa
                  have c0 : w2.cell? ⟨w.heap.size, 0, none⟩ = some (.int .i64 2) := cell_of_row w2 _ 0 _ _ (0, 0) HPr.out
                  have c1 : w2.cell? ⟨w.heap.size, 1, none⟩ = some (.int .i64 t.kind) := cell_of_row w2 _ 1 _ _ (0, 0) HPr.out
                  have c2 : w2.cell? ⟨w.heap.size, 2, none⟩ = some (.int .i64 t.field) := cell_of_row w2 _ 2 _ _ (0, 0) HPr.out
                  have c3 : w2.cell? ⟨w.heap.size, 3, none⟩ = some (.int .i64 t.value) := cell_of_row w2 _ 3 _ _ (0, 0) HPr.out
                  have c4 : w2.cell? ⟨w.heap.size, 4, none⟩ = some (.slice t.LA t.Ln t.Lc) := cell_of_row w2 _ 4 _ _ (0, 0) HPr.out
                  have c5 : w2.cell? ⟨w.heap.size, 5, none⟩ = some (.slice t.PA t.Pn t.Pc) := cell_of_row w2 _ 5 _ _ (0, 0) HPr.out
                  have c7 : w2.cell? ⟨w.heap.size, 7, none⟩ = some (.pointer none) := cell_of_row w2 _ 7 _ _ (0, 0) HPr.out
                  have z7 : w2.frozen? ⟨w.heap.size, 7, none⟩ = false := frozen_of_row w2 _ 7 _ _ HPr.out
                  have HB7 : Hid (∀ u, Below w.heap.size w (w2.setCell ⟨w.heap.size, 7, none⟩ u)) := Lib.hid fun u => HBr.out.setCell (Nat.le_refl _) u
                  go_wp2_with fail
                  refine (HC.out _ (HB7.out _)).mono ?_
                  rintro e w9 ⟨rfl, hb9⟩
                  have HB9 := Lib.hid (below_on (HB7.out _) hb9)
                  have HD9 := Lib.hid hb9
                  clear c0 c1 c2 c3 c4 c5 c7 z7
                  clear hb9 HC
                  cases q
                  · have HLp : Hid (LastP (datN ns) none) := Lib.hid (by rw [HE.out]; exact lastP_now_no (by show (2 : Int) ≠ 0; decide) fun h => by have := HQ.out.2 h; cases this)
                    go_wp2
                    go_ret2
                    exact ⟨.inr ⟨HLp.out, rfl⟩, HB9.out⟩
                  · have HW := Lib.hid (HQ.out.1 rfl)
                    have HLp : Hid (LastP (datN ns) (some (.bin 2 ta tb, k))) := Lib.hid (by rw [HE.out]; exact lastP_bin HBin.out HW.out HLb.out (HTk.out ▸ HLa.out))
                    have HF : Hid (PartAt w9 B w.heap.size (.bin 2 ta tb) w.heap.size) := Lib.hid (by
                      have hp := heap_set7 HPr.out (.pointer (some ⟨s, 0, none⟩))
                      have hlt := lt_of_block hp
                      refine ⟨Nat.le_refl _, Nat.lt_of_lt_of_le hlt HD9.out.size, HBin.out, t, s, r, (HD9.out.block _ hlt).trans hp, HW.out, HSh.out, HWi.out.below (HB9.out.mono hB), ?_, ?_⟩
                      · exact ((HPa.out.set hB (by omega)).below (Nat.le_trans hB (HB7.out _).size) HD9.out).low (by omega)
                      · exact ((HPb2.out.set hB (by omega)).below (Nat.le_trans hB (HB7.out _).size) HD9.out).low (by omega))
                    go_wp2
                    go_ret2
                    exact ⟨.inl ⟨_, _, _, HLp.out, rfl, HF.out⟩, HB9.out⟩
                · have HLa := Lib.hid hl
                  clear hl
                  have c7 : w2.cell? ⟨w.heap.size, 7, none⟩ = some (.pointer none) := cell_of_row w2 _ 7 _ _ (0, 0) HPr.out
                  have z7 : w2.frozen? ⟨w.heap.size, 7, none⟩ = false := frozen_of_row w2 _ 7 _ _ HPr.out
                  have HLp : Hid (LastP (datN ns) none) := Lib.hid (by rw [HE.out]; exact lastP_bin_no1 HBin.out HLb.out (HTk.out ▸ HLa.out))
                  have HB7 : Hid (∀ u, Below w.heap.size w (w2.setCell ⟨w.heap.size, 7, none⟩ u)) := Lib.hid fun u => HBr.out.setCell (Nat.le_refl _) u
                  go_wp2
                  go_ret2
                  exact ⟨.inr ⟨HLp.out, rfl⟩, HB7.out _⟩
              · have HLa := Lib.hid hl
                clear hl
                have c8 : w1.cell? ⟨w.heap.size, 8, none⟩ = some (.pointer none) := cell_of_row w1 _ 8 _ _ (0, 0) HPr.out
                have z8 : w1.frozen? ⟨w.heap.size, 8, none⟩ = false := frozen_of_row w1 _ 8 _ _ HPr.out
                have HP8 := Lib.hid (heap_set8 HPr.out (.pointer none))
                have HB8 : Hid (∀ u, Below w.heap.size w (w1.setCell ⟨w.heap.size, 8, none⟩ u)) := Lib.hid fun u => HBr.out.setCell (Nat.le_refl _) u
                clear HPr HBr
                go_wp2_with fail
                refine (iLast0 B 0 none 0 0 none _).mono ?_
                rintro e w2 ⟨rfl, hw2⟩
                have HPr : Hid (w2.heap[w.heap.size]? = some (.cells #[.int .i64 2, .int .i64 t.kind, .int .i64 t.field, .int .i64 t.value, .slice t.LA t.Ln t.Lc, .slice t.PA t.Pn t.Pc, .nilIface, .pointer none, .pointer none] 154 (0, 0))) := Lib.hid (by rw [hw2]; exact HP8.out)
                have HBr : Hid (Below w.heap.size w w2) := Lib.hid (by rw [hw2]; exact HB8.out _)
                clear hw2 HP8 HB8
                clear c8 z8
                have c7 : w2.cell? ⟨w.heap.size, 7, none⟩ = some (.pointer none) := cell_of_row w2 _ 7 _ _ (0, 0) HPr.out
                have z7 : w2.frozen? ⟨w.heap.size, 7, none⟩ = false := frozen_of_row w2 _ 7 _ _ HPr.out
                have HLp : Hid (LastP (datN ns) none) := Lib.hid (by rw [HE.out]; exact lastP_bin_no2 HBin.out HLa.out)
                have HB7 : Hid (∀ u, Below w.heap.size w (w2.setCell ⟨w.heap.size, 7, none⟩ u)) := Lib.hid fun u => HBr.out.setCell (Nat.le_refl _) u
                go_wp2
                go_ret2
                exact ⟨.inr ⟨HLp.out, rfl⟩, HB7.out _⟩
            · have hzw : zeroW.val = .agg #[.int .i64 0, .int .i64 0, .int .i64 0, .slice none 0 0, .slice none 0 0] := rfl
              obtain ⟨q, hq⟩ := bool_of (NoW t.dat)
              have HC : Hid (∀ w1, Below w.heap.size w w1 → Calls Try.prog 123 #[.agg #[.int .i64 t.kind, .int .i64 t.field, .int .i64 t.value, .slice t.LA t.Ln t.Lc, .slice t.PA t.Pn t.Pc], .agg #[.int .i64 0, .int .i64 0, .int .i64 0, .slice none 0 0, .slice none 0 0]] w1 fun e w' => e = .returned (.bool q) ∧ Below w1.heap.size w1 w') := Lib.hid fun w1 h => by
                rw [← hvw, ← hzw]
                exact iSameWish w1 B t zeroW (HWi.out.below (h.mono hB)) (zeroW_in _ _) (Nat.le_trans hB h.size) HSh.out q (by rw [hq, now_zero])
              have HQ := Lib.hid hq
              clear hq hvw hzw
              go_enter Try.func110, Try.ntmps110
              go_wp2
              go_region
              go_wp2_with fail
              refine (HIH.out m _ (ns.take m) (Nat.le_refl _) (HM.out.below ((HW1.out _).mono hB)) (Nat.le_trans hB (HW1.out _).size) HN.out).mono ?_
              rintro e w1 ⟨hout, hb1⟩
              have HPr : Hid (w1.heap[w.heap.size]? = some (.cells #[.int .i64 4, .int .i64 t.kind, .int .i64 t.field, .int .i64 t.value, .slice t.LA t.Ln t.Lc, .slice t.PA t.Pn t.Pc, .nilIface, .pointer none, .pointer none] 154 (0, 0))) := Lib.hid ((hb1.block _ (by simp)).trans (heap_alloc_new w _))
              have HBr := Lib.hid (below_on (HW1.out _) hb1)
              clear hb1
              rcases hout with ⟨tb, k2, r, hl, rfl, hpb⟩ | ⟨hl, rfl⟩
              · have HLb := Lib.hid hl
                have HPb := Lib.hid hpb
                have hk2 : k2 ≤ m := by have := hl.lt; rw [HL.out] at this; omega
                clear hl hpb
                have c8 : w1.cell? ⟨w.heap.size, 8, none⟩ = some (.pointer none) := cell_of_row w1 _ 8 _ _ (0, 0) HPr.out
                have z8 : w1.frozen? ⟨w.heap.size, 8, none⟩ = false := frozen_of_row w1 _ 8 _ _ HPr.out
                have HP8 := Lib.hid (heap_set8 HPr.out (.pointer (some ⟨r, 0, none⟩)))
                have HB8 : Hid (∀ u, Below w.heap.size w (w1.setCell ⟨w.heap.size, 8, none⟩ u)) := Lib.hid fun u => HBr.out.setCell (Nat.le_refl _) u
                have HPb8 : Hid (∀ u, PartAt (w1.setCell ⟨w.heap.size, 8, none⟩ u) B (w.heap.size + 1) tb r) := Lib.hid fun u => by have := HPb.out.set (g := w.heap.size) (j := 8) (v := u) hB (by simp); simpa using this
                clear HPr HBr HPb
                go_wp2_with fail
                refine (HIH.out k2 _ ((ns.take m).take k2) hk2 ((HM.out.take hk2).below ((HB8.out _).mono hB)) (Nat.le_trans hB (HB8.out _).size) (fun x hx => HN.out x (List.mem_of_mem_take hx))).mono ?_
                rintro e w2 ⟨hout, hb2⟩
                have HPr : Hid (w2.heap[w.heap.size]? = some (.cells #[.int .i64 4, .int .i64 t.kind, .int .i64 t.field, .int .i64 t.value, .slice t.LA t.Ln t.Lc, .slice t.PA t.Pn t.Pc, .nilIface, .pointer none, .pointer (some ⟨r, 0, none⟩)] 154 (0, 0))) := Lib.hid ((hb2.block _ (lt_of_block HP8.out)).trans HP8.out)
                have HBr := Lib.hid (below_on (HB8.out _) hb2)
                have HPb2 : Hid (PartAt w2 B (w.heap.size + 1) tb r) := Lib.hid ((HPb8.out _).below (Nat.le_trans hB (HB8.out _).size) hb2)
                have hlo : w.heap.size + 1 ≤ (w1.setCell ⟨w.heap.size, 8, none⟩ (.pointer (some ⟨r, 0, none⟩))).heap.size := lt_of_block HP8.out
                have HLo := Lib.hid hlo
                have HTk : Hid (datN ((ns.take m).take k2) = (datN (ns.take m)).take k2) := Lib.hid (by unfold datN; rw [List.map_take])
                clear hb2 hlo HP8 HB8 HPb8
                clear c8 z8
                rcases hout with ⟨ta, k, s, hl, rfl, hpa⟩ | ⟨hl, rfl⟩
                · have HLa := Lib.hid hl
                  have HPa := Lib.hid (hpa.low HLo.out)
                  clear hl hpa
                  have c0 : w2.cell? ⟨w.heap.size, 0, none⟩ = some (.int .i64 4) := cell_of_row w2 _ 0 _ _ (0, 0) HPr.out
                  have c1 : w2.cell? ⟨w.heap.size, 1, none⟩ = some (.int .i64 t.kind) := cell_of_row w2 _ 1 _ _ (0, 0) HPr.out
                  have c2 : w2.cell? ⟨w.heap.size, 2, none⟩ = some (.int .i64 t.field) := cell_of_row w2 _ 2 _ _ (0, 0) HPr.out
                  have c3 : w2.cell? ⟨w.heap.size, 3, none⟩ = some (.int .i64 t.value) := cell_of_row w2 _ 3 _ _ (0, 0) HPr.out
                  have c4 : w2.cell? ⟨w.heap.size, 4, none⟩ = some (.slice t.LA t.Ln t.Lc) := cell_of_row w2 _ 4 _ _ (0, 0) HPr.out
                  have c5 : w2.cell? ⟨w.heap.size, 5, none⟩ = some (.slice t.PA t.Pn t.Pc) := cell_of_row w2 _ 5 _ _ (0, 0) HPr.out
                  have c7 : w2.cell? ⟨w.heap.size, 7, none⟩ = some (.pointer none) := cell_of_row w2 _ 7 _ _ (0, 0) HPr.out
                  have z7 : w2.frozen? ⟨w.heap.size, 7, none⟩ = false := frozen_of_row w2 _ 7 _ _ HPr.out
                  have HB7 : Hid (∀ u, Below w.heap.size w (w2.setCell ⟨w.heap.size, 7, none⟩ u)) := Lib.hid fun u => HBr.out.setCell (Nat.le_refl _) u
                  go_wp2_with fail
                  refine (HC.out _ (HB7.out _)).mono ?_
                  rintro e w9 ⟨rfl, hb9⟩
                  have HB9 := Lib.hid (below_on (HB7.out _) hb9)
                  have HD9 := Lib.hid hb9
                  clear c0 c1 c2 c3 c4 c5 c7 z7
                  clear hb9 HC
                  cases q
                  · have HLp : Hid (LastP (datN ns) none) := Lib.hid (by rw [HE.out]; exact lastP_now_no (by show (4 : Int) ≠ 0; decide) fun h => by have := HQ.out.2 h; cases this)
                    go_wp2
                    go_ret2
                    exact ⟨.inr ⟨HLp.out, rfl⟩, HB9.out⟩
                  · have HW := Lib.hid (HQ.out.1 rfl)
                    have HLp : Hid (LastP (datN ns) (some (.bin 4 ta tb, k))) := Lib.hid (by rw [HE.out]; exact lastP_bin HBin.out HW.out HLb.out (HTk.out ▸ HLa.out))
                    have HF : Hid (PartAt w9 B w.heap.size (.bin 4 ta tb) w.heap.size) := Lib.hid (by
                      have hp := heap_set7 HPr.out (.pointer (some ⟨s, 0, none⟩))
                      have hlt := lt_of_block hp
                      refine ⟨Nat.le_refl _, Nat.lt_of_lt_of_le hlt HD9.out.size, HBin.out, t, s, r, (HD9.out.block _ hlt).trans hp, HW.out, HSh.out, HWi.out.below (HB9.out.mono hB), ?_, ?_⟩
                      · exact ((HPa.out.set hB (by omega)).below (Nat.le_trans hB (HB7.out _).size) HD9.out).low (by omega)
                      · exact ((HPb2.out.set hB (by omega)).below (Nat.le_trans hB (HB7.out _).size) HD9.out).low (by omega))
                    go_wp2
                    go_ret2
                    exact ⟨.inl ⟨_, _, _, HLp.out, rfl, HF.out⟩, HB9.out⟩
                · have HLa := Lib.hid hl
                  clear hl
                  have c7 : w2.cell? ⟨w.heap.size, 7, none⟩ = some (.pointer none) := cell_of_row w2 _ 7 _ _ (0, 0) HPr.out
                  have z7 : w2.frozen? ⟨w.heap.size, 7, none⟩ = false := frozen_of_row w2 _ 7 _ _ HPr.out
                  have HLp : Hid (LastP (datN ns) none) := Lib.hid (by rw [HE.out]; exact lastP_bin_no1 HBin.out HLb.out (HTk.out ▸ HLa.out))
                  have HB7 : Hid (∀ u, Below w.heap.size w (w2.setCell ⟨w.heap.size, 7, none⟩ u)) := Lib.hid fun u => HBr.out.setCell (Nat.le_refl _) u
                  go_wp2
                  go_ret2
                  exact ⟨.inr ⟨HLp.out, rfl⟩, HB7.out _⟩
              · have HLa := Lib.hid hl
                clear hl
                have c8 : w1.cell? ⟨w.heap.size, 8, none⟩ = some (.pointer none) := cell_of_row w1 _ 8 _ _ (0, 0) HPr.out
                have z8 : w1.frozen? ⟨w.heap.size, 8, none⟩ = false := frozen_of_row w1 _ 8 _ _ HPr.out
                have HP8 := Lib.hid (heap_set8 HPr.out (.pointer none))
                have HB8 : Hid (∀ u, Below w.heap.size w (w1.setCell ⟨w.heap.size, 8, none⟩ u)) := Lib.hid fun u => HBr.out.setCell (Nat.le_refl _) u
                clear HPr HBr
                go_wp2_with fail
                refine (iLast0 B 0 none 0 0 none _).mono ?_
                rintro e w2 ⟨rfl, hw2⟩
                have HPr : Hid (w2.heap[w.heap.size]? = some (.cells #[.int .i64 4, .int .i64 t.kind, .int .i64 t.field, .int .i64 t.value, .slice t.LA t.Ln t.Lc, .slice t.PA t.Pn t.Pc, .nilIface, .pointer none, .pointer none] 154 (0, 0))) := Lib.hid (by rw [hw2]; exact HP8.out)
                have HBr : Hid (Below w.heap.size w w2) := Lib.hid (by rw [hw2]; exact HB8.out _)
                clear hw2 HP8 HB8
                clear c8 z8
                have c7 : w2.cell? ⟨w.heap.size, 7, none⟩ = some (.pointer none) := cell_of_row w2 _ 7 _ _ (0, 0) HPr.out
                have z7 : w2.frozen? ⟨w.heap.size, 7, none⟩ = false := frozen_of_row w2 _ 7 _ _ HPr.out
                have HLp : Hid (LastP (datN ns) none) := Lib.hid (by rw [HE.out]; exact lastP_bin_no2 HBin.out HLa.out)
                have HB7 : Hid (∀ u, Below w.heap.size w (w2.setCell ⟨w.heap.size, 7, none⟩ u)) := Lib.hid fun u => HBr.out.setCell (Nat.le_refl _) u
                go_wp2
                go_ret2
                exact ⟨.inr ⟨HLp.out, rfl⟩, HB7.out _⟩
          · have hnb : ¬ Bin op := eb
            have f0 : (op == 0) = false := by simpa using e0
            have f3 : (op == 3) = false := by simpa using e3
            have f1 : (op == 1) = false := by
              have : op ≠ 1 := fun h => eb (.inl h)
              simpa using this
            have f2 : (op == 2) = false := by
              have : op ≠ 2 := fun h => eb (.inr (.inl h))
              simpa using this
            have f4 : (op == 4) = false := by
              have : op ≠ 4 := fun h => eb (.inr (.inr h))
              simpa using this
            have HLp : Hid (LastP (datN ns) none) := Lib.hid (by rw [HE.out]; exact lastP_odd e0 e3 hnb)
            clear hnb e0 e3 eb hvw
            go_enter Try.func110, Try.ntmps110
            go_wp2
            go_region
            go_wp2
            go_ret2
            exact ⟨.inr ⟨HLp.out, rfl⟩, HW1.out _⟩
end Go.Proofs.Ytmbchpdcgjlggaa.num
namespace Go.Proofs.Ytmbchpdcgjlggaa.num
set_option maxRecDepth 20000
open Go.RowKit Go.Maps
set_option linter.unusedVariables false
set_option linter.unusedSimpArgs false

def TreeOut (B lo : Nat) (nds : List ND) (e : Ending) (w' : World) : Prop :=
  (IsE nds ∧ ∃ t p, Post nds t ∧ e = .returned (.pointer (some ⟨p, 0, none⟩)) ∧ PartAt w' B lo t p) ∨ (¬ IsE nds ∧ e = .returned (.pointer none))
set_option maxRecDepth 20000 in
theorem iTreeOfW (w : World) (B : Nat) (A : Option Addr) (n c : Nat) (ns : List Nd) (hi : Nodes w B A n ns) (hB : B ≤ w.heap.size) (hnc : n ≤ c) (hc : c ≤ 9223372036854775807) (hN : ShortN ns) :
    Calls Try.prog 77 #[.slice A n c] w fun e w' => TreeOut B w.heap.size (datN ns) e w' ∧ Below w.heap.size w w' := by
  have HL : Hid ((datN ns).length = n) := Lib.hid (by unfold datN; rw [List.length_map, hi.len])
  have HC := Lib.hid (iLast B A c hc n w ns hi hB hnc hN)
  clear hi hN
  by_cases h9 : n ≤ 9
  · go_enter Try.func77, Try.ntmps77
    go_wp2_with fail
    refine HC.out.mono ?_
    rintro e w1 ⟨hout, hb1⟩
    have HB := Lib.hid hb1
    clear hb1 HC
    rcases hout with ⟨t, k, p, hl, rfl, hpa⟩ | ⟨hl, rfl⟩
    · have HLp := Lib.hid hl
      have HP := Lib.hid hpa
      have hkn : k ≤ 9223372036854775807 := by have := hl.lt; rw [HL.out] at this; omega
      clear hl hpa
      by_cases hk : k = 0
      · subst hk
        go_wp2
        go_ret
        refine ⟨.inl ⟨(isE_last HLp.out).2 ⟨by rw [HL.out]; exact h9, rfl⟩, t, p, ?_, rfl, HP.out⟩, HB.out⟩
        have := HLp.out
        simpa [LastP] using this
      · have hk' : 0 < k := by omega
        have hd : decide ((k : Int) > 0) = true := by simp; omega
        go_wp2
        go_ret
        exact ⟨.inr ⟨fun h => by have := ((isE_last HLp.out).1 h).2; omega, rfl⟩, HB.out⟩
    · have HLp := Lib.hid hl
      clear hl
      go_wp2
      go_ret
      exact ⟨.inr ⟨isE_none HLp.out, rfl⟩, HB.out⟩
  · have hd : decide ((n : Int) > 9) = true := by simp; omega
    have hgt : (9 : Int) < (n : Int) := by omega
    go_enter Try.func77, Try.ntmps77
    go_wp2
    go_ret
    exact ⟨.inr ⟨fun h => by have := h.1; rw [HL.out] at this; omega, rfl⟩, Below.refl _ _⟩
theorem iTreeOf (w : World) (B : Nat) (A : Option Addr) (n c : Nat) (ns : List Nd) (hi : Nodes w B A n ns) (hB : B ≤ w.heap.size) (hnc : n ≤ c) (hc : c ≤ 1048576) (hN : ShortN ns) :
    Calls Try.prog 77 #[.slice A n c] w fun e w' => TreeOut B w.heap.size (datN ns) e w' ∧ Below w.heap.size w w' := iTreeOfW w B A n c ns hi hB hnc (Nat.le_trans hc (by decide)) hN
set_option maxRecDepth 20000 in
theorem iIsEW (w : World) (B : Nat) (A : Option Addr) (n c : Nat) (ns : List Nd) (hi : Nodes w B A n ns) (hB : B ≤ w.heap.size) (hnc : n ≤ c) (hc : c ≤ 9223372036854775807) (hN : ShortN ns) (b : Bool) (hb : b = true ↔ IsE (datN ns)) :
    Calls Try.prog 32 #[.slice A n c] w fun e w' => e = .returned (.bool b) ∧ Below w.heap.size w w' := by
  have HC := Lib.hid (iTreeOfW w B A n c ns hi hB hnc hc hN)
  have HBo := Lib.hid hb
  clear hi hN hb
  go_enter Try.func32, Try.ntmps32
  go_wp2_with fail
  refine HC.out.mono ?_
  rintro e w1 ⟨hout, hb1⟩
  have HB := Lib.hid hb1
  clear hb1 HC
  rcases hout with ⟨hE, t, p, _, rfl, _⟩ | ⟨hE, rfl⟩
  · obtain rfl : b = true := HBo.out.2 hE
    go_wp2
    go_ret
    exact ⟨rfl, HB.out⟩
  · obtain rfl : b = false := by
      cases b
      · rfl
      · exact absurd (HBo.out.1 rfl) hE
    go_wp2
    go_ret
    exact ⟨rfl, HB.out⟩
theorem iIsE (w : World) (B : Nat) (A : Option Addr) (n c : Nat) (ns : List Nd) (hi : Nodes w B A n ns) (hB : B ≤ w.heap.size) (hnc : n ≤ c) (hc : c ≤ 1048576) (hN : ShortN ns) (b : Bool) (hb : b = true ↔ IsE (datN ns)) :
    Calls Try.prog 32 #[.slice A n c] w fun e w' => e = .returned (.bool b) ∧ Below w.heap.size w w' := iIsEW w B A n c ns hi hB hnc (Nat.le_trans hc (by decide)) hN b hb

theorem iRev (w : World) (x : Int) : Calls Try.prog 126 #[.int .i64 x] w fun e w' => e = .returned (.int .i64 (revC x)) ∧ w' = w := by
  unfold revC
  by_cases h1 : x = 1
  · subst h1
    go_enter Try.func126, Try.ntmps126
    go_wp2
    go_ret
    exact ⟨rfl, rfl⟩
  · rw [if_neg h1]
    by_cases h2 : x = -1
    · subst h2
      go_enter Try.func126, Try.ntmps126
      go_wp2
      go_ret
      exact ⟨rfl, rfl⟩
    · rw [if_neg h2]
      have f1 : (x == 1) = false := by simpa using h1
      have f2 : (x == -1) = false := by simpa using h2
      go_enter Try.func126, Try.ntmps126
      go_wp2
      go_ret
      exact ⟨rfl, rfl⟩
/-- Two codes that cannot both hold for a whole. -/
def apartC (a b : Int) : Bool := a == 2 || b == 2 || (a != 0 && a == revC b)
theorem iDis (w : World) (a b : Int) (ha : Code a) (hb : Code b) : Calls Try.prog 127 #[.int .i64 a, .int .i64 b] w fun e w' => e = .returned (.bool (apartC a b)) ∧ w' = w := by
  have HC : Hid (∀ w1, Calls Try.prog 126 #[.int .i64 b] w1 fun e w' => e = .returned (.int .i64 (revC b)) ∧ w' = w1) := Lib.hid fun w1 => iRev w1 b
  rcases ha with rfl | rfl | rfl | rfl <;> rcases hb with rfl | rfl | rfl | rfl <;>
    (go_enter Try.func127, Try.ntmps127
     first
     | (go_wp2
        go_ret
        exact ⟨by decide, rfl⟩)
     | (go_wp2
        go_ret
        exact ⟨rfl, rfl⟩)
     | (go_wp2_with fail
        refine (HC.out _).mono ?_
        rintro e w1 ⟨rfl, rfl⟩
        go_wp2
        go_ret
        exact ⟨rfl, rfl⟩))
theorem opC_pareto {a b : Int} (ha : Code a) (hb : Code b) : opC 1 a b = if apartC a b = true then 2 else if a ≠ 0 then a else b := by
  rcases ha with rfl | rfl | rfl | rfl <;> rcases hb with rfl | rfl | rfl | rfl <;> decide
end Go.Proofs.Ytmbchpdcgjlggaa.num
namespace Go.Proofs.Ytmbchpdcgjlggaa.num
set_option maxRecDepth 20000
set_option linter.unusedVariables false

/-- Two expressions and an operator behind them. -/
theorem joinE {a b : List ND} {nd : ND} (ha : IsE a) (hb : IsE b) (hw : NoW nd.w) : IsE (a ++ b ++ [nd]) ↔ Bin nd.op ∧ a.length + b.length < 9 := by
  obtain ⟨la, ta, pa⟩ := ha
  obtain ⟨lb, tb, pb⟩ := hb
  have hs : Stk (a ++ b) [tb, ta] := pb.stk (post_stk.1 pa)
  constructor
  · rintro ⟨h1, t, ht⟩
    have h2 := post_stk.1 ht
    refine ⟨?_, by simp at h1; omega⟩
    rcases h2.inv with ⟨_, _, s, k, e⟩ | ⟨_, _, x, s, k, e⟩ | ⟨h, _⟩
    · have := hs.one k
      subst this
      simp at e
    · have := hs.one k
      simp only [List.cons.injEq] at this
      obtain ⟨_, rfl⟩ := this
      simp at e
    · exact h
  · rintro ⟨h1, h2⟩
    exact ⟨by simp; omega, _, .bin h1 hw pa pb⟩
theorem joinE' {a b : List ND} {nd : ND} (ha : IsE a) (hb : IsE b) (hw : NoW nd.w) {q : Bool} (hq : q = true ↔ Bin nd.op ∧ a.length + b.length < 9) : q = true ↔ IsE (a ++ b ++ [nd]) := hq.trans (joinE ha hb hw).symm

/-- The wishes of a list of nodes, in their order. -/
def wishL (nds : List ND) : List WD := nds.filterMap fun nd => if nd.op = 0 then some nd.w else none
theorem wishL_snoc_base {nds : List ND} {nd : ND} (h : nd.op = 0) : wishL (nds ++ [nd]) = wishL nds ++ [nd.w] := by
  unfold wishL; rw [List.filterMap_append]; simp [h]
theorem wishL_snoc_op {nds : List ND} {nd : ND} (h : nd.op ≠ 0) : wishL (nds ++ [nd]) = wishL nds := by
  unfold wishL; rw [List.filterMap_append]; simp [h]
theorem wishL_len (nds : List ND) : (wishL nds).length ≤ nds.length := List.length_filterMap_le _ _
/-- What WishesOf answers. -/
def wishesE (q : Bool) (nds : List ND) : List WD := if q then wishL nds else []
end Go.Proofs.Ytmbchpdcgjlggaa.num
namespace Go.Proofs.Ytmbchpdcgjlggaa.num
set_option maxRecDepth 20000
open Go.RowKit
set_option linter.unusedVariables false
set_option linter.unusedSimpArgs false

/-- append of one element, its run told. -/
theorem run_oneG {α : Type} {f : α → List Value} {s : Nat} (hf : ∀ x, (f x).length = s) (h1 : ∀ x, ∀ u ∈ f x, u.oneCell' = true) {T tS ty : TypeId} {z : Value} {bytes : Nat} (ht : Try.prog.underlying tS = some (.slice T)) (hinf : (Try.prog.info? T).map (fun i => (i.zero, i.size, i.bytes)) = some (some z, s, bytes)) (hzs : z.cells.size = s) (hs0 : 0 < s) (hbt : 0 < bytes)
    {w : World} {B N c : Nat} {v : Value} {l : List α} (y : α) {cs : Array Value} (hcs : cs = (f y).toArray) (h : OwnG T f s w B v l) (hN : w.heap.size = N) (hlen : (l.length + 1) * bytes ≤ 140737488355328) (hB : B ≤ w.heap.size) :
    ∃ v' w', (Builtin.append_ #[tS, tS] ty #[v, .slice (some ⟨N, 0, none⟩) 1 c]).run Try.prog (w.alloc (.cells cs T)) = .ok v' w' ∧ OwnG T f s w' B v' (l ++ [y]) ∧ w.grownBy w' v.ownBlock ∧ (v'.ownBlock = v.ownBlock ∨ v'.ownBlock = some (N + 1)) := by
  subst hcs hN
  obtain ⟨v', w', hr, ho, hg, hat⟩ := run_app_some (P := Try.prog) (ty := ty) ht hinf hzs hs0 hbt (World.ownsRow.alloc h (.cells (f y).toArray T)) ⟨w.heap.size, 0, none⟩ (m := 1) (c := c) (news := f y) (by rw [hf, Nat.one_mul]) (fun j u hj => by
    rw [addr_add, Nat.zero_add, World.cell?_alloc_at _ _ _ _ rfl]
    simpa using hj) (h1 y) hlen (by simp; omega)
  refine ⟨v', w', hr, ?_, ⟨hg.os, hg.tape, hg.output, Nat.le_trans (by simp) hg.size, fun k hk hv => (hg.block k (by simp; omega) hv).trans (Below.heap_alloc _ _ _ hk)⟩, by simpa using hat⟩
  unfold OwnG
  rw [List.length_append, List.length_singleton, List.flatMap_append, List.flatMap_singleton]
  exact ho

/-- Nodes whose lists are the call's own, apart from one another. -/
structure NodesO (w : World) (lo : Nat) (ns : List Nd) : Prop where
  x : ∀ (k : Nat) (x : Nd), ns[k]? = some x → (Lit.int .i64 x.op).wf = true ∧ WiO w lo x.t
  d : ∀ (i j : Nat) (x y : Nd) (b : Nat), i < j → ns[i]? = some x → ns[j]? = some y → x.t.has b → ¬ y.t.has b
theorem OwnN.no {w : World} {lo : Nat} {v : Value} {ns : List Nd} (h : OwnN w lo v ns) : NodesO w lo ns := ⟨h.x, h.d⟩
theorem NodesO.has_in {w : World} {lo : Nat} {ns : List Nd} (h : NodesO w lo ns) {x : Nd} (hx : x ∈ ns) {b : Nat} (hb : x.t.has b) : lo ≤ b ∧ b < w.heap.size := by
  obtain ⟨k, hk, rfl⟩ := List.getElem_of_mem hx
  exact (h.x k _ (List.getElem?_eq_getElem hk)).2.has_in hb
theorem NodesO.blocks {w w' : World} {lo : Nat} {ns : List Nd} (h : NodesO w lo ns) (hb : ∀ x ∈ ns, ∀ b, x.t.has b → w'.heap[b]? = w.heap[b]?) : NodesO w' lo ns :=
  ⟨fun k x hk => ⟨(h.x k x hk).1, (h.x k x hk).2.blocks fun b h' => hb x (List.mem_of_getElem? hk) b h'⟩, h.d⟩
theorem NodesO.low {w : World} {lo lo' : Nat} {ns : List Nd} (h : NodesO w lo ns) (hl : lo' ≤ lo) : NodesO w lo' ns := ⟨fun k x hk => ⟨(h.x k x hk).1, (h.x k x hk).2.low hl⟩, h.d⟩
theorem get_app {α : Type} {l m : List α} {i : Nat} {x : α} (h : (l ++ m)[i]? = some x) : (i < l.length ∧ l[i]? = some x) ∨ (l.length ≤ i ∧ m[i - l.length]? = some x) := by
  rcases Nat.lt_or_ge i l.length with g | g
  · exact .inl ⟨g, by rwa [List.getElem?_append_left g] at h⟩
  · exact .inr ⟨g, by rwa [List.getElem?_append_right g] at h⟩
theorem NodesO.cat {w : World} {lo hi : Nat} {ns1 ns2 : List Nd} (h1 : NodesO w lo ns1) (h2 : NodesO w hi ns2) (hle : lo ≤ hi) (htop : ∀ x ∈ ns1, ∀ b, x.t.has b → b < hi) : NodesO w lo (ns1 ++ ns2) := by
  refine ⟨fun k x hk => ?_, fun i j x y b hij hx hy hb hb' => ?_⟩
  · rcases get_app hk with ⟨_, h⟩ | ⟨_, h⟩
    · exact h1.x k x h
    · exact ⟨(h2.x _ x h).1, (h2.x _ x h).2.low hle⟩
  · rcases get_app hx with ⟨_, hx⟩ | ⟨_, hx⟩ <;> rcases get_app hy with ⟨_, hy⟩ | ⟨_, hy⟩
    · exact h1.d i j x y b hij hx hy hb hb'
    · have q1 := htop x (List.mem_of_getElem? hx) b hb
      have q2 := ((h2.x _ y hy).2.has_in hb').1
      omega
    · omega
    · exact h2.d _ _ x y b (by omega) hx hy hb hb'
/-- An operator's node. -/
def bareN (op : Int) : Nd := ⟨op, 0, 0, 0, none, 0, 0, [], none, 0, 0, []⟩
theorem bare_has (op : Int) (b : Nat) : ¬ (bareN op).t.has b := fun h => by
  rcases h with h | h <;> cases h
theorem NodesO.bare (w : World) (lo : Nat) {op : Int} (ho : (Lit.int .i64 op).wf = true) : NodesO w lo [bareN op] := by
  refine ⟨fun k x hk => ?_, fun i j x y b hij hx hy => ?_⟩
  · rcases k with _ | k
    · simp at hk
      subst hk
      exact ⟨ho, ⟨by show (Lit.int .i64 0).wf = true; decide, by show (Lit.int .i64 0).wf = true; decide, by show (Lit.int .i64 0).wf = true; decide, ownI_nil _ _, OwnP.nil _ _, fun b h => by cases h⟩⟩
    · simp at hk
  · rcases j with _ | j
    · omega
    · simp at hy
theorem OwnN.of {w : World} {lo : Nat} {v : Value} {ns : List Nd} (hr : OwnG 97 nodeCells 6 w lo v ns) (hn : NodesO w lo ns) (ha : ∀ x ∈ ns, ∀ b, x.t.has b → v.ownBlock ≠ some b) : OwnN w lo v ns :=
  ⟨hr, hn.x, fun k x b hk hb => ha x (List.mem_of_getElem? hk) b hb, hn.d⟩
def zeroWD : WD := ⟨0, 0, 0, [], []⟩
theorem noW_zero : NoW zeroWD := ⟨rfl, rfl, rfl, rfl, rfl⟩
/-- What JoinExpressions answers. -/
def joinD (r : Bool) (a b : List ND) (op : Int) : List ND := if r then a ++ b ++ [⟨op, zeroWD⟩] else []
theorem datN_app (l m : List Nd) : datN (l ++ m) = datN l ++ datN m := by unfold datN; rw [List.map_append]
theorem datN_bare (op : Int) : datN [bareN op] = [⟨op, zeroWD⟩] := rfl
theorem short_app {l m : List Nd} (h1 : ShortN l) (h2 : ShortN m) : ShortN (l ++ m) := fun x hx => by
  rcases List.mem_append.1 hx with h | h
  · exact h1 x h
  · exact h2 x h
theorem short_bare (op : Int) : ShortN [bareN op] := fun x hx => by
  rw [List.mem_singleton.1 hx]; exact ⟨Nat.zero_le _, Nat.zero_le _⟩
theorem datN_len {ns ns' : List Nd} (h : datN ns' = datN ns) : ns'.length = ns.length := by
  have := congrArg List.length h
  unfold datN at this
  rwa [List.length_map, List.length_map] at this
set_option maxRecDepth 20000 in
set_option maxHeartbeats 3200000 in
theorem sCopyN_c (w : World) (B : Nat) (A : Option Addr) (n c : Nat) (ns : List Nd) (hi : Nodes w B A n ns) (hB : B ≤ w.heap.size) (hn : n ≤ 1048576) (hN : ShortN ns) :
    Calls Try.prog 85 #[.slice A n c] w fun e w' => ∃ v ns', e = .returned v ∧ datN ns' = datN ns ∧ ShortN ns' ∧ OwnN w' w.heap.size v ns' ∧ Below w.heap.size w w' := by
  have HX := Lib.hid hi
  have HN := Lib.hid hN
  have HE : Hid (OwnN (w.alloc (.cells #[] 97)) w.heap.size (.slice (some ⟨w.heap.size, 0, none⟩) 0 0) []) := Lib.hid ⟨OwnG.empty w w.heap.size (Nat.le_refl _), by simp, by simp, by simp⟩
  have HBe : Hid (Below w.heap.size w (w.alloc (.cells #[] 97))) := Lib.hid ((Below.refl _ w).alloc (Nat.le_refl _) _)
  clear hi hN
  go_enter Try.func85, Try.ntmps85
  go_wp2
  go_loopw [3, 4] (fun v i wr => ∃ (k : Nat) (cs : List Nd) (V : Value), k ≤ n ∧ i = .int .i64 k ∧ V = v ∧ OwnN wr w.heap.size V cs ∧ datN cs = datN (ns.take k) ∧ ShortN cs ∧ Below w.heap.size w wr) (fun _ i _ => n - (intOf i).toNat)
  case atStart => exact ⟨0, [], _, Nat.zero_le _, rfl, rfl, HE.out, rfl, by simp [ShortN], HBe.out⟩
  case round =>
    obtain ⟨k, cs, v, hk, rfl, rfl, hown, hdat, hsh, hbel⟩ := hrel
    have HO := Lib.hid hown
    have HD := Lib.hid hdat
    have HS := Lib.hid hsh
    have HB := Lib.hid hbel
    clear hown hdat hsh
    by_cases hlt : k < n
    · obtain ⟨b1, off, ⟨op, t⟩, rfl, hb1, hat, hwf, g0, g1, g2, g3, g4, g5⟩ := HX.out.at k hlt
      dsimp only at g0 g1 g2 g3 g4 g5
      have hbw : b1 < w.heap.size := Nat.lt_of_lt_of_le hb1 hB
      have g0 := (hbel.cell (p := ⟨b1, off + k * 6, none⟩) hbw).trans g0
      have g1 := (hbel.cell (p := ⟨b1, off + k * 6 + 1, none⟩) hbw).trans g1
      have g2 := (hbel.cell (p := ⟨b1, off + k * 6 + 2, none⟩) hbw).trans g2
      have g3 := (hbel.cell (p := ⟨b1, off + k * 6 + 3, none⟩) hbw).trans g3
      have g4 := (hbel.cell (p := ⟨b1, off + k * 6 + 4, none⟩) hbw).trans g4
      have g5 := (hbel.cell (p := ⟨b1, off + k * 6 + 5, none⟩) hbw).trans g5
      have HT := Lib.hid hat
      have HWf := Lib.hid hwf.1
      have hsh0 : t.Short := HN.out _ (List.mem_of_getElem? hat)
      have HCp : Hid (∀ W, Below wr.heap.size wr W → Calls Try.prog 81 #[.agg #[.int .i64 t.kind, .int .i64 t.field, .int .i64 t.value, .slice t.LA t.Ln t.Lc, .slice t.PA t.Pn t.Pc]] W fun e w' => ∃ t' : Wi, e = .returned t'.val ∧ t'.dat = t.dat ∧ t'.Short ∧ WiO w' W.heap.size t' ∧ Below W.heap.size W w') := Lib.hid fun W h => sWish_c W B t (hwf.2.below ((hbel.mono hB).trans (h.mono (Nat.le_trans hB hbel.size)))) (Nat.le_trans (Nat.le_trans hB hbel.size) h.size) hsh0
      have HLn : Hid ((cs.length + 1) * 80 ≤ 140737488355328) := Lib.hid (by
        have h1 := congrArg List.length HD.out
        unfold datN at h1
        rw [List.length_map, List.length_map, List.length_take] at h1
        omega)
      have hlt' : (k : Int) < (n : Int) := by omega
      clear hat hwf hbel hsh0
      go_wp2
      have hS0 : (fun w' => Below w.heap.size wr w' ∧ w'.cell? ⟨b1, off + k * 6, none⟩ = some (.int .i64 op) ∧ w'.cell? ⟨b1, off + k * 6 + 1, none⟩ = some (.int .i64 t.kind) ∧ w'.cell? ⟨b1, off + k * 6 + 2, none⟩ = some (.int .i64 t.field) ∧ w'.cell? ⟨b1, off + k * 6 + 3, none⟩ = some (.int .i64 t.value) ∧ w'.cell? ⟨b1, off + k * 6 + 4, none⟩ = some (.slice t.LA t.Ln t.Lc) ∧ w'.cell? ⟨b1, off + k * 6 + 5, none⟩ = some (.slice t.PA t.Pn t.Pc)) wr.drew := ⟨(Below.refl _ _).drew, g0, g1, g2, g3, g4, g5⟩
      refine wp_region_held (S := fun w' => Below w.heap.size wr w' ∧ w'.cell? ⟨b1, off + k * 6, none⟩ = some (.int .i64 op) ∧ w'.cell? ⟨b1, off + k * 6 + 1, none⟩ = some (.int .i64 t.kind) ∧ w'.cell? ⟨b1, off + k * 6 + 2, none⟩ = some (.int .i64 t.field) ∧ w'.cell? ⟨b1, off + k * 6 + 3, none⟩ = some (.int .i64 t.value) ∧ w'.cell? ⟨b1, off + k * 6 + 4, none⟩ = some (.slice t.LA t.Ln t.Lc) ∧ w'.cell? ⟨b1, off + k * 6 + 5, none⟩ = some (.slice t.PA t.Pn t.Pc)) (by kernel_rfl) ?_
      change wpAnyH _ _ _ _ _ _ _ _ (World.drew _)
      refine takeY 12 (i := 0) (v := ?v0a) rfl rfl (by kernel_rfl) (by kernel_rfl) (by kernel_rfl) (fun _ _ _ h => h) (by kernel_rfl) ?y0a hS0 ?_
      case y0a =>
        intro w' hw'; (try dsimp only at hw'); obtain ⟨e0, e1, e2, e3, e4, e5, e6⟩ := hw'; go_simp; try with_reducible rfl
      simp only [Act.put, List.setIfInBounds_toArray, List.set_cons_zero, List.set_cons_succ]
      refine takeY 13 (i := 1) (v := ?v1a) rfl rfl (by kernel_rfl) (by kernel_rfl) (by kernel_rfl) (fun _ _ _ h => h) (by kernel_rfl) ?y1a hS0 ?_
      case y1a =>
        intro w' hw'; (try dsimp only at hw'); obtain ⟨e0, e1, e2, e3, e4, e5, e6⟩ := hw'; go_simp; try with_reducible rfl
      simp only [Act.put, List.setIfInBounds_toArray, List.set_cons_zero, List.set_cons_succ]
      refine takeY 14 (i := 2) (v := ?v2a) rfl rfl (by kernel_rfl) (by kernel_rfl) (by kernel_rfl) (fun _ _ _ h => h) (by kernel_rfl) ?y2a hS0 ?_
      case y2a =>
        intro w' hw'; (try dsimp only at hw'); obtain ⟨e0, e1, e2, e3, e4, e5, e6⟩ := hw'; go_simp; try with_reducible rfl
      simp only [Act.put, List.setIfInBounds_toArray, List.set_cons_zero, List.set_cons_succ]
      refine takeY 15 (i := 3) (v := ?v3a) rfl rfl (by kernel_rfl) (by kernel_rfl) (by kernel_rfl) (fun _ _ _ h => h) (by kernel_rfl) ?y3a hS0 ?_
      case y3a =>
        intro w' hw'; (try dsimp only at hw'); obtain ⟨e0, e1, e2, e3, e4, e5, e6⟩ := hw'; go_simp; try with_reducible rfl
      simp only [Act.put, List.setIfInBounds_toArray, List.set_cons_zero, List.set_cons_succ]
      refine takeY 16 (i := 4) (v := ?v4a) rfl rfl (by kernel_rfl) (by kernel_rfl) (by kernel_rfl) (fun _ _ _ h => h) (by kernel_rfl) ?y4a hS0 ?_
      case y4a =>
        intro w' hw'; (try dsimp only at hw'); obtain ⟨e0, e1, e2, e3, e4, e5, e6⟩ := hw'; go_simp; try with_reducible rfl
      simp only [Act.put, List.setIfInBounds_toArray, List.set_cons_zero, List.set_cons_succ]
      refine takeY 17 (i := 5) (v := ?v5a) rfl rfl (by kernel_rfl) (by kernel_rfl) (by kernel_rfl) (fun _ _ _ h => h) (by kernel_rfl) ?y5a hS0 ?_
      case y5a =>
        intro w' hw'; (try dsimp only at hw'); obtain ⟨e0, e1, e2, e3, e4, e5, e6⟩ := hw'; go_simp; try with_reducible rfl
      simp only [Act.put, List.setIfInBounds_toArray, List.set_cons_zero, List.set_cons_succ]
      refine takeY 18 (i := 6) (v := ?v6a) rfl rfl (by kernel_rfl) (by kernel_rfl) (by kernel_rfl) (fun _ _ _ h => h) (by kernel_rfl) ?y6a hS0 ?_
      case y6a =>
        intro w' hw'; (try dsimp only at hw'); obtain ⟨e0, e1, e2, e3, e4, e5, e6⟩ := hw'; go_simp; try with_reducible rfl
      simp only [Act.put, List.setIfInBounds_toArray, List.set_cons_zero, List.set_cons_succ]
      refine takeY 19 (i := 7) (v := ?v7a) rfl rfl (by kernel_rfl) (by kernel_rfl) (by kernel_rfl) (fun _ _ _ h => h) (by kernel_rfl) ?y7a hS0 ?_
      case y7a =>
        intro w' hw'; (try dsimp only at hw'); obtain ⟨e0, e1, e2, e3, e4, e5, e6⟩ := hw'; go_simp; try with_reducible rfl
      simp only [Act.put, List.setIfInBounds_toArray, List.set_cons_zero, List.set_cons_succ]
      refine takeY 20 (i := 8) (v := ?v8a) rfl rfl (by kernel_rfl) (by kernel_rfl) (by kernel_rfl) (fun _ _ _ h => h) (by kernel_rfl) ?y8a hS0 ?_
      case y8a =>
        intro w' hw'; (try dsimp only at hw'); obtain ⟨e0, e1, e2, e3, e4, e5, e6⟩ := hw'; go_simp; try with_reducible rfl
      simp only [Act.put, List.setIfInBounds_toArray, List.set_cons_zero, List.set_cons_succ]
      refine takeY 21 (i := 9) (v := ?v9a) rfl rfl (by kernel_rfl) (by kernel_rfl) (by kernel_rfl) (fun _ _ _ h => h) (by kernel_rfl) ?y9a hS0 ?_
      case y9a =>
        intro w' hw'; (try dsimp only at hw'); obtain ⟨e0, e1, e2, e3, e4, e5, e6⟩ := hw'; go_simp; try with_reducible rfl
      simp only [Act.put, List.setIfInBounds_toArray, List.set_cons_zero, List.set_cons_succ]
      refine takeY 22 (i := 10) (v := ?v10a) rfl rfl (by kernel_rfl) (by kernel_rfl) (by kernel_rfl) (fun _ _ _ h => h) (by kernel_rfl) ?y10a hS0 ?_
      case y10a =>
        intro w' hw'; (try dsimp only at hw'); obtain ⟨e0, e1, e2, e3, e4, e5, e6⟩ := hw'; go_simp; try with_reducible rfl
      simp only [Act.put, List.setIfInBounds_toArray, List.set_cons_zero, List.set_cons_succ]
      refine wpAnyH_ready (rs := [11]) (by kernel_rfl) (by simp) ?_
      refine AllReadyH.cons rfl (fun K hK => ?_) AllReadyH.nil
      go_simp; go_at_call 81; refine (HCp.out _ (Below.refl wr.heap.size wr).drew).mono ?_; rintro e w2 ⟨t', rfl, hd', hs', ho', hb2⟩; unfold Wi.val; have hb2' : Below wr.heap.size wr w2 := (Below.refl wr.heap.size wr).drew.trans (hb2.mono (Nat.le_refl _)); have hb2m : Below w.heap.size wr w2 := hb2'.mono HB.out.size; have HO2 := Lib.hid (HO.out.below hb2'); have HWo : Hid (WiO w2 wr.heap.size t') := Lib.hid ho'; have HD2 := Lib.hid hd'; have HS2 := Lib.hid hs'; have HB2 := Lib.hid hb2'; have hsz2 : w.heap.size ≤ w2.heap.size := Nat.le_trans HB.out.size hb2'.size; clear hd' hs' ho' hb2 hb2'
      refine hK.out _ _ ⟨hb2m, (hb2m.cell (p := ⟨b1, off + k * 6, none⟩) hbw).trans g0, (hb2m.cell (p := ⟨b1, off + k * 6 + 1, none⟩) hbw).trans g1, (hb2m.cell (p := ⟨b1, off + k * 6 + 2, none⟩) hbw).trans g2, (hb2m.cell (p := ⟨b1, off + k * 6 + 3, none⟩) hbw).trans g3, (hb2m.cell (p := ⟨b1, off + k * 6 + 4, none⟩) hbw).trans g4, (hb2m.cell (p := ⟨b1, off + k * 6 + 5, none⟩) hbw).trans g5⟩ (fun hS1 => ?_)
      clear hK K
      try simp only [Act.put, List.setIfInBounds_toArray, List.set_cons_zero, List.set_cons_succ]
      refine takeY 24 (i := 12) (v := ?v12a) rfl rfl (by kernel_rfl) (by kernel_rfl) (by kernel_rfl) (fun _ _ _ h => h) (by kernel_rfl) ?y12a hS1 ?_
      case y12a =>
        intro w' hw'; (try dsimp only at hw'); obtain ⟨e0, e1, e2, e3, e4, e5, e6⟩ := hw'; go_simp; try with_reducible rfl
      simp only [Act.put, List.setIfInBounds_toArray, List.set_cons_zero, List.set_cons_succ]
      refine wpAnyH_ready (rs := [13]) (by kernel_rfl) (by simp) ?_
      refine AllReadyH.cons rfl (fun K hK => ?_) AllReadyH.nil
      go_simp; have hb2a : Below w.heap.size wr (w2.alloc (.cells #[.int .i64 op, .int .i64 t'.kind, .int .i64 t'.field, .int .i64 t'.value, .slice t'.LA t'.Ln t'.Lc, .slice t'.PA t'.Pn t'.Pc] 97)) := hb2m.alloc hsz2 _
      refine hK.out _ _ ⟨hb2a, (hb2a.cell (p := ⟨b1, off + k * 6, none⟩) hbw).trans g0, (hb2a.cell (p := ⟨b1, off + k * 6 + 1, none⟩) hbw).trans g1, (hb2a.cell (p := ⟨b1, off + k * 6 + 2, none⟩) hbw).trans g2, (hb2a.cell (p := ⟨b1, off + k * 6 + 3, none⟩) hbw).trans g3, (hb2a.cell (p := ⟨b1, off + k * 6 + 4, none⟩) hbw).trans g4, (hb2a.cell (p := ⟨b1, off + k * 6 + 5, none⟩) hbw).trans g5⟩ (fun hS2 => ?_)
      clear hK K
      try simp only [Act.put, List.setIfInBounds_toArray, List.set_cons_zero, List.set_cons_succ]
      refine wpAnyH_ready (rs := [14]) (by kernel_rfl) (by simp) ?_
      refine AllReadyH.cons rfl (fun K hK => ?_) AllReadyH.nil
      obtain ⟨v', w3, hr, hown3, hg3, hat3⟩ := run_oneG nodeCells_len nodeCells_one (ty := 50) (c := 1) Try.underlying50 info_node rfl (by decide) (by decide) (⟨op, t'⟩ : Nd) rfl HO2.out.r rfl HLn.out hsz2; refine step_run _ (by rfl) (.tmp 12) (.tmp 25) 50 (by rfl) _ _ (by rfl) (by rfl) hr ?_; have hb3m : Below w.heap.size wr w3 := hb2m.grown hg3 hsz2 (fun k hk => HO2.out.r.lows k hk)
      refine hK.out _ _ ⟨hb3m, (hb3m.cell (p := ⟨b1, off + k * 6, none⟩) hbw).trans g0, (hb3m.cell (p := ⟨b1, off + k * 6 + 1, none⟩) hbw).trans g1, (hb3m.cell (p := ⟨b1, off + k * 6 + 2, none⟩) hbw).trans g2, (hb3m.cell (p := ⟨b1, off + k * 6 + 3, none⟩) hbw).trans g3, (hb3m.cell (p := ⟨b1, off + k * 6 + 4, none⟩) hbw).trans g4, (hb3m.cell (p := ⟨b1, off + k * 6 + 5, none⟩) hbw).trans g5⟩ (fun hS3 => ?_)
      clear hK K
      try simp only [Act.put, List.setIfInBounds_toArray, List.set_cons_zero, List.set_cons_succ]
      refine takeY 3 (i := 15) (v := ?v15a) rfl rfl (by kernel_rfl) (by kernel_rfl) (by kernel_rfl) (fun _ _ _ h => h) (by kernel_rfl) ?y15a hS3 ?_
      case y15a =>
        intro w' hw'; (try dsimp only at hw'); obtain ⟨e0, e1, e2, e3, e4, e5, e6⟩ := hw'; go_simp; try with_reducible rfl
      simp only [Act.put, List.setIfInBounds_toArray, List.set_cons_zero, List.set_cons_succ]
      refine wpAnyH_done (by kernel_rfl) ?_ _
      have HO3 := Lib.hid (HO2.out.snoc hg3 hat3 hown3 HWf.out (HWo.out.low HB.out.size) (fun b h1 h2 => by
        have q1 := (HWo.out.has_in h1).1
        have q2 := (HO.out.has_in h2).2
        omega))
      have HB3 := Lib.hid (HB.out.trans hb3m)
      clear hr hown3 hg3 hat3 hb3m hb2m hb2a hS0 hS1 hS2 hS3 g0 g1 g2 g3 g4 g5
      go_wp2
      go_roundw
      case rel =>
        refine ⟨k + 1, cs ++ [⟨op, t'⟩], _, by omega, by go_num, rfl, HO3.out, ?_, short_app HS.out (fun u hu => by rw [List.mem_singleton.1 hu]; exact HS2.out), HB3.out⟩
        rw [datN_at HT.out, datN_app, HD.out]
        unfold datN Nd.dat
        rw [List.map_singleton, HD2.out]
      case measure => simp [intOf]; omega
    · obtain rfl : k = n := by omega
      have ht : ns.take k = ns := List.take_of_length_le (by rw [HX.out.len]; exact Nat.le_refl _)
      clear hbel
      go_wp2
      go_ret
      exact ⟨_, cs, rfl, by rw [HD.out, ht], HS.out, HO.out, HB.out⟩
set_option maxRecDepth 20000 in
/-- slices.Grow of nil. -/
theorem growN (w : World) (n : Nat) (hn : n ≤ 1048576) :
    Calls Try.prog 116 #[.slice none 0 0, .int .i64 n] w fun e w' => ∃ v, e = .returned v ∧ OwnG 97 nodeCells 6 w' w.heap.size v [] ∧ Below w.heap.size w w' := by
  obtain ⟨i0, hi, hzz⟩ := Option.map_eq_some_iff.1 info_node
  simp only [Prod.mk.injEq] at hzz
  obtain ⟨hz0, hz1, hz2⟩ := hzz
  rcases Nat.eq_zero_or_pos n with e | e
  · subst e
    clear hi hz0 hz1 hz2
    go_enter Try.func116, Try.ntmps116
    go_wp2
    go_ret
    exact ⟨_, rfl, .nil _ _, Below.refl _ _⟩
  · have hr := Go.Lib.run_append_nil_zeros (P := Try.prog) w 50 3 50 97 i0 (.agg #[.int .i64 0, .int .i64 0, .int .i64 0, .int .i64 0, .slice none 0 0, .slice none 0 0]) .i64 .i64 Try.underlying50 Try.underlying3 hi hz0 n e (by rw [hz1]; decide) (by omega) (by rw [hz2]; omega)
    have hcap := grownCap_ge w n 0 97
    have hcapm : grownCap w n 0 97 ≤ maxLen := grownCap_le_maxLen w n 0 97 (by unfold maxLen; omega)
    generalize grownCap w n 0 97 = cap at hr hcap hcapm
    have hpos : (0 : Int) < (n : Int) := by omega
    have hcap' : cap ≤ 9223372036854775807 := by unfold maxLen at hcapm; omega
    have HC := Lib.hid (And.intro hcap hcapm)
    clear hi hz0 hz1 hz2 hcapm
    go_enter Try.func116, Try.ntmps116
    go_wp2_with (at_builtin; refine Go.Lib.wpList_append_run _ (by rfl) (.tmp 20) (.tmp 21) 50 3 (by rfl) _ _ (by rfl) (by rfl) _ _ hr ?_)
    clear hr
    go_wp2
    go_ret
    refine ⟨_, rfl, ?_, (Below.refl _ w).drew.alloc (Nat.le_refl _) _⟩
    refine ⟨rfl, .inr ⟨w.heap.size, cap, _, rfl, Nat.le_refl _, heap_alloc_new w.drew _, Nat.zero_le _, HC.out.2, ?_, ?_⟩⟩
    · have h := HC.out.1
      rw [Array.size_append, size_zeroCells, size_zeroCells]
      show n * 6 + (cap - n) * 6 = cap * 6
      rw [← Nat.add_mul]
      congr 1
      omega
    · simp
set_option maxRecDepth 20000 in
set_option maxHeartbeats 1600000 in
/-- slices.Concat of three slices of nodes. -/
theorem concatN (w : World) (B : Nat) (g c : Nat) (A1 A2 A3 : Option Addr) (n1 n2 n3 c1 c2 c3 : Nat) (l1 l2 l3 : List Nd) (h1 : ReadG nodeCells 6 w B A1 n1 l1) (h2 : ReadG nodeCells 6 w B A2 n2 l2) (h3 : ReadG nodeCells 6 w B A3 n3 l3) (hB : B ≤ w.heap.size) (hg : g < w.heap.size) (hn : n1 + n2 + n3 ≤ 1048576)
    (q0 : w.cell? ⟨g, 0, none⟩ = some (.slice A1 n1 c1)) (q1 : w.cell? ⟨g, 1, none⟩ = some (.slice A2 n2 c2)) (q2 : w.cell? ⟨g, 2, none⟩ = some (.slice A3 n3 c3)) :
    Calls Try.prog 86 #[.slice (some ⟨g, 0, none⟩) 3 c] w fun e w' => ∃ v, e = .returned v ∧ OwnG 97 nodeCells 6 w' w.heap.size v (l1 ++ l2 ++ l3) ∧ Below w.heap.size w w' := by
  have HR1 := Lib.hid h1
  have HR2 := Lib.hid h2
  have HR3 := Lib.hid h3
  have HQ := Lib.hid (And.intro q0 (And.intro q1 q2))
  have HGr := Lib.hid (fun w1 : World => growN w1 (n1 + n2 + n3) hn)
  have HLe : Hid (l1.length = n1 ∧ l2.length = n2 ∧ l3.length = n3) := Lib.hid ⟨h1.len, h2.len, h3.len⟩
  clear h1 h2 h3
  go_enter Try.func86, Try.ntmps86
  go_wp2
  go_loopw [3, 11] (fun s i wr => ∃ k : Nat, k ≤ 3 ∧ i = .int .i64 k ∧ s = .int .i64 ((if k = 0 then 0 else if k = 1 then n1 else if k = 2 then n1 + n2 else n1 + n2 + n3 : Nat) : Int) ∧ w = wr) (fun _ i _ => 3 - (intOf i).toNat)
  case atStart => exact ⟨0, by decide, rfl, rfl, rfl⟩
  case round =>
    obtain ⟨k, hk, rfl, rfl, rfl⟩ := hrel
    have hk' : k = 0 ∨ k = 1 ∨ k = 2 ∨ k = 3 := by omega
    rcases hk' with rfl | rfl | rfl | rfl
    · go_wp2
      go_roundw
      case rel => exact ⟨1, by decide, by go_num, by simp, by first | rfl | trivial⟩
      case measure => simp [intOf]
    · have hd : decide ((n1 : Int) + (n2 : Int) < 0) = false := by simp; omega
      have hw : IntKind.i64.wrap ((n1 : Int) + (n2 : Int)) = (n1 : Int) + (n2 : Int) := IntWalk.i64_in _ ⟨by omega, by omega⟩
      go_wp2
      go_roundw
      case rel => exact ⟨2, by decide, by go_num, by simp, by first | rfl | trivial⟩
      case measure => simp [intOf]
    · have hd : decide ((n1 : Int) + (n2 : Int) + (n3 : Int) < 0) = false := by simp; omega
      have hw : IntKind.i64.wrap ((n1 : Int) + (n2 : Int) + (n3 : Int)) = (n1 : Int) + (n2 : Int) + (n3 : Int) := IntWalk.i64_in _ ⟨by omega, by omega⟩
      go_wp2
      go_roundw
      case rel => exact ⟨3, by decide, by go_num, by simp, by first | rfl | trivial⟩
      case measure => simp [intOf]
    · have hsum : ((if (3 : Nat) = 0 then 0 else if (3 : Nat) = 1 then n1 else if (3 : Nat) = 2 then n1 + n2 else n1 + n2 + n3 : Nat) : Int) = ((n1 + n2 + n3 : Nat) : Int) := by simp
      rw [hsum]
      obtain ⟨m, hm⟩ : ∃ m, n1 + n2 + n3 = m := ⟨_, rfl⟩
      have HM := Lib.hid hm
      rw [hm]
      have HG2 : Hid (∀ w1, Calls Try.prog 116 #[.slice none 0 0, .int .i64 (m : Int)] w1 fun e w' => ∃ v, e = .returned v ∧ OwnG 97 nodeCells 6 w' w1.heap.size v [] ∧ Below w1.heap.size w1 w') := Lib.hid fun w1 => by rw [← hm]; exact HGr.out w1
      clear hm hsum
      go_wp2_with fail
      refine (HG2.out _).mono ?_
      rintro e w1 ⟨v, rfl, ho, hb1⟩
      have HO := Lib.hid ho
      have HB1 := Lib.hid hb1
      clear ho hb1 q0 q1 q2
      go_wp2
      go_loopw [6, 27] (fun x i wr => ∃ (k : Nat) (V : Value) (l : List Nd), k ≤ 3 ∧ i = .int .i64 k ∧ V = x ∧ OwnG 97 nodeCells 6 wr w.heap.size V l ∧ l = (if k = 0 then [] else if k = 1 then l1 else if k = 2 then l1 ++ l2 else l1 ++ l2 ++ l3) ∧ Below w.heap.size w wr) (fun _ i _ => 3 - (intOf i).toNat)
      case atStart => exact ⟨0, v, [], by decide, rfl, rfl, HO.out, rfl, HB1.out⟩
      case round =>
        obtain ⟨k, v, l, hk, rfl, rfl, hown, hl, hbel⟩ := hrel
        have HO1 := Lib.hid hown
        have HBe := Lib.hid hbel
        have hsz : w.heap.size ≤ wr.heap.size := hbel.size
        obtain ⟨q0, q1, q2⟩ := HQ.out
        have q0 := (hbel.cell (p := ⟨g, 0, none⟩) hg).trans q0
        have q1 := (hbel.cell (p := ⟨g, 1, none⟩) hg).trans q1
        have q2 := (hbel.cell (p := ⟨g, 2, none⟩) hg).trans q2
        have HL := Lib.hid hl
        clear hown hbel hl
        have hk' : k = 0 ∨ k = 1 ∨ k = 2 ∨ k = 3 := by omega
        rcases hk' with rfl | rfl | rfl | rfl
        · obtain rfl := HL.out
          obtain ⟨v', w3, hr, ho3, hg3, hat3⟩ := run_spreadG nodeCells_len nodeCells_one (ty := 50) (c := c1) Try.underlying50 info_node rfl (by decide) (by decide) HO1.out (HR1.out.below (HBe.out.mono hB)) (by simp only [if_true, if_neg (show ¬ (1 : Nat) = 0 by decide), if_neg (show ¬ (2 : Nat) = 0 by decide), if_neg (show ¬ (2 : Nat) = 1 by decide), List.length_nil, List.length_append, HLe.out.1, HLe.out.2.1]; omega) hsz
          have HO3 := Lib.hid ho3
          have HB3 := Lib.hid (HBe.out.grown hg3 hsz (fun k hk => HO1.out.lows k hk))
          clear ho3 hg3 hat3
          go_wp2_with (at_builtin; refine Go.Lib.wpList_append_run_sl _ (by rfl) (.tmp 31) (.tmp 32) 50 (by rfl) _ _ (by rfl) (by rfl) hr ?_)
          clear hr q0 q1 q2
          go_wp2
          go_roundw
          case rel => exact ⟨1, v', _, by decide, by go_num, rfl, HO3.out, by simp, HB3.out⟩
          case measure => simp [intOf]
        · obtain rfl := HL.out
          obtain ⟨v', w3, hr, ho3, hg3, hat3⟩ := run_spreadG nodeCells_len nodeCells_one (ty := 50) (c := c2) Try.underlying50 info_node rfl (by decide) (by decide) HO1.out (HR2.out.below (HBe.out.mono hB)) (by simp only [if_true, if_neg (show ¬ (1 : Nat) = 0 by decide), if_neg (show ¬ (2 : Nat) = 0 by decide), if_neg (show ¬ (2 : Nat) = 1 by decide), List.length_nil, List.length_append, HLe.out.1, HLe.out.2.1]; omega) hsz
          have HO3 := Lib.hid ho3
          have HB3 := Lib.hid (HBe.out.grown hg3 hsz (fun k hk => HO1.out.lows k hk))
          clear ho3 hg3 hat3
          go_wp2_with (at_builtin; refine Go.Lib.wpList_append_run_sl _ (by rfl) (.tmp 31) (.tmp 32) 50 (by rfl) _ _ (by rfl) (by rfl) hr ?_)
          clear hr q0 q1 q2
          go_wp2
          go_roundw
          case rel => exact ⟨2, v', _, by decide, by go_num, rfl, HO3.out, by simp, HB3.out⟩
          case measure => simp [intOf]
        · obtain rfl := HL.out
          obtain ⟨v', w3, hr, ho3, hg3, hat3⟩ := run_spreadG nodeCells_len nodeCells_one (ty := 50) (c := c3) Try.underlying50 info_node rfl (by decide) (by decide) HO1.out (HR3.out.below (HBe.out.mono hB)) (by simp only [if_true, if_neg (show ¬ (1 : Nat) = 0 by decide), if_neg (show ¬ (2 : Nat) = 0 by decide), if_neg (show ¬ (2 : Nat) = 1 by decide), List.length_nil, List.length_append, HLe.out.1, HLe.out.2.1]; omega) hsz
          have HO3 := Lib.hid ho3
          have HB3 := Lib.hid (HBe.out.grown hg3 hsz (fun k hk => HO1.out.lows k hk))
          clear ho3 hg3 hat3
          go_wp2_with (at_builtin; refine Go.Lib.wpList_append_run_sl _ (by rfl) (.tmp 31) (.tmp 32) 50 (by rfl) _ _ (by rfl) (by rfl) hr ?_)
          clear hr q0 q1 q2
          go_wp2
          go_roundw
          case rel => exact ⟨3, v', _, by decide, by go_num, rfl, HO3.out, by simp, HB3.out⟩
          case measure => simp [intOf]
        · go_wp2
          go_ret
          refine ⟨_, rfl, ?_, HBe.out⟩
          have := HL.out
          simp at this
          rw [← List.append_assoc] at this
          rw [← this]
          exact HO1.out
end Go.Proofs.Ytmbchpdcgjlggaa.num
namespace Go.Proofs.Ytmbchpdcgjlggaa.num
set_option maxRecDepth 20000
open Go.RowKit
set_option linter.unusedVariables false
set_option linter.unusedSimpArgs false

theorem IsE.len9 {ns : List Nd} (h : IsE (datN ns)) : ns.length ≤ 9 := by have := h.1; unfold datN at this; rwa [List.length_map] at this
theorem ownN_empty (w w0 : World) (hle : w0.heap.size ≤ w.heap.size) : OwnN (w.alloc (.cells #[] 97)) w0.heap.size (.slice (some ⟨w.heap.size, 0, none⟩) 0 0) [] := ⟨OwnG.empty w _ hle, by simp, by simp, by simp⟩
/-- Three worlds: two slices of nodes copied, then both in one row, then an operator behind them. -/
theorem joinN_own {w2 w3 w4 w5 w6 : World} {lo : Nat} {v1 v2 v3 v4 : Value} {k1 k2 : List Nd} {op : Int} (hop : (Lit.int .i64 op).wf = true) (h1 : OwnN w3 lo v1 k1) (hb : Below w3.heap.size w3 w4) (h2 : OwnN w4 w3.heap.size v2 k2) (hlo : lo ≤ w3.heap.size)
    (hg5 : w4.grownBy w5 v1.ownBlock) (ha5 : v3.ownBlock = v1.ownBlock ∨ v3.ownBlock = some w4.heap.size) (hg6 : w5.grownBy w6 v3.ownBlock) (ha6 : v4.ownBlock = v3.ownBlock ∨ v4.ownBlock = some (w5.heap.size + 1)) (hr : OwnG 97 nodeCells 6 w6 lo v4 (k1 ++ k2 ++ [bareN op])) : OwnN w6 lo v4 (k1 ++ k2 ++ [bareN op]) := by
  have n1 : NodesO w4 lo k1 := (h1.below hb).no
  have n2 : NodesO w4 w3.heap.size k2 := h2.no
  have t1 : ∀ x ∈ k1, ∀ b, x.t.has b → b < w3.heap.size := fun x hx b h => (h1.no.has_in hx h).2
  have n12 := n1.cat n2 hlo t1
  have ne1 : ∀ x ∈ k1 ++ k2, ∀ b, x.t.has b → some b ≠ v1.ownBlock := fun x hx b h e => by
    rcases List.mem_append.1 hx with hx | hx
    · obtain ⟨i, hi, rfl⟩ := List.getElem_of_mem hx
      exact h1.a i _ b (List.getElem?_eq_getElem hi) h e.symm
    · have q1 := (n2.has_in hx h).1
      have q2 := h1.r.tops b e.symm
      omega
  have lt1 : ∀ x ∈ k1 ++ k2, ∀ b, x.t.has b → b < w4.heap.size := fun x hx b h => (n12.has_in hx h).2
  have ne3 : ∀ x ∈ k1 ++ k2, ∀ b, x.t.has b → some b ≠ v3.ownBlock := fun x hx b h e => by
    rcases ha5 with q | q
    · exact ne1 x hx b h (e.trans q)
    · rw [q] at e
      have := Option.some.inj e
      have := lt1 x hx b h
      omega
  have n5 : NodesO w5 lo (k1 ++ k2) := n12.blocks fun x hx b h => hg5.block b (lt1 x hx b h) (ne1 x hx b h)
  have lt5 : ∀ x ∈ k1 ++ k2, ∀ b, x.t.has b → b < w5.heap.size := fun x hx b h => (n5.has_in hx h).2
  have n6 : NodesO w6 lo (k1 ++ k2) := n5.blocks fun x hx b h => hg6.block b (lt5 x hx b h) (ne3 x hx b h)
  have n7 : NodesO w6 lo (k1 ++ k2 ++ [bareN op]) := n6.cat (NodesO.bare w6 (max lo w6.heap.size) hop) (Nat.le_max_left _ _) fun x hx b h => Nat.lt_of_lt_of_le (n6.has_in hx h).2 (Nat.le_max_right _ _)
  refine OwnN.of hr n7 fun x hx b h e => ?_
  rcases List.mem_append.1 hx with hx | hx
  · rcases ha6 with q | q
    · exact ne3 x hx b h (by rw [← q, e])
    · rw [q] at e
      have h9 := Option.some.inj e
      have := lt5 x hx b h
      omega
  · rw [List.mem_singleton.1 hx] at h
    exact bare_has op b h

set_option maxRecDepth 20000 in
set_option maxHeartbeats 3200000 in
theorem sJoin (w : World) (B : Nat) (A1 A2 : Option Addr) (n1 n2 c1 c2 : Nat) (ns1 ns2 : List Nd) (op : Int) (hi1 : Nodes w B A1 n1 ns1) (hi2 : Nodes w B A2 n2 ns2) (hB : B ≤ w.heap.size) (hN1 : ShortN ns1) (hN2 : ShortN ns2) (hop : (Lit.int .i64 op).wf = true) (hn1 : n1 ≤ 1048576) (hn2 : n2 ≤ 1048576) (r : Bool) (hr : r = true ↔ IsE (datN ns1) ∧ IsE (datN ns2) ∧ Bin op ∧ n1 + n2 < 9) :
    Calls Try.prog 42 #[.slice A1 n1 c1, .slice A2 n2 c2, .int .i64 op] w fun e w' => ∃ v ns', e = .returned (.tuple #[v, .bool r]) ∧ datN ns' = joinD r (datN ns1) (datN ns2) op ∧ ShortN ns' ∧ OwnN w' w.heap.size v ns' ∧ Below w.heap.size w w' := by
  obtain ⟨qa, hqa⟩ := bool_of (IsE (datN ns1))
  obtain ⟨qb, hqb⟩ := bool_of (IsE (datN ns2))
  have HQa := Lib.hid hqa
  have HQb := Lib.hid hqb
  have HR := Lib.hid hr
  have HNo : Hid (¬ (IsE (datN ns1) ∧ IsE (datN ns2) ∧ Bin op ∧ n1 + n2 < 9) → r = false) := Lib.hid fun h => by
    cases r
    · rfl
    · exact absurd (hr.1 rfl) h
  have HI1 : Hid (∀ w1, Below w.heap.size w w1 → Calls Try.prog 30 #[.slice A1 n1 c1] w1 fun e w' => e = .returned (.bool qa) ∧ Below w1.heap.size w1 w') := Lib.hid fun w1 h => sIsE w1 B A1 n1 c1 ns1 (hi1.below (h.mono hB)) (Nat.le_trans hB h.size) hn1 hN1 qa hqa
  have HC1 : Hid (∀ w1, Below w.heap.size w w1 → Calls Try.prog 85 #[.slice A1 n1 c1] w1 fun e w' => ∃ v ns', e = .returned v ∧ datN ns' = datN ns1 ∧ ShortN ns' ∧ OwnN w' w1.heap.size v ns' ∧ Below w1.heap.size w1 w') := Lib.hid fun w1 h => sCopyN_c w1 B A1 n1 c1 ns1 (hi1.below (h.mono hB)) (Nat.le_trans hB h.size) hn1 hN1
  have HI2 : Hid (∀ w1, Below w.heap.size w w1 → Calls Try.prog 30 #[.slice A2 n2 c2] w1 fun e w' => e = .returned (.bool qb) ∧ Below w1.heap.size w1 w') := Lib.hid fun w1 h => sIsE w1 B A2 n2 c2 ns2 (hi2.below (h.mono hB)) (Nat.le_trans hB h.size) hn2 hN2 qb hqb
  have HC2 : Hid (∀ w1, Below w.heap.size w w1 → Calls Try.prog 85 #[.slice A2 n2 c2] w1 fun e w' => ∃ v ns', e = .returned v ∧ datN ns' = datN ns2 ∧ ShortN ns' ∧ OwnN w' w1.heap.size v ns' ∧ Below w1.heap.size w1 w') := Lib.hid fun w1 h => sCopyN_c w1 B A2 n2 c2 ns2 (hi2.below (h.mono hB)) (Nat.le_trans hB h.size) hn2 hN2
  have HLn : Hid (ns1.length = n1 ∧ ns2.length = n2) := Lib.hid ⟨hi1.len, hi2.len⟩
  have HOp := Lib.hid hop
  clear hi1 hi2 hN1 hN2 hr hqa hqb hop
  go_enter Try.func42, Try.ntmps42
  go_wp2_with fail
  refine (HI1.out _ (Below.refl _ _)).mono ?_
  rintro e w1 ⟨rfl, hb1⟩
  have HB1 := Lib.hid hb1
  clear hb1
  cases qa
  · obtain rfl := HNo.out fun h => by have := HQa.out.2 h.1; cases this
    have HE := Lib.hid (ownN_empty w1 w HB1.out.size)
    have HBe := Lib.hid (HB1.out.alloc HB1.out.size (.cells #[] 97))
    go_wp2
    go_ret2
    exact ⟨_, [], rfl, rfl, by simp [ShortN], HE.out, HBe.out⟩
  go_wp2_with fail
  refine (HI2.out _ HB1.out).mono ?_
  rintro e w2 ⟨rfl, hb2⟩
  have HB2 := Lib.hid (below_on HB1.out hb2)
  clear hb2
  have HE := Lib.hid (ownN_empty w2 w HB2.out.size)
  have HBe := Lib.hid (HB2.out.alloc HB2.out.size (.cells #[] 97))
  cases qb
  · obtain rfl := HNo.out fun h => by have := HQb.out.2 h.2.1; cases this
    go_wp2
    go_ret2
    exact ⟨_, [], rfl, rfl, by simp [ShortN], HE.out, HBe.out⟩
  by_cases hbin : op = 1 ∨ op = 2 ∨ op = 4
  · have HBin : Hid (Bin op) := Lib.hid hbin
    by_cases h9 : n1 + n2 < 9
    · have hd : decide ((9 : Int) ≤ (n1 : Int) + (n2 : Int)) = false := by simp; omega
      have hd' : ¬ ((9 : Int) ≤ (n1 : Int) + (n2 : Int)) := by omega
      have hw : IntKind.i64.wrap ((n1 : Int) + (n2 : Int)) = (n1 : Int) + (n2 : Int) := IntWalk.i64_in _ ⟨by omega, by omega⟩
      obtain rfl : r = true := HR.out.2 ⟨HQa.out.1 (by first | rfl | trivial), HQb.out.1 (by first | rfl | trivial), hbin, h9⟩
      have H9 := Lib.hid h9
      clear h9
      rcases hbin with rfl | rfl | rfl
      · go_wp2_with fail
        refine (HC1.out _ HB2.out).mono ?_
        rintro e w3 ⟨v1, k1, rfl, hd1, hs1, ho1, hb3⟩
        have HO1 := Lib.hid ho1
        have HD1 := Lib.hid hd1
        have HS1 := Lib.hid hs1
        have HB3 := Lib.hid (below_on HB2.out hb3)
        clear hd1 hs1 ho1 hb3
        go_wp2_with fail
        refine (HC2.out _ HB3.out).mono ?_
        rintro e w4 ⟨v2, k2, rfl, hd2, hs2, ho2, hb4⟩
        obtain ⟨A2', c2', rfl, -, -⟩ := ho2.r.shape
        have HO2 := Lib.hid ho2
        have HD2 := Lib.hid hd2
        have HS2 := Lib.hid hs2
        have HB34 := Lib.hid hb4
        have HB4 := Lib.hid (below_on HB3.out hb4)
        have HO1' := Lib.hid ((HO1.out.below hb4).low HB2.out.size)
        have HK : Hid (k1.length = n1 ∧ k2.length = n2) := Lib.hid ⟨(datN_len HD1.out).trans HLn.out.1, (datN_len HD2.out).trans HLn.out.2⟩
        clear hd2 hs2 ho2 hb4
        obtain ⟨v3, w5, hr5, ho5, hg5, hat5⟩ := run_spreadG nodeCells_len nodeCells_one (ty := 50) (c := c2') Try.underlying50 info_node rfl (by decide) (by decide) HO1'.out.r HO2.out.nodes.r (by have h1 := HK.out.1; have h2 := HK.out.2; have h3 := H9.out; omega) HB4.out.size
        have HO5 := Lib.hid ho5
        have HG5 := Lib.hid hg5
        have HA5 := Lib.hid hat5
        have HB5 := Lib.hid (HB4.out.grown hg5 HB4.out.size (fun k hk => HO1'.out.r.lows k hk))
        clear ho5 hg5 hat5
        obtain ⟨v4, w6, hr6, ho6, hg6, hat6⟩ := run_oneG nodeCells_len nodeCells_one (ty := 50) (c := 1) Try.underlying50 info_node rfl (by decide) (by decide) (bareN 1) (cs := #[.int .i64 1, .int .i64 0, .int .i64 0, .int .i64 0, .slice none 0 0, .slice none 0 0]) rfl HO5.out rfl (by have h1 := HK.out.1; have h2 := HK.out.2; have h3 := H9.out; rw [List.length_append]; omega) HB5.out.size
        have HO6 := Lib.hid ho6
        have HG6 := Lib.hid hg6
        have HA6 := Lib.hid hat6
        have HB6 := Lib.hid (HB5.out.grown hg6 HB5.out.size (fun k hk => HO5.out.lows k hk))
        clear ho6 hg6 hat6
        go_wp2_with (at_builtin; first | (refine Go.Lib.wpList_append_run_sl _ (by rfl) (.tmp 39) (.tmp 41) 50 (by rfl) _ _ (by rfl) (by rfl) hr5 ?_) | (refine Go.Lib.wpList_append_run_sl _ (by rfl) (.tmp 43) (.tmp 46) 50 (by rfl) _ _ (by rfl) (by rfl) hr6 ?_))
        clear hr5 hr6
        go_wp2
        go_ret2
        refine ⟨_, _, rfl, ?_, short_app (short_app HS1.out HS2.out) (short_bare _), joinN_own (w2 := w2) HOp.out (HO1.out.low HB2.out.size) HB34.out HO2.out HB3.out.size HG5.out HA5.out HG6.out HA6.out HO6.out, HB6.out⟩
        rw [datN_app, datN_app, HD1.out, HD2.out]
        rfl
      · go_wp2_with fail
        refine (HC1.out _ HB2.out).mono ?_
        rintro e w3 ⟨v1, k1, rfl, hd1, hs1, ho1, hb3⟩
        have HO1 := Lib.hid ho1
        have HD1 := Lib.hid hd1
        have HS1 := Lib.hid hs1
        have HB3 := Lib.hid (below_on HB2.out hb3)
        clear hd1 hs1 ho1 hb3
        go_wp2_with fail
        refine (HC2.out _ HB3.out).mono ?_
        rintro e w4 ⟨v2, k2, rfl, hd2, hs2, ho2, hb4⟩
        obtain ⟨A2', c2', rfl, -, -⟩ := ho2.r.shape
        have HO2 := Lib.hid ho2
        have HD2 := Lib.hid hd2
        have HS2 := Lib.hid hs2
        have HB34 := Lib.hid hb4
        have HB4 := Lib.hid (below_on HB3.out hb4)
        have HO1' := Lib.hid ((HO1.out.below hb4).low HB2.out.size)
        have HK : Hid (k1.length = n1 ∧ k2.length = n2) := Lib.hid ⟨(datN_len HD1.out).trans HLn.out.1, (datN_len HD2.out).trans HLn.out.2⟩
        clear hd2 hs2 ho2 hb4
        obtain ⟨v3, w5, hr5, ho5, hg5, hat5⟩ := run_spreadG nodeCells_len nodeCells_one (ty := 50) (c := c2') Try.underlying50 info_node rfl (by decide) (by decide) HO1'.out.r HO2.out.nodes.r (by have h1 := HK.out.1; have h2 := HK.out.2; have h3 := H9.out; omega) HB4.out.size
        have HO5 := Lib.hid ho5
        have HG5 := Lib.hid hg5
        have HA5 := Lib.hid hat5
        have HB5 := Lib.hid (HB4.out.grown hg5 HB4.out.size (fun k hk => HO1'.out.r.lows k hk))
        clear ho5 hg5 hat5
        obtain ⟨v4, w6, hr6, ho6, hg6, hat6⟩ := run_oneG nodeCells_len nodeCells_one (ty := 50) (c := 1) Try.underlying50 info_node rfl (by decide) (by decide) (bareN 2) (cs := #[.int .i64 2, .int .i64 0, .int .i64 0, .int .i64 0, .slice none 0 0, .slice none 0 0]) rfl HO5.out rfl (by have h1 := HK.out.1; have h2 := HK.out.2; have h3 := H9.out; rw [List.length_append]; omega) HB5.out.size
        have HO6 := Lib.hid ho6
        have HG6 := Lib.hid hg6
        have HA6 := Lib.hid hat6
        have HB6 := Lib.hid (HB5.out.grown hg6 HB5.out.size (fun k hk => HO5.out.lows k hk))
        clear ho6 hg6 hat6
        go_wp2_with (at_builtin; first | (refine Go.Lib.wpList_append_run_sl _ (by rfl) (.tmp 39) (.tmp 41) 50 (by rfl) _ _ (by rfl) (by rfl) hr5 ?_) | (refine Go.Lib.wpList_append_run_sl _ (by rfl) (.tmp 43) (.tmp 46) 50 (by rfl) _ _ (by rfl) (by rfl) hr6 ?_))
        clear hr5 hr6
        go_wp2
        go_ret2
        refine ⟨_, _, rfl, ?_, short_app (short_app HS1.out HS2.out) (short_bare _), joinN_own (w2 := w2) HOp.out (HO1.out.low HB2.out.size) HB34.out HO2.out HB3.out.size HG5.out HA5.out HG6.out HA6.out HO6.out, HB6.out⟩
        rw [datN_app, datN_app, HD1.out, HD2.out]
        rfl
      · go_wp2_with fail
        refine (HC1.out _ HB2.out).mono ?_
        rintro e w3 ⟨v1, k1, rfl, hd1, hs1, ho1, hb3⟩
        have HO1 := Lib.hid ho1
        have HD1 := Lib.hid hd1
        have HS1 := Lib.hid hs1
        have HB3 := Lib.hid (below_on HB2.out hb3)
        clear hd1 hs1 ho1 hb3
        go_wp2_with fail
        refine (HC2.out _ HB3.out).mono ?_
        rintro e w4 ⟨v2, k2, rfl, hd2, hs2, ho2, hb4⟩
        obtain ⟨A2', c2', rfl, -, -⟩ := ho2.r.shape
        have HO2 := Lib.hid ho2
        have HD2 := Lib.hid hd2
        have HS2 := Lib.hid hs2
        have HB34 := Lib.hid hb4
        have HB4 := Lib.hid (below_on HB3.out hb4)
        have HO1' := Lib.hid ((HO1.out.below hb4).low HB2.out.size)
        have HK : Hid (k1.length = n1 ∧ k2.length = n2) := Lib.hid ⟨(datN_len HD1.out).trans HLn.out.1, (datN_len HD2.out).trans HLn.out.2⟩
        clear hd2 hs2 ho2 hb4
        obtain ⟨v3, w5, hr5, ho5, hg5, hat5⟩ := run_spreadG nodeCells_len nodeCells_one (ty := 50) (c := c2') Try.underlying50 info_node rfl (by decide) (by decide) HO1'.out.r HO2.out.nodes.r (by have h1 := HK.out.1; have h2 := HK.out.2; have h3 := H9.out; omega) HB4.out.size
        have HO5 := Lib.hid ho5
        have HG5 := Lib.hid hg5
        have HA5 := Lib.hid hat5
        have HB5 := Lib.hid (HB4.out.grown hg5 HB4.out.size (fun k hk => HO1'.out.r.lows k hk))
        clear ho5 hg5 hat5
        obtain ⟨v4, w6, hr6, ho6, hg6, hat6⟩ := run_oneG nodeCells_len nodeCells_one (ty := 50) (c := 1) Try.underlying50 info_node rfl (by decide) (by decide) (bareN 4) (cs := #[.int .i64 4, .int .i64 0, .int .i64 0, .int .i64 0, .slice none 0 0, .slice none 0 0]) rfl HO5.out rfl (by have h1 := HK.out.1; have h2 := HK.out.2; have h3 := H9.out; rw [List.length_append]; omega) HB5.out.size
        have HO6 := Lib.hid ho6
        have HG6 := Lib.hid hg6
        have HA6 := Lib.hid hat6
        have HB6 := Lib.hid (HB5.out.grown hg6 HB5.out.size (fun k hk => HO5.out.lows k hk))
        clear ho6 hg6 hat6
        go_wp2_with (at_builtin; first | (refine Go.Lib.wpList_append_run_sl _ (by rfl) (.tmp 39) (.tmp 41) 50 (by rfl) _ _ (by rfl) (by rfl) hr5 ?_) | (refine Go.Lib.wpList_append_run_sl _ (by rfl) (.tmp 43) (.tmp 46) 50 (by rfl) _ _ (by rfl) (by rfl) hr6 ?_))
        clear hr5 hr6
        go_wp2
        go_ret2
        refine ⟨_, _, rfl, ?_, short_app (short_app HS1.out HS2.out) (short_bare _), joinN_own (w2 := w2) HOp.out (HO1.out.low HB2.out.size) HB34.out HO2.out HB3.out.size HG5.out HA5.out HG6.out HA6.out HO6.out, HB6.out⟩
        rw [datN_app, datN_app, HD1.out, HD2.out]
        rfl
    · obtain rfl := HNo.out fun h => h9 h.2.2.2
      have hd : decide ((9 : Int) ≤ (n1 : Int) + (n2 : Int)) = true := by simp; omega
      have hd' : (9 : Int) ≤ (n1 : Int) + (n2 : Int) := by omega
      have hw : IntKind.i64.wrap ((n1 : Int) + (n2 : Int)) = (n1 : Int) + (n2 : Int) := IntWalk.i64_in _ ⟨by omega, by omega⟩
      clear h9
      rcases hbin with rfl | rfl | rfl
      · go_wp2
        go_ret2
        exact ⟨_, [], rfl, rfl, by simp [ShortN], HE.out, HBe.out⟩
      · go_wp2
        go_ret2
        exact ⟨_, [], rfl, rfl, by simp [ShortN], HE.out, HBe.out⟩
      · go_wp2
        go_ret2
        exact ⟨_, [], rfl, rfl, by simp [ShortN], HE.out, HBe.out⟩
  · obtain rfl := HNo.out fun h => hbin h.2.2.1
    have f1 : (op != 1) = true := by simp; omega
    have f2 : (op != 2) = true := by simp; omega
    have f4 : (op != 4) = true := by simp; omega
    clear hbin
    go_wp2
    go_ret2
    exact ⟨_, [], rfl, rfl, by simp [ShortN], HE.out, HBe.out⟩

set_option maxRecDepth 20000 in
set_option maxHeartbeats 3200000 in
theorem iJoin2W (w : World) (B : Nat) (A1 A2 : Option Addr) (n1 n2 c1 c2 : Nat) (ns1 ns2 : List Nd) (op : Int) (hi1 : Nodes w B A1 n1 ns1) (hi2 : Nodes w B A2 n2 ns2) (hB : B ≤ w.heap.size) (hN1 : ShortN ns1) (hN2 : ShortN ns2) (hop : (Lit.int .i64 op).wf = true) (hnc1 : n1 ≤ c1) (hnc2 : n2 ≤ c2) (hc1 : c1 ≤ 9223372036854775807) (hc2 : c2 ≤ 9223372036854775807) (hn1 : n1 ≤ 1048576) (hn2 : n2 ≤ 1048576) (r : Bool) (hr : r = true ↔ IsE (datN ns1) ∧ IsE (datN ns2) ∧ Bin op ∧ n1 + n2 < 9) :
    Calls Try.prog 43 #[.slice A1 n1 c1, .slice A2 n2 c2, .int .i64 op] w fun e w' => ∃ v ns', e = .returned (.tuple #[v, .bool r]) ∧ datN ns' = joinD r (datN ns1) (datN ns2) op ∧ ShortN ns' ∧ OwnN w' w.heap.size v ns' ∧ Below w.heap.size w w' := by
  obtain ⟨qa, hqa⟩ := bool_of (IsE (datN ns1))
  obtain ⟨qb, hqb⟩ := bool_of (IsE (datN ns2))
  have HQa := Lib.hid hqa
  have HQb := Lib.hid hqb
  have HR := Lib.hid hr
  have HNo : Hid (¬ (IsE (datN ns1) ∧ IsE (datN ns2) ∧ Bin op ∧ n1 + n2 < 9) → r = false) := Lib.hid fun h => by
    cases r
    · rfl
    · exact absurd (hr.1 rfl) h
  have HI1 : Hid (∀ w1, Below w.heap.size w w1 → Calls Try.prog 32 #[.slice A1 n1 c1] w1 fun e w' => e = .returned (.bool qa) ∧ Below w1.heap.size w1 w') := Lib.hid fun w1 h => iIsEW w1 B A1 n1 c1 ns1 (hi1.below (h.mono hB)) (Nat.le_trans hB h.size) hnc1 hc1 hN1 qa hqa
  have HC1 : Hid (∀ w1, Below w.heap.size w w1 → Calls Try.prog 82 #[.slice A1 n1 c1] w1 fun e w' => ∃ v ns', e = .returned v ∧ datN ns' = datN ns1 ∧ ShortN ns' ∧ OwnN w' w1.heap.size v ns' ∧ Below w1.heap.size w1 w') := Lib.hid fun w1 h => copyNodes_c w1 B A1 n1 c1 ns1 (hi1.below (h.mono hB)) (Nat.le_trans hB h.size) hn1 hN1
  have HI2 : Hid (∀ w1, Below w.heap.size w w1 → Calls Try.prog 32 #[.slice A2 n2 c2] w1 fun e w' => e = .returned (.bool qb) ∧ Below w1.heap.size w1 w') := Lib.hid fun w1 h => iIsEW w1 B A2 n2 c2 ns2 (hi2.below (h.mono hB)) (Nat.le_trans hB h.size) hnc2 hc2 hN2 qb hqb
  have HC2 : Hid (∀ w1, Below w.heap.size w w1 → Calls Try.prog 82 #[.slice A2 n2 c2] w1 fun e w' => ∃ v ns', e = .returned v ∧ datN ns' = datN ns2 ∧ ShortN ns' ∧ OwnN w' w1.heap.size v ns' ∧ Below w1.heap.size w1 w') := Lib.hid fun w1 h => copyNodes_c w1 B A2 n2 c2 ns2 (hi2.below (h.mono hB)) (Nat.le_trans hB h.size) hn2 hN2
  have HLn : Hid (ns1.length = n1 ∧ ns2.length = n2) := Lib.hid ⟨hi1.len, hi2.len⟩
  have HOp := Lib.hid hop
  clear hi1 hi2 hN1 hN2 hr hqa hqb hop
  go_enter Try.func43, Try.ntmps43
  go_wp2_with fail
  refine (HI1.out _ (Below.refl _ _)).mono ?_
  rintro e w1 ⟨rfl, hb1⟩
  have HB1 := Lib.hid hb1
  clear hb1
  cases qa
  · obtain rfl := HNo.out fun h => by have := HQa.out.2 h.1; cases this
    go_wp2
    go_ret2
    exact ⟨_, [], rfl, rfl, by simp [ShortN], .nil _ _, HB1.out⟩
  go_wp2_with fail
  refine (HI2.out _ HB1.out).mono ?_
  rintro e w2 ⟨rfl, hb2⟩
  have HB2 := Lib.hid (below_on HB1.out hb2)
  clear hb2
  cases qb
  · obtain rfl := HNo.out fun h => by have := HQb.out.2 h.2.1; cases this
    go_wp2
    go_ret2
    exact ⟨_, [], rfl, rfl, by simp [ShortN], .nil _ _, HB2.out⟩
  have HE1 : Hid (IsE (datN ns1)) := Lib.hid (HQa.out.1 (by first | rfl | trivial))
  have HE2 : Hid (IsE (datN ns2)) := Lib.hid (HQb.out.1 (by first | rfl | trivial))
  go_wp2_with fail
  refine (HC1.out _ HB2.out).mono ?_
  rintro e w3 ⟨v1, k1, rfl, hd1, hs1, ho1, hb3⟩
  obtain ⟨A1', c1', rfl, -, -⟩ := ho1.r.shape
  have HO1 := Lib.hid ho1
  have HD1 := Lib.hid hd1
  have HS1 := Lib.hid hs1
  have HB3 := Lib.hid (below_on HB2.out hb3)
  clear hd1 hs1 ho1 hb3
  go_wp2_with fail
  refine (HC2.out _ HB3.out).mono ?_
  rintro e w4 ⟨v2, k2, rfl, hd2, hs2, ho2, hb4⟩
  obtain ⟨A2', c2', rfl, -, -⟩ := ho2.r.shape
  have HO2 := Lib.hid ho2
  have HD2 := Lib.hid hd2
  have HS2 := Lib.hid hs2
  have HB34 := Lib.hid hb4
  have HB4 := Lib.hid (below_on HB3.out hb4)
  have HO1' := Lib.hid ((HO1.out.below hb4).low HB2.out.size)
  have HK : Hid (k1.length = n1 ∧ k2.length = n2 ∧ n1 ≤ 9 ∧ n2 ≤ 9) := Lib.hid ⟨(datN_len HD1.out).trans HLn.out.1, (datN_len HD2.out).trans HLn.out.2, by have := HE1.out.len9; rw [HLn.out.1] at this; exact this, by have := HE2.out.len9; rw [HLn.out.2] at this; exact this⟩
  clear hd2 hs2 ho2 hb4
  have hb5 : Below w4.heap.size w4 (w4.alloc (.cells #[.int .i64 op, .int .i64 0, .int .i64 0, .int .i64 0, .slice none 0 0, .slice none 0 0] 97)) := (Below.refl _ _).alloc (Nat.le_refl _) _
  have hb6 : Below w4.heap.size w4 ((w4.alloc (.cells #[.int .i64 op, .int .i64 0, .int .i64 0, .int .i64 0, .slice none 0 0, .slice none 0 0] 97)).alloc (.cells #[.slice A1' k1.length c1', .slice A2' k2.length c2', .slice (some ⟨w4.heap.size, 0, none⟩) 1 1] 50)) := hb5.alloc (by simp) _
  have r1 : ReadG nodeCells 6 ((w4.alloc (.cells #[.int .i64 op, .int .i64 0, .int .i64 0, .int .i64 0, .slice none 0 0, .slice none 0 0] 97)).alloc (.cells #[.slice A1' k1.length c1', .slice A2' k2.length c2', .slice (some ⟨w4.heap.size, 0, none⟩) 1 1] 50)) (w4.heap.size + 1) A1' k1.length k1 := ((HO1'.out.nodes.r).below hb6).more (by omega)
  have r2 : ReadG nodeCells 6 ((w4.alloc (.cells #[.int .i64 op, .int .i64 0, .int .i64 0, .int .i64 0, .slice none 0 0, .slice none 0 0] 97)).alloc (.cells #[.slice A1' k1.length c1', .slice A2' k2.length c2', .slice (some ⟨w4.heap.size, 0, none⟩) 1 1] 50)) (w4.heap.size + 1) A2' k2.length k2 := ((HO2.out.nodes.r).below hb6).more (by omega)
  have r3 : ReadG nodeCells 6 ((w4.alloc (.cells #[.int .i64 op, .int .i64 0, .int .i64 0, .int .i64 0, .slice none 0 0, .slice none 0 0] 97)).alloc (.cells #[.slice A1' k1.length c1', .slice A2' k2.length c2', .slice (some ⟨w4.heap.size, 0, none⟩) 1 1] 50)) (w4.heap.size + 1) (some ⟨w4.heap.size, 0, none⟩) 1 [bareN op] := by
    refine ⟨rfl, fun k x hk => ?_⟩
    rcases k with _ | k
    · simp at hk
      subst hk
      refine ⟨w4.heap.size, 0, rfl, by omega, fun j v hv => ?_⟩
      rw [World.cell?_of_block (a := ⟨w4.heap.size, 0 + 0 * 6 + j, none⟩) (Below.heap_alloc _ _ _ (by simp)), World.cell?_alloc_at _ _ _ _ rfl]
      simp only [Nat.zero_mul, Nat.zero_add]
      simpa [nodeCells, bareN] using hv
    · simp at hk
  have HCt := Lib.hid (concatN _ _ (w4.heap.size + 1) 3 A1' A2' (some ⟨w4.heap.size, 0, none⟩) k1.length k2.length 1 c1' c2' 1 k1 k2 [bareN op] r1 r2 r3 (by simp) (by simp) (by have h := HK.out; omega)
    (by rw [show w4.heap.size + 1 = (w4.alloc (.cells #[.int .i64 op, .int .i64 0, .int .i64 0, .int .i64 0, .slice none 0 0, .slice none 0 0] 97)).heap.size by simp]; exact World.cell?_alloc_at _ _ _ _ rfl)
    (by rw [show w4.heap.size + 1 = (w4.alloc (.cells #[.int .i64 op, .int .i64 0, .int .i64 0, .int .i64 0, .slice none 0 0, .slice none 0 0] 97)).heap.size by simp]; exact World.cell?_alloc_at _ _ _ _ rfl)
    (by rw [show w4.heap.size + 1 = (w4.alloc (.cells #[.int .i64 op, .int .i64 0, .int .i64 0, .int .i64 0, .slice none 0 0, .slice none 0 0] 97)).heap.size by simp]; exact World.cell?_alloc_at _ _ _ _ rfl))
  have HB6 := Lib.hid hb6
  clear hb5 hb6 r1 r2 r3
  go_wp2_with fail
  refine HCt.out.mono ?_
  rintro e w7 ⟨v, rfl, ho7, hb7⟩
  obtain ⟨A', c', rfl, hlc, hcm⟩ := ho7.shape
  have HB47 := Lib.hid (below_on HB6.out hb7)
  have HB7 := Lib.hid (below_on HB4.out HB47.out)
  have HN7 : Hid (OwnN w7 w.heap.size (.slice A' (k1 ++ k2 ++ [bareN op]).length c') (k1 ++ k2 ++ [bareN op])) := Lib.hid (by
    have n1 : NodesO w4 w.heap.size k1 := HO1'.out.no
    have n2 : NodesO w4 w3.heap.size k2 := HO2.out.no
    have n12 := n1.cat n2 HB3.out.size (fun x hx b h => (HO1.out.no.has_in hx h).2)
    have n7 : NodesO w7 w.heap.size (k1 ++ k2) := n12.blocks fun x hx b h => HB47.out.block b (n12.has_in hx h).2
    have n8 := n7.cat (NodesO.bare w7 (max w.heap.size w7.heap.size) HOp.out) (Nat.le_max_left _ _) fun x hx b h => Nat.lt_of_lt_of_le (n7.has_in hx h).2 (Nat.le_max_right _ _)
    refine OwnN.of (ho7.low (Nat.le_trans HB4.out.size HB6.out.size)) n8 fun x hx b h e => ?_
    rcases List.mem_append.1 hx with hx | hx
    · have q1 := (n12.has_in hx h).2
      have q2 := ho7.lows b e
      have q3 := HB6.out.size
      omega
    · rw [List.mem_singleton.1 hx] at h
      exact bare_has op b h)
  have HDt : Hid (datN (k1 ++ k2 ++ [bareN op]) = datN ns1 ++ datN ns2 ++ [⟨op, zeroWD⟩]) := Lib.hid (by rw [datN_app, datN_app, HD1.out, HD2.out]; rfl)
  have HSh : Hid (ShortN (k1 ++ k2 ++ [bareN op])) := Lib.hid (short_app (short_app HS1.out HS2.out) (short_bare _))
  have hq : r = true ↔ IsE (datN (k1 ++ k2 ++ [bareN op])) := by
    rw [HDt.out, joinE HE1.out HE2.out noW_zero, HR.out]
    have l1 : (datN ns1).length = n1 := by unfold datN; rw [List.length_map, HLn.out.1]
    have l2 : (datN ns2).length = n2 := by unfold datN; rw [List.length_map, HLn.out.2]
    rw [l1, l2]
    exact ⟨fun h => h.2.2, fun h => ⟨HE1.out, HE2.out, h⟩⟩
  have HFin := Lib.hid (iIsEW w7 w7.heap.size A' _ c' _ HN7.out.nodes (Nat.le_refl _) hlc (by unfold maxLen at hcm; omega) HSh.out r hq)
  have hln : (k1 ++ k2 ++ [bareN op]).length ≤ 1048576 := by rw [List.length_append, List.length_append]; have h := HK.out; simp; omega
  have HJD : Hid (r = true → joinD r (datN ns1) (datN ns2) op = datN (k1 ++ k2 ++ [bareN op])) := Lib.hid fun h => by rw [h, HDt.out]; rfl
  generalize k1 ++ k2 ++ [bareN op] = K at *
  obtain ⟨m, hm⟩ : ∃ m, K.length = m := ⟨_, rfl⟩
  rw [hm] at hlc hln HN7 HFin ⊢
  clear ho7 hb7 hq HCt hm
  go_wp2_with fail
  refine HFin.out.mono ?_
  rintro e w8 ⟨rfl, hb8⟩
  have HB8 := Lib.hid (below_on HB7.out hb8)
  have HN8 := Lib.hid (HN7.out.below hb8)
  clear hb8
  cases r
  · go_wp2
    go_ret2
    exact ⟨_, [], rfl, rfl, by simp [ShortN], .nil _ _, HB8.out⟩
  · go_wp2
    go_ret2
    exact ⟨_, _, rfl, (HJD.out (by first | rfl | trivial)).symm, HSh.out, HN8.out, HB8.out⟩
theorem iJoin2 (w : World) (B : Nat) (A1 A2 : Option Addr) (n1 n2 c1 c2 : Nat) (ns1 ns2 : List Nd) (op : Int) (hi1 : Nodes w B A1 n1 ns1) (hi2 : Nodes w B A2 n2 ns2) (hB : B ≤ w.heap.size) (hN1 : ShortN ns1) (hN2 : ShortN ns2) (hop : (Lit.int .i64 op).wf = true) (hnc1 : n1 ≤ c1) (hnc2 : n2 ≤ c2) (hc1 : c1 ≤ 1048576) (hc2 : c2 ≤ 1048576) (r : Bool) (hr : r = true ↔ IsE (datN ns1) ∧ IsE (datN ns2) ∧ Bin op ∧ n1 + n2 < 9) :
    Calls Try.prog 43 #[.slice A1 n1 c1, .slice A2 n2 c2, .int .i64 op] w fun e w' => ∃ v ns', e = .returned (.tuple #[v, .bool r]) ∧ datN ns' = joinD r (datN ns1) (datN ns2) op ∧ ShortN ns' ∧ OwnN w' w.heap.size v ns' ∧ Below w.heap.size w w' := iJoin2W w B A1 A2 n1 n2 c1 c2 ns1 ns2 op hi1 hi2 hB hN1 hN2 hop hnc1 hnc2 (Nat.le_trans hc1 (by decide)) (Nat.le_trans hc2 (by decide)) (Nat.le_trans hnc1 hc1) (Nat.le_trans hnc2 hc2) r hr
end Go.Proofs.Ytmbchpdcgjlggaa.num
