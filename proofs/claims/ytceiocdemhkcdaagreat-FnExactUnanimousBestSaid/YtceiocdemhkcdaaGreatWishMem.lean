/-
  Wishes as the laws of chapter 4 meet them: what a wish's value reads as, and the laws' own helpers that measure, copy, compare one.
-/
import Derived.Test.YtceiocdemhkcdaaGreatPairLaw
namespace Go.Proofs.YtceiocdemhkcdaaGreat.num
set_option maxRecDepth 20000
open Go.RowKit
set_option linter.unusedVariables false

/-- What a wish says. -/
structure WD where
  kind : Int
  field : Int
  value : Int
  ls : List Int
  ps : List (Int × Int)
/-- A wish's value: its numbers, and its two slices with what they read as. -/
structure Wi where
  kind : Int
  field : Int
  value : Int
  LA : Option Addr
  Ln : Nat
  Lc : Nat
  ls : List Int
  PA : Option Addr
  Pn : Nat
  Pc : Nat
  ps : List (Int × Int)
def Wi.val (t : Wi) : Value := .agg #[.int .i64 t.kind, .int .i64 t.field, .int .i64 t.value, .slice t.LA t.Ln t.Lc, .slice t.PA t.Pn t.Pc]
def Wi.dat (t : Wi) : WD := ⟨t.kind, t.field, t.value, t.ls, t.ps⟩
/-- The wish's slices read as said, below block B; its numbers are ints. -/
structure WiIn (w : World) (B : Nat) (t : Wi) : Prop where
  k : (Lit.int .i64 t.kind).wf = true
  f : (Lit.int .i64 t.field).wf = true
  v : (Lit.int .i64 t.value).wf = true
  l : Ints w B t.LA t.Ln t.ls
  p : Pairs w B t.PA t.Pn t.ps
theorem WiIn.below {w w' : World} {B : Nat} {t : Wi} (h : WiIn w B t) (hb : Below B w w') : WiIn w' B t := ⟨h.k, h.f, h.v, h.l.below hb, h.p.below hb⟩
theorem WiIn.more {w : World} {B B' : Nat} {t : Wi} (h : WiIn w B t) (hB : B ≤ B') : WiIn w B' t := ⟨h.k, h.f, h.v, h.l.more hB, h.p.more hB⟩
/-- A wish whose slices are short. -/
def Wi.Short (t : Wi) : Prop := t.Ln ≤ 1048576 ∧ t.Pn ≤ 1048576

theorem szWish_c (t : Wi) (left : Int) (hl : t.Ln ≤ 9223372036854775807) (hp : t.Pn ≤ 9223372036854775807) (h0 : 0 ≤ left) (h1 : left ≤ 1048576) (w : World) :
    Calls Tryz.prog 141 #[t.val, .int .i64 left] w fun e w' => (∃ r : Int, e = .returned (.int .i64 r) ∧ (r = -1 ∨ (0 ≤ r ∧ r ≤ left ∧ (t.Ln : Int) ≤ left ∧ (t.Pn : Int) ≤ left))) ∧ Below w.heap.size w w' := by
  obtain ⟨k, f, v, LA, Ln, Lc, ls, PA, Pn, Pc, ps⟩ := t
  unfold Wi.val
  simp only [] at hl hp ⊢
  by_cases hle : (Ln : Int) ≤ left
  · go_enter Tryz.func141, Tryz.ntmps141
    go_wp2_with fail
    refine (szInts_yes _ _ _ _ hl hle h1 _).mono ?_
    rintro e w1 ⟨rfl, rfl⟩
    go_wp2_with fail
    refine (szPairs _ _ _ _ hp (by omega) (by omega) _).mono ?_
    rintro e w2 ⟨⟨r, rfl, hr⟩, rfl⟩
    rcases hr with rfl | ⟨r0, r1, r2⟩
    · go_wp2
      go_ret
      exact ⟨⟨_, rfl, .inl rfl⟩, (Below.refl _ _).alloc (Nat.le_refl _) _⟩
    · go_wp2
      go_ret
      exact ⟨⟨r, rfl, .inr ⟨r0, by omega, hle, by omega⟩⟩, (Below.refl _ _).alloc (Nat.le_refl _) _⟩
  · go_enter Tryz.func141, Tryz.ntmps141
    go_wp2_with fail
    refine (szInts_no _ _ _ _ hl (by omega) h0 _).mono ?_
    rintro e w1 ⟨rfl, rfl⟩
    go_wp2
    go_ret
    exact ⟨⟨_, rfl, .inl rfl⟩, (Below.refl _ _).alloc (Nat.le_refl _) _⟩
theorem below4 {w : World} {B : Nat} (hB : B ≤ w.heap.size) (o1 o2 o3 o4 : Obj) : Below B w ((((w.alloc o1).alloc o2).alloc o3).alloc o4) := (below3 hB o1 o2 o3).alloc (by simp; omega) _
theorem heap_mid2 (w : World) (o1 o2 o3 o4 : Obj) : ((((w.alloc o1).alloc o2).alloc o3).alloc o4).heap[w.heap.size + 2]? = some o3 := by
  rw [Below.heap_alloc _ _ _ (by simp)]
  have h := heap_alloc_new ((w.alloc o1).alloc o2) o3
  have e : ((w.alloc o1).alloc o2).heap.size = w.heap.size + 2 := by simp
  rwa [e] at h
theorem five_set {w : World} {g : Nat} {t : TypeId} {u0 u1 u2 u3 u4 v0 v1 v2 v3 v4 : Value} (h : w.heap[g]? = some (.cells #[u0, u1, u2, u3, u4] t (0, 0))) :
    (((((w.setCell ⟨g, 0, none⟩ v0).setCell ⟨g, 1, none⟩ v1).setCell ⟨g, 2, none⟩ v2).setCell ⟨g, 3, none⟩ v3).setCell ⟨g, 4, none⟩ v4).heap[g]? = some (.cells #[v0, v1, v2, v3, v4] t (0, 0)) := by
  have h := heap_setCell_same _ g 4 _ _ v4 (heap_setCell_same _ g 3 _ _ v3 (heap_setCell_same _ g 2 _ _ v2 (heap_setCell_same _ g 1 _ _ v1 (heap_setCell_same w g 0 _ _ v0 h))))
  simpa using h
set_option maxRecDepth 20000 in
theorem toWish_c (w : World) (B : Nat) (t : Wi) (hi : WiIn w B t) (hB : B ≤ w.heap.size) (hn : t.Short) :
    Calls Tryz.prog 142 #[t.val] w fun e w' => ∃ t' : Wi, e = .returned t'.val ∧ t'.dat = t.dat ∧ t'.Short ∧ WiIn w' w'.heap.size t' ∧ Below w.heap.size w w' := by
  obtain ⟨k, f, v, LA, Ln, Lc, ls, PA, Pn, Pc, ps⟩ := t
  obtain ⟨hk, hf, hv, hl, hp⟩ := hi
  unfold Wi.val
  simp only [Wi.Short] at hk hf hv hl hp hn ⊢
  have HL := Lib.hid hl
  have HP := Lib.hid hp
  have HK := Lib.hid hk
  have HF := Lib.hid hf
  have HV := Lib.hid hv
  have HN := Lib.hid hn
  clear hl hp hk hf hv hn
  go_enter Tryz.func142, Tryz.ntmps142
  go_wp2_with fail
  refine (toInts _ B LA Ln Lc ls (HL.out.below (below3 hB _ _ _)) (by simp; omega) HN.out.1).mono ?_
  rintro e w1 ⟨rfl, rfl⟩
  go_wp2_with fail
  refine (toPairs _ B PA Pn Pc ps (HP.out.below (below4 hB _ _ _ _)) (by simp; omega) HN.out.2).mono ?_
  rintro e w2 ⟨rfl, hrow, hb2⟩
  have hr1 : w2.heap[w.heap.size + 1]? = some (.cells #[.int .i64 0, .int .i64 0, .int .i64 0, .slice none 0 0, .slice none 0 0] 109 (0, 0)) := (hb2.block _ (by simp <;> omega)).trans (heap_mid _ _ _ _ _)
  have hr2 : w2.heap[w.heap.size + 1 + 1]? = some (.cells #[.int .i64 k, .int .i64 f, .int .i64 v, .slice (some ⟨w.heap.size + 1 + 1 + 1, 0, none⟩) Ln Ln, .slice none 0 0] 109 (0, 0)) := (hb2.block _ (by simp <;> omega)).trans (heap_mid2 _ _ _ _ _)
  have hr3 : IntRow w2 (w.heap.size + 1 + 1 + 1) ls := (IntRow.made _ ls _ (by simp)).below hb2 (by simp)
  have hbel : Below w.heap.size w w2 := (below4 (Nat.le_refl _) _ _ _ _).trans (hb2.mono (by simp; omega))
  have hsz : w.heap.size + 1 + 1 + 1 + 1 < w2.heap.size := by have := hrow.lt; simp at this ⊢; omega
  have HRow := Lib.hid hrow
  have HR3 := Lib.hid hr3
  have HB2 := Lib.hid hbel
  have HS := Lib.hid hsz
  have d0 : w2.cell? ⟨w.heap.size + 1, 0, none⟩ = some (.int .i64 0) := cell_of_row w2 _ 0 _ _ (0, 0) hr1
  have d1 : w2.cell? ⟨w.heap.size + 1, 1, none⟩ = some (.int .i64 0) := cell_of_row w2 _ 1 _ _ (0, 0) hr1
  have d2 : w2.cell? ⟨w.heap.size + 1, 2, none⟩ = some (.int .i64 0) := cell_of_row w2 _ 2 _ _ (0, 0) hr1
  have d3 : w2.cell? ⟨w.heap.size + 1, 3, none⟩ = some (.slice none 0 0) := cell_of_row w2 _ 3 _ _ (0, 0) hr1
  have d4 : w2.cell? ⟨w.heap.size + 1, 4, none⟩ = some (.slice none 0 0) := cell_of_row w2 _ 4 _ _ (0, 0) hr1
  have g0 : w2.frozen? ⟨w.heap.size + 1, 0, none⟩ = false := frozen_of_row w2 _ 0 _ _ hr1
  have g1 : w2.frozen? ⟨w.heap.size + 1, 1, none⟩ = false := frozen_of_row w2 _ 1 _ _ hr1
  have g2 : w2.frozen? ⟨w.heap.size + 1, 2, none⟩ = false := frozen_of_row w2 _ 2 _ _ hr1
  have g3 : w2.frozen? ⟨w.heap.size + 1, 3, none⟩ = false := frozen_of_row w2 _ 3 _ _ hr1
  have g4 : w2.frozen? ⟨w.heap.size + 1, 4, none⟩ = false := frozen_of_row w2 _ 4 _ _ hr1
  have c0 : w2.cell? ⟨w.heap.size + 1 + 1, 0, none⟩ = some (.int .i64 k) := cell_of_row w2 _ 0 _ _ (0, 0) hr2
  have c1 : w2.cell? ⟨w.heap.size + 1 + 1, 1, none⟩ = some (.int .i64 f) := cell_of_row w2 _ 1 _ _ (0, 0) hr2
  have c2 : w2.cell? ⟨w.heap.size + 1 + 1, 2, none⟩ = some (.int .i64 v) := cell_of_row w2 _ 2 _ _ (0, 0) hr2
  have c3 : w2.cell? ⟨w.heap.size + 1 + 1, 3, none⟩ = some (.slice (some ⟨w.heap.size + 1 + 1 + 1, 0, none⟩) Ln Ln) := cell_of_row w2 _ 3 _ _ (0, 0) hr2
  have c4 : w2.cell? ⟨w.heap.size + 1 + 1, 4, none⟩ = some (.slice none 0 0) := cell_of_row w2 _ 4 _ _ (0, 0) hr2
  have e4 : w2.frozen? ⟨w.heap.size + 1 + 1, 4, none⟩ = false := frozen_of_row w2 _ 4 _ _ hr2
  have HR1 := Lib.hid hr1
  clear hr1 hr2 hr3 hrow hbel hsz hb2
  go_wp2
  refine bodyPost_ret_by (results_cell_row rfl _ _ (w.heap.size + 1) 109 _ (0, 0) _ rfl (five_set ((heap_setCell_other _ _ _ _ (by simp)).trans HR1.out)) Tryz.underlying109 rfl (by kernel_rfl)) rfl ?_
  have hk2 : ∀ b, w.heap.size + 1 + 1 < b → ∀ v1 v2 v3 v4 v5 v6, ((((((w2.setCell ⟨w.heap.size + 1 + 1, 4, none⟩ v1).setCell ⟨w.heap.size + 1, 0, none⟩ v2).setCell ⟨w.heap.size + 1, 1, none⟩ v3).setCell ⟨w.heap.size + 1, 2, none⟩ v4).setCell ⟨w.heap.size + 1, 3, none⟩ v5).setCell ⟨w.heap.size + 1, 4, none⟩ v6).heap[b]? = w2.heap[b]? := fun b hb v1 v2 v3 v4 v5 v6 => by
    rw [heap_setCell_other _ _ _ _ (by simp; omega), heap_setCell_other _ _ _ _ (by simp; omega), heap_setCell_other _ _ _ _ (by simp; omega), heap_setCell_other _ _ _ _ (by simp; omega), heap_setCell_other _ _ _ _ (by simp; omega), heap_setCell_other _ _ _ _ (by simp; omega)]
  refine ⟨⟨k, f, v, some ⟨w.heap.size + 1 + 1 + 1, 0, none⟩, Ln, Ln, ls, some ⟨w.heap.size + 1 + 1 + 1 + 1, 0, none⟩, Pn, Pn, ps⟩, rfl, rfl, HN.out, ⟨HK.out, HF.out, HV.out, ints_row HL.out (World.rowIs.of_block HR3.out (hk2 _ (by omega) _ _ _ _ _ _)), ?_⟩, ?_⟩
  · have hp0 : PairRow w2 (w.heap.size + 1 + 1 + 1 + 1) ps := by have := HRow.out; simp at this; exact this
    refine PairRow.pairsN (World.rowIs.of_block hp0 (hk2 _ (by omega) _ _ _ _ _ _)) ?_ HP.out.1
    have := HS.out
    simpa using this
  · exact (((((HB2.out.setCell (by show _ ≤ w.heap.size + 1 + 1; omega) _).setCell (by show _ ≤ w.heap.size + 1; omega) _).setCell (by show _ ≤ w.heap.size + 1; omega) _).setCell (by show _ ≤ w.heap.size + 1; omega) _).setCell (by show _ ≤ w.heap.size + 1; omega) _).setCell (by show _ ≤ w.heap.size + 1; omega) _

set_option maxRecDepth 20000 in
theorem eqWish_c (w : World) (B : Nat) (t t' : Wi) (h1 : WiIn w B t) (h2 : WiIn w B t') (hB : B ≤ w.heap.size) (hn : t.Short) (b : Bool) (hb : b = true ↔ t.dat = t'.dat) :
    Calls Tryz.prog 143 #[t.val, t'.val] w fun e w' => e = .returned (.bool b) ∧ Below w.heap.size w w' := by
  obtain ⟨k, f, v, LA, Ln, Lc, ls, PA, Pn, Pc, ps⟩ := t
  obtain ⟨k', f', v', LA', Ln', Lc', ls', PA', Pn', Pc', ps'⟩ := t'
  obtain ⟨-, -, -, hl, hp⟩ := h1
  obtain ⟨-, -, -, hl', hp'⟩ := h2
  unfold Wi.val
  simp only [Wi.dat, WD.mk.injEq, Wi.Short] at hl hp hl' hp' hn hb ⊢
  have HL := Lib.hid hl
  have HP := Lib.hid hp
  have HL' := Lib.hid hl'
  have HP' := Lib.hid hp'
  have HB := Lib.hid hb
  have HN := Lib.hid hn
  have hB2 : ∀ o1 o2 : Obj, Below B w ((w.alloc o1).alloc o2) := fun o1 o2 => ((Below.refl B w).alloc hB _).alloc (by simp; omega) _
  have hW2 : ∀ o1 o2 : Obj, Below w.heap.size w ((w.alloc o1).alloc o2) := fun o1 o2 => ((Below.refl _ w).alloc (Nat.le_refl _) _).alloc (by simp) _
  have HB2 := Lib.hid hB2
  have HW2 := Lib.hid hW2
  clear hl hp hl' hp' hb hn hB2 hW2
  have hno : ¬ (k = k' ∧ f = f' ∧ v = v' ∧ ls = ls' ∧ ps = ps') → b = false := fun h => by
    cases b
    · rfl
    · exact absurd (HB.out.1 rfl) h
  have HNo := Lib.hid hno
  clear hno
  by_cases e1 : k = k'
  · subst e1
    by_cases e2 : f = f'
    · subst e2
      by_cases e3 : v = v'
      · subst e3
        obtain ⟨q1, hq1⟩ := bool_of (ls = ls')
        obtain ⟨q2, hq2⟩ := bool_of (ps = ps')
        have HQ1 := Lib.hid hq1
        have HQ2 := Lib.hid hq2
        clear hq1 hq2
        go_enter Tryz.func143, Tryz.ntmps143
        go_wp2_with fail
        refine (eqInts_b _ B LA LA' Ln Ln' Lc Lc' ls ls' (HL.out.below (HB2.out _ _)) (HL'.out.below (HB2.out _ _)) HN.out.1 q1 HQ1.out).mono ?_
        rintro e w1 ⟨rfl, hb1⟩
        have HB1 := Lib.hid (And.intro (((HB2.out _ _).trans (hb1.mono (by simp <;> omega)))) ((HW2.out _ _).trans (hb1.mono (by simp <;> omega))))
        have c1 : w1.cell? ⟨w.heap.size, 4, none⟩ = some (.slice PA Pn Pc) := (hb1.cell (p := ⟨w.heap.size, 4, none⟩) (by simp; omega)).trans (by rw [World.cell?_alloc_past _ _ _ (by simp), World.cell?_alloc_at _ _ _ _ rfl]; rfl)
        have c2 : w1.cell? ⟨w.heap.size + 1, 4, none⟩ = some (.slice PA' Pn' Pc') := (hb1.cell (p := ⟨w.heap.size + 1, 4, none⟩) (by simp)).trans (by rw [World.cell?_alloc_at _ _ _ _ (by simp)]; rfl)
        clear hb1
        cases q1
        · obtain rfl := HNo.out (fun h => by have := HQ1.out.2 h.2.2.2.1; cases this)
          go_wp2
          go_ret
          exact ⟨rfl, HB1.out.2⟩
        · go_wp2_with fail
          refine (eqPairs w1 B PA PA' Pn Pn' Pc Pc' ps ps' (HP.out.below HB1.out.1) (HP'.out.below HB1.out.1) (Nat.le_trans hB HB1.out.2.size) HN.out.2 q2 HQ2.out).mono ?_
          rintro e w2 ⟨rfl, hb2⟩
          have HBB := Lib.hid (HB1.out.2.trans (hb2.mono HB1.out.2.size))
          clear hb2 c1 c2
          cases q2
          · obtain rfl := HNo.out (fun h => by have := HQ2.out.2 h.2.2.2.2; cases this)
            go_wp2
            go_ret
            exact ⟨rfl, HBB.out⟩
          · obtain rfl := HB.out.2 ⟨(by first | rfl | trivial), (by first | rfl | trivial), (by first | rfl | trivial), HQ1.out.1 (by first | rfl | trivial), HQ2.out.1 (by first | rfl | trivial)⟩
            go_wp2
            go_ret
            exact ⟨rfl, HBB.out⟩
      · obtain rfl := HNo.out (fun h => e3 h.2.2.1)
        have hne : (v != v') = true := by simpa using e3
        clear e3
        go_enter Tryz.func143, Tryz.ntmps143
        go_wp2
        go_ret
        exact ⟨rfl, HW2.out _ _⟩
    · obtain rfl := HNo.out (fun h => e2 h.2.1)
      have hne : (f != f') = true := by simpa using e2
      clear e2
      go_enter Tryz.func143, Tryz.ntmps143
      go_wp2
      go_ret
      exact ⟨rfl, HW2.out _ _⟩
  · obtain rfl := HNo.out (fun h => e1 h.1)
    have hne : (k != k') = true := by simpa using e1
    clear e1
    go_enter Tryz.func143, Tryz.ntmps143
    go_wp2
    go_ret
    exact ⟨rfl, HW2.out _ _⟩
end Go.Proofs.YtceiocdemhkcdaaGreat.num
