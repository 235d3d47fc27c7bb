/-
  Wishes as the laws of chapter 4 meet them: what a wish's value reads as, and the laws' own helpers that measure, copy, compare one.
-/
import Derived.Test.YtnbgmiiknndleaaPairLaw
namespace Go.Proofs.Ytnbgmiiknndleaa.num
set_option maxRecDepth 20000
open Go.RowKit
set_option linter.unusedVariables false

/-- What a wish says. -/
structure WD where
  kind : Int
  field : Int
  value : Int
  ls : List Int
  ps : List (Int × Int)
/-- A wish's value: its numbers, and its two slices with what they read as. -/
structure Wi where
  kind : Int
  field : Int
  value : Int
  LA : Option Addr
  Ln : Nat
  Lc : Nat
  ls : List Int
  PA : Option Addr
  Pn : Nat
  Pc : Nat
  ps : List (Int × Int)
def Wi.val (t : Wi) : Value := .agg #[.int .i64 t.kind, .int .i64 t.field, .int .i64 t.value, .slice t.LA t.Ln t.Lc, .slice t.PA t.Pn t.Pc]
def Wi.dat (t : Wi) : WD := ⟨t.kind, t.field, t.value, t.ls, t.ps⟩
/-- The wish's slices read as said, below block B; its numbers are ints. -/
structure WiIn (w : World) (B : Nat) (t : Wi) : Prop where
  k : (Lit.int .i64 t.kind).wf = true
  f : (Lit.int .i64 t.field).wf = true
  v : (Lit.int .i64 t.value).wf = true
  l : Ints w B t.LA t.Ln t.ls
  p : Pairs w B t.PA t.Pn t.ps
theorem WiIn.below {w w' : World} {B : Nat} {t : Wi} (h : WiIn w B t) (hb : Below B w w') : WiIn w' B t := ⟨h.k, h.f, h.v, h.l.below hb, h.p.below hb⟩
theorem WiIn.more {w : World} {B B' : Nat} {t : Wi} (h : WiIn w B t) (hB : B ≤ B') : WiIn w B' t := ⟨h.k, h.f, h.v, h.l.more hB, h.p.more hB⟩
/-- A wish whose slices are short. -/
def Wi.Short (t : Wi) : Prop := t.Ln ≤ 1048576 ∧ t.Pn ≤ 1048576

theorem below4 {w : World} {B : Nat} (hB : B ≤ w.heap.size) (o1 o2 o3 o4 : Obj) : Below B w ((((w.alloc o1).alloc o2).alloc o3).alloc o4) := (below3 hB o1 o2 o3).alloc (by simp; omega) _
theorem heap_mid2 (w : World) (o1 o2 o3 o4 : Obj) : ((((w.alloc o1).alloc o2).alloc o3).alloc o4).heap[w.heap.size + 2]? = some o3 := by
  rw [Below.heap_alloc _ _ _ (by simp)]
  have h := heap_alloc_new ((w.alloc o1).alloc o2) o3
  have e : ((w.alloc o1).alloc o2).heap.size = w.heap.size + 2 := by simp
  rwa [e] at h
theorem five_set {w : World} {g : Nat} {t : TypeId} {u0 u1 u2 u3 u4 v0 v1 v2 v3 v4 : Value} (h : w.heap[g]? = some (.cells #[u0, u1, u2, u3, u4] t (0, 0))) :
    (((((w.setCell ⟨g, 0, none⟩ v0).setCell ⟨g, 1, none⟩ v1).setCell ⟨g, 2, none⟩ v2).setCell ⟨g, 3, none⟩ v3).setCell ⟨g, 4, none⟩ v4).heap[g]? = some (.cells #[v0, v1, v2, v3, v4] t (0, 0)) := by
  have h := heap_setCell_same _ g 4 _ _ v4 (heap_setCell_same _ g 3 _ _ v3 (heap_setCell_same _ g 2 _ _ v2 (heap_setCell_same _ g 1 _ _ v1 (heap_setCell_same w g 0 _ _ v0 h))))
  simpa using h
set_option maxRecDepth 20000 in
theorem eqWish_c (w : World) (B : Nat) (t t' : Wi) (h1 : WiIn w B t) (h2 : WiIn w B t') (hB : B ≤ w.heap.size) (hn : t.Short) (b : Bool) (hb : b = true ↔ t.dat = t'.dat) :
    Calls Try.prog 49 #[t.val, t'.val] w fun e w' => e = .returned (.bool b) ∧ Below w.heap.size w w' := by
  obtain ⟨k, f, v, LA, Ln, Lc, ls, PA, Pn, Pc, ps⟩ := t
  obtain ⟨k', f', v', LA', Ln', Lc', ls', PA', Pn', Pc', ps'⟩ := t'
  obtain ⟨-, -, -, hl, hp⟩ := h1
  obtain ⟨-, -, -, hl', hp'⟩ := h2
  unfold Wi.val
  simp only [Wi.dat, WD.mk.injEq, Wi.Short] at hl hp hl' hp' hn hb ⊢
  have HL := Lib.hid hl
  have HP := Lib.hid hp
  have HL' := Lib.hid hl'
  have HP' := Lib.hid hp'
  have HB := Lib.hid hb
  have HN := Lib.hid hn
  have hB2 : ∀ o1 o2 : Obj, Below B w ((w.alloc o1).alloc o2) := fun o1 o2 => ((Below.refl B w).alloc hB _).alloc (by simp; omega) _
  have hW2 : ∀ o1 o2 : Obj, Below w.heap.size w ((w.alloc o1).alloc o2) := fun o1 o2 => ((Below.refl _ w).alloc (Nat.le_refl _) _).alloc (by simp) _
  have HB2 := Lib.hid hB2
  have HW2 := Lib.hid hW2
  clear hl hp hl' hp' hb hn hB2 hW2
  have hno : ¬ (k = k' ∧ f = f' ∧ v = v' ∧ ls = ls' ∧ ps = ps') → b = false := fun h => by
    cases b
    · rfl
    · exact absurd (HB.out.1 rfl) h
  have HNo := Lib.hid hno
  clear hno
  by_cases e1 : k = k'
  · subst e1
    by_cases e2 : f = f'
    · subst e2
      by_cases e3 : v = v'
      · subst e3
        obtain ⟨q1, hq1⟩ := bool_of (ls = ls')
        obtain ⟨q2, hq2⟩ := bool_of (ps = ps')
        have HQ1 := Lib.hid hq1
        have HQ2 := Lib.hid hq2
        clear hq1 hq2
        go_enter Try.func49, Try.ntmps49
        go_wp2_with fail
        refine (eqInts_b _ B LA LA' Ln Ln' Lc Lc' ls ls' (HL.out.below (HB2.out _ _)) (HL'.out.below (HB2.out _ _)) HN.out.1 q1 HQ1.out).mono ?_
        rintro e w1 ⟨rfl, hb1⟩
        have HB1 := Lib.hid (And.intro (((HB2.out _ _).trans (hb1.mono (by simp <;> omega)))) ((HW2.out _ _).trans (hb1.mono (by simp <;> omega))))
        have c1 : w1.cell? ⟨w.heap.size, 4, none⟩ = some (.slice PA Pn Pc) := (hb1.cell (p := ⟨w.heap.size, 4, none⟩) (by simp; omega)).trans (by rw [World.cell?_alloc_past _ _ _ (by simp), World.cell?_alloc_at _ _ _ _ rfl]; rfl)
        have c2 : w1.cell? ⟨w.heap.size + 1, 4, none⟩ = some (.slice PA' Pn' Pc') := (hb1.cell (p := ⟨w.heap.size + 1, 4, none⟩) (by simp)).trans (by rw [World.cell?_alloc_at _ _ _ _ (by simp)]; rfl)
        clear hb1
        cases q1
        · obtain rfl := HNo.out (fun h => by have := HQ1.out.2 h.2.2.2.1; cases this)
          go_wp2
          go_ret
          exact ⟨rfl, HB1.out.2⟩
        · go_wp2_with fail
          refine (eqPairs w1 B PA PA' Pn Pn' Pc Pc' ps ps' (HP.out.below HB1.out.1) (HP'.out.below HB1.out.1) (Nat.le_trans hB HB1.out.2.size) HN.out.2 q2 HQ2.out).mono ?_
          rintro e w2 ⟨rfl, hb2⟩
          have HBB := Lib.hid (HB1.out.2.trans (hb2.mono HB1.out.2.size))
          clear hb2 c1 c2
          cases q2
          · obtain rfl := HNo.out (fun h => by have := HQ2.out.2 h.2.2.2.2; cases this)
            go_wp2
            go_ret
            exact ⟨rfl, HBB.out⟩
          · obtain rfl := HB.out.2 ⟨(by first | rfl | trivial), (by first | rfl | trivial), (by first | rfl | trivial), HQ1.out.1 (by first | rfl | trivial), HQ2.out.1 (by first | rfl | trivial)⟩
            go_wp2
            go_ret
            exact ⟨rfl, HBB.out⟩
      · obtain rfl := HNo.out (fun h => e3 h.2.2.1)
        have hne : (v != v') = true := by simpa using e3
        clear e3
        go_enter Try.func49, Try.ntmps49
        go_wp2
        go_ret
        exact ⟨rfl, HW2.out _ _⟩
    · obtain rfl := HNo.out (fun h => e2 h.2.1)
      have hne : (f != f') = true := by simpa using e2
      clear e2
      go_enter Try.func49, Try.ntmps49
      go_wp2
      go_ret
      exact ⟨rfl, HW2.out _ _⟩
  · obtain rfl := HNo.out (fun h => e1 h.1)
    have hne : (k != k') = true := by simpa using e1
    clear e1
    go_enter Try.func49, Try.ntmps49
    go_wp2
    go_ret
    exact ⟨rfl, HW2.out _ _⟩
end Go.Proofs.Ytnbgmiiknndleaa.num
