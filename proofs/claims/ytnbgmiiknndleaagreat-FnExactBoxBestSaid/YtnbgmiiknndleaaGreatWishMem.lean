/-
  Wishes as the laws of chapter 4 meet them: what a wish's value reads as, and the laws' own helpers that measure, copy, compare one.
-/
import Derived.Test.YtnbgmiiknndleaaGreatPairLaw
namespace Go.Proofs.YtnbgmiiknndleaaGreat.num
set_option maxRecDepth 20000
open Go.RowKit
set_option linter.unusedVariables false

/-- What a wish says. -/
structure WD where
  kind : Int
  field : Int
  value : Int
  ls : List Int
  ps : List (Int × Int)
/-- A wish's value: its numbers, and its two slices with what they read as. -/
structure Wi where
  kind : Int
  field : Int
  value : Int
  LA : Option Addr
  Ln : Nat
  Lc : Nat
  ls : List Int
  PA : Option Addr
  Pn : Nat
  Pc : Nat
  ps : List (Int × Int)
def Wi.val (t : Wi) : Value := .agg #[.int .i64 t.kind, .int .i64 t.field, .int .i64 t.value, .slice t.LA t.Ln t.Lc, .slice t.PA t.Pn t.Pc]
def Wi.dat (t : Wi) : WD := ⟨t.kind, t.field, t.value, t.ls, t.ps⟩
/-- The wish's slices read as said, below block B; its numbers are ints. -/
structure WiIn (w : World) (B : Nat) (t : Wi) : Prop where
  k : (Lit.int .i64 t.kind).wf = true
  f : (Lit.int .i64 t.field).wf = true
  v : (Lit.int .i64 t.value).wf = true
  l : Ints w B t.LA t.Ln t.ls
  p : Pairs w B t.PA t.Pn t.ps
theorem WiIn.below {w w' : World} {B : Nat} {t : Wi} (h : WiIn w B t) (hb : Below B w w') : WiIn w' B t := ⟨h.k, h.f, h.v, h.l.below hb, h.p.below hb⟩
theorem WiIn.more {w : World} {B B' : Nat} {t : Wi} (h : WiIn w B t) (hB : B ≤ B') : WiIn w B' t := ⟨h.k, h.f, h.v, h.l.more hB, h.p.more hB⟩
/-- A wish whose slices are short. -/
def Wi.Short (t : Wi) : Prop := t.Ln ≤ 1048576 ∧ t.Pn ≤ 1048576

theorem below4 {w : World} {B : Nat} (hB : B ≤ w.heap.size) (o1 o2 o3 o4 : Obj) : Below B w ((((w.alloc o1).alloc o2).alloc o3).alloc o4) := (below3 hB o1 o2 o3).alloc (by simp; omega) _
theorem heap_mid2 (w : World) (o1 o2 o3 o4 : Obj) : ((((w.alloc o1).alloc o2).alloc o3).alloc o4).heap[w.heap.size + 2]? = some o3 := by
  rw [Below.heap_alloc _ _ _ (by simp)]
  have h := heap_alloc_new ((w.alloc o1).alloc o2) o3
  have e : ((w.alloc o1).alloc o2).heap.size = w.heap.size + 2 := by simp
  rwa [e] at h
theorem five_set {w : World} {g : Nat} {t : TypeId} {u0 u1 u2 u3 u4 v0 v1 v2 v3 v4 : Value} (h : w.heap[g]? = some (.cells #[u0, u1, u2, u3, u4] t (0, 0))) :
    (((((w.setCell ⟨g, 0, none⟩ v0).setCell ⟨g, 1, none⟩ v1).setCell ⟨g, 2, none⟩ v2).setCell ⟨g, 3, none⟩ v3).setCell ⟨g, 4, none⟩ v4).heap[g]? = some (.cells #[v0, v1, v2, v3, v4] t (0, 0)) := by
  have h := heap_setCell_same _ g 4 _ _ v4 (heap_setCell_same _ g 3 _ _ v3 (heap_setCell_same _ g 2 _ _ v2 (heap_setCell_same _ g 1 _ _ v1 (heap_setCell_same w g 0 _ _ v0 h))))
  simpa using h
end Go.Proofs.YtnbgmiiknndleaaGreat.num
