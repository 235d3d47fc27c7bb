/-
  The model's draws of a wish: contracts.
-/
import Derived.Test.YtadjoiahllekdaaGreatDoorPairDraw
import Derived.Test.YtadjoiahllekdaaGreatDoorWishLaw
namespace Go.Proofs.YtadjoiahllekdaaGreatDoor.num
set_option maxRecDepth 20000
open Go.RowKit
set_option linter.unusedVariables false
set_option linter.unusedSimpArgs false

theorem i64_small {n : Int} (h0 : 0 ≤ n) (h1 : n ≤ 100) : I64 n := ⟨by omega, by omega⟩
/-- A wish whose slices are the call's own, and short. -/
structure WiOwn (w : World) (B : Nat) (t : Wi) : Prop where
  l : OwnI w B (.slice t.LA t.Ln t.Lc) t.ls
  p : OwnP w B (.slice t.PA t.Pn t.Pc) t.ps
  k : I64 t.kind
  f : I64 t.field
  v : I64 t.value
  nl : t.ls.length ≤ 5
  np : t.ps.length ≤ 4
theorem wf_I64 {n : Int} (h : I64 n) : (Lit.int .i64 n).wf = true := WalkArith.wf_i64 h
theorem WiOwn.wi {w : World} {B : Nat} {t : Wi} (h : WiOwn w B t) : WiIn w w.heap.size t := ⟨wf_I64 h.k, wf_I64 h.f, wf_I64 h.v, ownI_at h.l, h.p.at⟩
theorem WiOwn.short {w : World} {B : Nat} {t : Wi} (h : WiOwn w B t) : t.Short := ⟨by have := (ownI_at h.l).1; have := h.nl; omega, by have := h.p.at.1; have := h.np; omega⟩
theorem WiOwn.blocks {w w' : World} {B : Nat} {t : Wi} (h : WiOwn w B t) (hb : ∀ b, B ≤ b → b < w.heap.size → w'.heap[b]? = w.heap[b]?) : WiOwn w' B t :=
  ⟨ownI_blocks h.l fun k hk => hb k (ownI_lows h.l k hk) (ownI_tops h.l k hk), h.p.blocks fun k hk => hb k (h.p.lows k hk) (h.p.tops k hk), h.k, h.f, h.v, h.nl, h.np⟩
theorem ownI_lowD {w : World} {B B' : Nat} {v : Value} {l : List Int} (h : OwnI w B v l) (hB : B' ≤ B) : OwnI w B' v l :=
  ⟨h.1, h.2.imp id fun ⟨g, cap, cur, h1, h2, h3⟩ => ⟨g, cap, cur, h1, Nat.le_trans hB h2, h3⟩⟩
theorem WiOwn.low {w : World} {B B' : Nat} {t : Wi} (h : WiOwn w B t) (hB : B' ≤ B) : WiOwn w B' t := ⟨ownI_lowD h.l hB, h.p.lowD hB, h.k, h.f, h.v, h.nl, h.np⟩
theorem row_kept {a b : World} {g X : Nat} {o : Obj} (hg : a.grownBy b (some g)) (h : a.heap[X]? = some o) (hX : X ≠ g) : b.heap[X]? = some o :=
  (hg.block X (Array.getElem?_eq_some_iff.1 h).1 (fun e => hX (Option.some.inj e))).trans h
theorem row_below {a b : World} {B X : Nat} {o : Obj} (hb : Below B a b) (h : a.heap[X]? = some o) (hX : X < B) : b.heap[X]? = some o := (hb.block X hX).trans h
theorem ownI_keptg {w w' : World} {B g : Nat} {v : Value} {l : List Int} (h : OwnI w B v l) (hg : w.grownBy w' (some g)) (hB : g < B) : OwnI w' B v l :=
  ownI_blocks h fun k hk => hg.block k (ownI_tops h k hk) fun e => by have := ownI_lows h k hk; have := Option.some.inj e; omega
/-- Five cells stored at block X. -/
def set5 (w : World) (X : Nat) (v0 v1 v2 v3 v4 : Value) : World := ((((w.setCell ⟨X, 0, none⟩ v0).setCell ⟨X, 1, none⟩ v1).setCell ⟨X, 2, none⟩ v2).setCell ⟨X, 3, none⟩ v3).setCell ⟨X, 4, none⟩ v4
theorem set5_other (w : World) (X b : Nat) (v0 v1 v2 v3 v4 : Value) (h : b ≠ X) : (set5 w X v0 v1 v2 v3 v4).heap[b]? = w.heap[b]? := by
  unfold set5
  rw [heap_setCell_other _ _ _ _ h, heap_setCell_other _ _ _ _ h, heap_setCell_other _ _ _ _ h, heap_setCell_other _ _ _ _ h, heap_setCell_other _ _ _ _ h]
theorem set5_below (w : World) (X B : Nat) (v0 v1 v2 v3 v4 : Value) (h : B ≤ X) : Below B w (set5 w X v0 v1 v2 v3 v4) := by
  unfold set5
  exact (((((Below.refl B w).setCell h _).setCell h _).setCell h _).setCell h _).setCell h _
def OutWish (N : Nat) (w : World) (g : Nat) (a : Option Addr) (len cap : Nat) (e : Ending) (w' : World) : Prop :=
  ∃ t : Wi, e = .returned t.val ∧ WiOwn w' w.heap.size t ∧ t.ls.length ≤ N ∧ Cur w' g a len cap ∧ w.grownBy w' (some g)
/-- What is handed out at the end, the result's block written. -/
theorem out_wish {w wr : World} {g : Nat} {a : Option Addr} {len cap : Nat} {t : Wi} {Y : Nat} (hgl : g < w.heap.size) (hY : w.heap.size < Y) (ho : WiOwn wr Y t) (hc : Cur wr g a len cap) (hg : w.grownBy wr (some g)) (v0 v1 v2 v3 v4 : Value) :
    WiOwn (set5 wr w.heap.size v0 v1 v2 v3 v4) w.heap.size t ∧ Cur (set5 wr w.heap.size v0 v1 v2 v3 v4) g a len cap ∧ w.grownBy (set5 wr w.heap.size v0 v1 v2 v3 v4) (some g) :=
  ⟨(ho.blocks fun b hb _ => set5_other _ _ _ _ _ _ _ _ (by omega)).low (by omega), hc.kept (set5_other _ _ _ _ _ _ _ _ (by omega)), grown_tail hg (set5_below _ _ _ _ _ _ _ _ (Nat.le_refl _))⟩

set_option maxRecDepth 20000 in
set_option maxHeartbeats 3200000 in
theorem wish_any (w : World) (g : Nat) (a : Option Addr) (len cap : Nat) (hlen : len ≤ 1048576) (hc : Cur w g a len cap) (B : Nat) (hB : B ≤ g) (hrow : Row w B a len) :
    Calls Tryz.prog 104 #[.pointer (some ⟨g, 0, none⟩)] w (OutWish 4 w g a len cap) := by
  have HR := Lib.hid hrow
  have hgl := hc.lt
  have HC1 := Lib.hid (hc.kept (w' := w.alloc (.cells #[.int .i64 0, .int .i64 0, .int .i64 0, .slice none 0 0, .slice none 0 0] 39)) (Below.heap_alloc _ _ _ hc.lt))
  have HG1 : Hid (w.grownBy (w.alloc (.cells #[.int .i64 0, .int .i64 0, .int .i64 0, .slice none 0 0, .slice none 0 0] 39)) (some g)) := Lib.hid (World.grownBy_alloc w _ _)
  have HX1 := Lib.hid (heap_alloc_new w (.cells #[.int .i64 0, .int .i64 0, .int .i64 0, .slice none 0 0, .slice none 0 0] 39))
  clear hc hrow
  go_enter Tryz.func104, Tryz.ntmps104
  go_wp2_with fail
  refine (below_any 5 (by omega) _ g a len cap hlen HC1.out B hB (HR.out.below (grown_below HG1.out hB (by omega)))).mono ?_
  rintro e w2 ⟨k, rfl, hk, hc2, hg2⟩
  obtain ⟨hk0, hk5⟩ := hk.2 (by omega)
  have HC2 := Lib.hid hc2
  have HG2 := Lib.hid (HG1.out.trans hg2)
  have HX2 := Lib.hid (row_kept hg2 HX1.out (by omega))
  clear hk hc2 hg2 HC1 HG1 HX1
  go_wp2_with fail
  refine (below_any 3 (by omega) _ g a len cap hlen HC2.out B hB (HR.out.below (grown_below HG2.out hB (by omega)))).mono ?_
  rintro e w3 ⟨f, rfl, hf, hc3, hg3⟩
  obtain ⟨hf0, hf3⟩ := hf.2 (by omega)
  have HC3 := Lib.hid hc3
  have HG3 := Lib.hid (HG2.out.trans hg3)
  have HX3 := Lib.hid (row_kept hg3 HX2.out (by omega))
  clear hf hc3 hg3 HC2 HG2 HX2
  have hX3 : w.heap.size < w3.heap.size := lt_of_block HX3.out
  rcases (show k = 0 ∨ k = 1 ∨ k = 2 ∨ k = 3 ∨ k = 4 by omega) with rfl | rfl | rfl | rfl | rfl
  · have x0 : w3.cell? ⟨w.heap.size, 0, none⟩ = some (.int .i64 0) := cell_of_row w3 _ 0 _ _ (0, 0) HX3.out
    have z0 : w3.frozen? ⟨w.heap.size, 0, none⟩ = false := frozen_of_row w3 _ 0 _ _ HX3.out
    have x1 : w3.cell? ⟨w.heap.size, 1, none⟩ = some (.int .i64 0) := cell_of_row w3 _ 1 _ _ (0, 0) HX3.out
    have z1 : w3.frozen? ⟨w.heap.size, 1, none⟩ = false := frozen_of_row w3 _ 1 _ _ HX3.out
    have x2 : w3.cell? ⟨w.heap.size, 2, none⟩ = some (.int .i64 0) := cell_of_row w3 _ 2 _ _ (0, 0) HX3.out
    have z2 : w3.frozen? ⟨w.heap.size, 2, none⟩ = false := frozen_of_row w3 _ 2 _ _ HX3.out
    have x3 : w3.cell? ⟨w.heap.size, 3, none⟩ = some (.slice none 0 0) := cell_of_row w3 _ 3 _ _ (0, 0) HX3.out
    have z3 : w3.frozen? ⟨w.heap.size, 3, none⟩ = false := frozen_of_row w3 _ 3 _ _ HX3.out
    have x4 : w3.cell? ⟨w.heap.size, 4, none⟩ = some (.slice none 0 0) := cell_of_row w3 _ 4 _ _ (0, 0) HX3.out
    have z4 : w3.frozen? ⟨w.heap.size, 4, none⟩ = false := frozen_of_row w3 _ 4 _ _ HX3.out
    go_wp2
    refine bodyPost_ret_by (results_cell_row rfl _ _ w.heap.size 39 _ (0, 0) _ rfl ((Below.heap_alloc _ _ _ (by simp; omega)).trans (five_set HX3.out)) Tryz.underlying39 rfl (by kernel_rfl)) rfl ?_
    refine ⟨⟨0, f, 0, none, 0, 0, [], none, 0, 0, []⟩, rfl, ⟨ownI_nil _ _, OwnP.nil _ _, i64_small (n := 0) (by decide) (by decide), i64_small (n := f) (by omega) (by omega), i64_small (n := 0) (by decide) (by decide), by simp, by simp⟩, by simp, (HC3.out.kept ?_).kept (Below.heap_alloc _ _ _ (by simp; omega)), grown_alloc (grown_tail HG3.out ?_) _⟩
    · exact set5_other w3 w.heap.size g _ _ _ _ _ (by omega)
    · exact set5_below w3 w.heap.size w.heap.size _ _ _ _ _ (Nat.le_refl _)
  · have x0 : w3.cell? ⟨w.heap.size, 0, none⟩ = some (.int .i64 0) := cell_of_row w3 _ 0 _ _ (0, 0) HX3.out
    have z0 : w3.frozen? ⟨w.heap.size, 0, none⟩ = false := frozen_of_row w3 _ 0 _ _ HX3.out
    have x1 : w3.cell? ⟨w.heap.size, 1, none⟩ = some (.int .i64 0) := cell_of_row w3 _ 1 _ _ (0, 0) HX3.out
    have z1 : w3.frozen? ⟨w.heap.size, 1, none⟩ = false := frozen_of_row w3 _ 1 _ _ HX3.out
    have x2 : w3.cell? ⟨w.heap.size, 2, none⟩ = some (.int .i64 0) := cell_of_row w3 _ 2 _ _ (0, 0) HX3.out
    have z2 : w3.frozen? ⟨w.heap.size, 2, none⟩ = false := frozen_of_row w3 _ 2 _ _ HX3.out
    have x3 : w3.cell? ⟨w.heap.size, 3, none⟩ = some (.slice none 0 0) := cell_of_row w3 _ 3 _ _ (0, 0) HX3.out
    have z3 : w3.frozen? ⟨w.heap.size, 3, none⟩ = false := frozen_of_row w3 _ 3 _ _ HX3.out
    have x4 : w3.cell? ⟨w.heap.size, 4, none⟩ = some (.slice none 0 0) := cell_of_row w3 _ 4 _ _ (0, 0) HX3.out
    have z4 : w3.frozen? ⟨w.heap.size, 4, none⟩ = false := frozen_of_row w3 _ 4 _ _ HX3.out
    go_wp2
    refine bodyPost_ret_by (results_cell_row rfl _ _ w.heap.size 39 _ (0, 0) _ rfl ((Below.heap_alloc _ _ _ (by simp; omega)).trans (five_set HX3.out)) Tryz.underlying39 rfl (by kernel_rfl)) rfl ?_
    refine ⟨⟨1, f, 0, none, 0, 0, [], none, 0, 0, []⟩, rfl, ⟨ownI_nil _ _, OwnP.nil _ _, i64_small (n := 1) (by decide) (by decide), i64_small (n := f) (by omega) (by omega), i64_small (n := 0) (by decide) (by decide), by simp, by simp⟩, by simp, (HC3.out.kept ?_).kept (Below.heap_alloc _ _ _ (by simp; omega)), grown_alloc (grown_tail HG3.out ?_) _⟩
    · exact set5_other w3 w.heap.size g _ _ _ _ _ (by omega)
    · exact set5_below w3 w.heap.size w.heap.size _ _ _ _ _ (Nat.le_refl _)
  · have HC4 := Lib.hid (HC3.out.kept (Below.heap_alloc w3 (.cells #[.int .i64 2, .int .i64 f, .int .i64 0, .slice none 0 0, .slice none 0 0] 39) _ (Nat.lt_trans hgl hX3)))
    have HG4 := Lib.hid (grown_alloc HG3.out (.cells #[.int .i64 2, .int .i64 f, .int .i64 0, .slice none 0 0, .slice none 0 0] 39))
    have HX4 := Lib.hid ((Below.heap_alloc w3 (.cells #[.int .i64 2, .int .i64 f, .int .i64 0, .slice none 0 0, .slice none 0 0] 39) _ hX3).trans HX3.out)
    have HY4 := Lib.hid (heap_alloc_new w3 (.cells #[.int .i64 2, .int .i64 f, .int .i64 0, .slice none 0 0, .slice none 0 0] 39))
    clear HC3 HG3 HX3
    go_wp2_with fail
    refine (below_any 5 (by omega) _ g a len cap hlen HC4.out B hB (HR.out.below (grown_below HG4.out hB (by omega)))).mono ?_
    rintro e w4 ⟨z, rfl, hz, hc4, hg4⟩
    obtain ⟨hz0, hz5⟩ := hz.2 (by omega)
    have HC5 := Lib.hid hc4
    have HG5 := Lib.hid (HG4.out.trans hg4)
    have HXX := Lib.hid (row_kept hg4 HX4.out (by omega))
    have HYY := Lib.hid (row_kept hg4 HY4.out (by omega))
    clear hz hc4 hg4 HC4 HG4 HX4 HY4
    have x0 : w4.cell? ⟨w.heap.size, 0, none⟩ = some (.int .i64 0) := cell_of_row w4 _ 0 _ _ (0, 0) HXX.out
    have z0 : w4.frozen? ⟨w.heap.size, 0, none⟩ = false := frozen_of_row w4 _ 0 _ _ HXX.out
    have x1 : w4.cell? ⟨w.heap.size, 1, none⟩ = some (.int .i64 0) := cell_of_row w4 _ 1 _ _ (0, 0) HXX.out
    have z1 : w4.frozen? ⟨w.heap.size, 1, none⟩ = false := frozen_of_row w4 _ 1 _ _ HXX.out
    have x2 : w4.cell? ⟨w.heap.size, 2, none⟩ = some (.int .i64 0) := cell_of_row w4 _ 2 _ _ (0, 0) HXX.out
    have z2 : w4.frozen? ⟨w.heap.size, 2, none⟩ = false := frozen_of_row w4 _ 2 _ _ HXX.out
    have x3 : w4.cell? ⟨w.heap.size, 3, none⟩ = some (.slice none 0 0) := cell_of_row w4 _ 3 _ _ (0, 0) HXX.out
    have z3 : w4.frozen? ⟨w.heap.size, 3, none⟩ = false := frozen_of_row w4 _ 3 _ _ HXX.out
    have x4 : w4.cell? ⟨w.heap.size, 4, none⟩ = some (.slice none 0 0) := cell_of_row w4 _ 4 _ _ (0, 0) HXX.out
    have z4 : w4.frozen? ⟨w.heap.size, 4, none⟩ = false := frozen_of_row w4 _ 4 _ _ HXX.out
    have y0 : w4.cell? ⟨w3.heap.size, 0, none⟩ = some (.int .i64 2) := cell_of_row w4 _ 0 _ _ (0, 0) HYY.out
    have y1 : w4.cell? ⟨w3.heap.size, 1, none⟩ = some (.int .i64 f) := cell_of_row w4 _ 1 _ _ (0, 0) HYY.out
    have y2 : w4.cell? ⟨w3.heap.size, 2, none⟩ = some (.int .i64 0) := cell_of_row w4 _ 2 _ _ (0, 0) HYY.out
    have y3 : w4.cell? ⟨w3.heap.size, 3, none⟩ = some (.slice none 0 0) := cell_of_row w4 _ 3 _ _ (0, 0) HYY.out
    have y4 : w4.cell? ⟨w3.heap.size, 4, none⟩ = some (.slice none 0 0) := cell_of_row w4 _ 4 _ _ (0, 0) HYY.out
    have u2 : w4.frozen? ⟨w3.heap.size, 2, none⟩ = false := frozen_of_row w4 _ 2 _ _ HYY.out
    go_wp2
    refine bodyPost_ret_by (results_cell_row rfl _ _ w.heap.size 39 _ (0, 0) _ rfl (five_set ((heap_setCell_other _ _ _ _ (by simp; omega)).trans HXX.out)) Tryz.underlying39 rfl (by kernel_rfl)) rfl ?_
    obtain ⟨h1, h2, h3⟩ := out_wish (t := ⟨2, f, z, none, 0, 0, [], none, 0, 0, []⟩) (Y := w3.heap.size) hgl hX3 (wr := w4.setCell ⟨w3.heap.size, 2, none⟩ (.int .i64 z)) ⟨ownI_nil _ _, OwnP.nil _ _, i64_small (n := 2) (by decide) (by decide), i64_small (n := f) (by omega) (by omega), i64_small (n := z) (by omega) (by omega), by simp, by simp⟩ (HC5.out.kept (heap_setCell_other _ _ _ _ (by simp; omega))) (grown_tail HG5.out ((Below.refl _ _).setCell (by show w.heap.size ≤ w3.heap.size; omega) _)) (.int .i64 2) (.int .i64 f) (.int .i64 z) (.slice none 0 0) (.slice none 0 0)
    exact ⟨_, rfl, h1, by simp, h2, h3⟩
  · have HC4 := Lib.hid (HC3.out.kept (Below.heap_alloc w3 (.cells #[.int .i64 3, .int .i64 f, .int .i64 0, .slice none 0 0, .slice none 0 0] 39) _ (Nat.lt_trans hgl hX3)))
    have HG4 := Lib.hid (grown_alloc HG3.out (.cells #[.int .i64 3, .int .i64 f, .int .i64 0, .slice none 0 0, .slice none 0 0] 39))
    have HX4 := Lib.hid ((Below.heap_alloc w3 (.cells #[.int .i64 3, .int .i64 f, .int .i64 0, .slice none 0 0, .slice none 0 0] 39) _ hX3).trans HX3.out)
    have HY4 := Lib.hid (heap_alloc_new w3 (.cells #[.int .i64 3, .int .i64 f, .int .i64 0, .slice none 0 0, .slice none 0 0] 39))
    clear HC3 HG3 HX3
    go_wp2_with fail
    refine (below_any 2 (by omega) _ g a len cap hlen HC4.out B hB (HR.out.below (grown_below HG4.out hB (by omega)))).mono ?_
    rintro e w4 ⟨x, rfl, hx, hc4, hg4⟩
    obtain ⟨hx0, hx2⟩ := hx.2 (by omega)
    have HC5 := Lib.hid hc4
    have HG5 := Lib.hid (HG4.out.trans hg4)
    have HX5 := Lib.hid (row_kept hg4 HX4.out (by omega))
    have HY5 := Lib.hid (row_kept hg4 HY4.out (by omega))
    clear hx hc4 hg4 HC4 HG4 HX4 HY4
    go_wp2_with fail
    refine (below_any 3 (by omega) _ g a len cap hlen HC5.out B hB (HR.out.below (grown_below HG5.out hB (by omega)))).mono ?_
    rintro e w5 ⟨m, rfl, hm, hc5, hg5⟩
    obtain ⟨hm0, hm3⟩ := hm.2 (by omega)
    obtain ⟨m, rfl⟩ := Int.eq_ofNat_of_zero_le hm0
    have HC6 := Lib.hid hc5
    have HG6 := Lib.hid (HG5.out.trans hg5)
    have HX6 := Lib.hid (row_kept hg5 HX5.out (by omega))
    have HY6 := Lib.hid (row_kept hg5 HY5.out (by omega))
    clear hm hc5 hg5 HC5 HG5 HX5 HY5
    go_wp2
    go_loopw [4, 5] (fun xv nv wr => ∃ (j : Nat) (x : Int) (LA : Option Addr) (Ln Lc : Nat) (ls : List Int), j ≤ 3 ∧ nv = .int .i64 j ∧ xv = .int .i64 x ∧ 0 ≤ x ∧ x + 2 * j ≤ 7 ∧ ls.length + j ≤ 3 ∧ wr.heap[w3.heap.size]? = some (.cells #[.int .i64 3, .int .i64 f, .int .i64 0, .slice LA Ln Lc, .slice none 0 0] 39 (0, 0)) ∧ OwnI wr (w3.heap.size + 1) (.slice LA Ln Lc) ls ∧ wr.heap[w.heap.size]? = some (.cells #[.int .i64 0, .int .i64 0, .int .i64 0, .slice none 0 0, .slice none 0 0] 39 (0, 0)) ∧ Cur wr g a len cap ∧ w.grownBy wr (some g) ∧ w3.heap.size + 1 ≤ wr.heap.size) (fun _ nv _ => (intOf nv).toNat)
    case atStart => exact ⟨m + 1, x, none, 0, 0, [], by omega, by first | rfl | (congr 1; omega), rfl, hx0, by omega, by simp; omega, HY6.out, ownI_nil _ _, HX6.out, HC6.out, HG6.out, lt_of_block HY6.out⟩
    case round =>
      clear HX6 HY6 HC6 HG6 hx0 hx2 hm0 hm3
      obtain ⟨j, x, LA, Ln, Lc, ls, hj, rfl, rfl, hx0, hx7, hls, hy, hown, hxx, hcur, hgw, hsz⟩ := hrel
      have HYY := Lib.hid hy
      have HXX := Lib.hid hxx
      have HO := Lib.hid hown
      have HCu := Lib.hid hcur
      have HG := Lib.hid hgw
      clear hy hown hxx hcur hgw
      by_cases hj0 : j = 0
      · subst hj0
        have hd : decide (((0 : Nat) : Int) > 0) = false := by simp
        have x0 : wr.cell? ⟨w.heap.size, 0, none⟩ = some (.int .i64 0) := cell_of_row wr _ 0 _ _ (0, 0) HXX.out
        have z0 : wr.frozen? ⟨w.heap.size, 0, none⟩ = false := frozen_of_row wr _ 0 _ _ HXX.out
        have x1 : wr.cell? ⟨w.heap.size, 1, none⟩ = some (.int .i64 0) := cell_of_row wr _ 1 _ _ (0, 0) HXX.out
        have z1 : wr.frozen? ⟨w.heap.size, 1, none⟩ = false := frozen_of_row wr _ 1 _ _ HXX.out
        have x2 : wr.cell? ⟨w.heap.size, 2, none⟩ = some (.int .i64 0) := cell_of_row wr _ 2 _ _ (0, 0) HXX.out
        have z2 : wr.frozen? ⟨w.heap.size, 2, none⟩ = false := frozen_of_row wr _ 2 _ _ HXX.out
        have x3 : wr.cell? ⟨w.heap.size, 3, none⟩ = some (.slice none 0 0) := cell_of_row wr _ 3 _ _ (0, 0) HXX.out
        have z3 : wr.frozen? ⟨w.heap.size, 3, none⟩ = false := frozen_of_row wr _ 3 _ _ HXX.out
        have x4 : wr.cell? ⟨w.heap.size, 4, none⟩ = some (.slice none 0 0) := cell_of_row wr _ 4 _ _ (0, 0) HXX.out
        have z4 : wr.frozen? ⟨w.heap.size, 4, none⟩ = false := frozen_of_row wr _ 4 _ _ HXX.out
        have y0 : wr.cell? ⟨w3.heap.size, 0, none⟩ = some (.int .i64 3) := cell_of_row wr _ 0 _ _ (0, 0) HYY.out
        have y1 : wr.cell? ⟨w3.heap.size, 1, none⟩ = some (.int .i64 f) := cell_of_row wr _ 1 _ _ (0, 0) HYY.out
        have y2 : wr.cell? ⟨w3.heap.size, 2, none⟩ = some (.int .i64 0) := cell_of_row wr _ 2 _ _ (0, 0) HYY.out
        have y3 : wr.cell? ⟨w3.heap.size, 3, none⟩ = some (.slice LA Ln Lc) := cell_of_row wr _ 3 _ _ (0, 0) HYY.out
        have y4 : wr.cell? ⟨w3.heap.size, 4, none⟩ = some (.slice none 0 0) := cell_of_row wr _ 4 _ _ (0, 0) HYY.out
        go_wp2
        refine bodyPost_ret_by (results_cell_row rfl _ _ w.heap.size 39 _ (0, 0) _ rfl (five_set HXX.out) Tryz.underlying39 rfl (by kernel_rfl)) rfl ?_
        obtain ⟨h1, h2, h3⟩ := out_wish (t := ⟨3, f, 0, LA, Ln, Lc, ls, none, 0, 0, []⟩) (Y := w3.heap.size + 1) hgl (by omega) (wr := wr) ⟨HO.out, OwnP.nil _ _, i64_small (n := 3) (by decide) (by decide), i64_small (n := f) (by omega) (by omega), i64_small (n := 0) (by decide) (by decide), by show ls.length ≤ 5; omega, by simp⟩ HCu.out HG.out (.int .i64 3) (.int .i64 f) (.int .i64 0) (.slice LA Ln Lc) (.slice none 0 0)
        exact ⟨_, rfl, h1, by show ls.length ≤ 4; omega, h2, h3⟩
      · have hjp : (0 : Int) < j := by omega
        have H4 : Hid ((ls.length + [x].length) * 8 ≤ 140737488355328) := Lib.hid (by simp only [List.length_cons, List.length_nil]; omega)
        have y3 : wr.cell? ⟨w3.heap.size, 3, none⟩ = some (.slice LA Ln Lc) := cell_of_row wr _ 3 _ _ (0, 0) HYY.out
        go_wp2_with (at_builtin; refine wp_appI _ (by rfl) (.tmp 30) (.tmp 32) (by rfl) (w3.heap.size + 1) _ _ (by rfl) HO.out _ [x] (by rfl) 1 1 rfl (by rfl) H4.out hsz ?_)
        intro v1 w6 hown6 hb6
        obtain ⟨LA', Ln', Lc', rfl, _⟩ := hown6.ints
        have HO6 := Lib.hid hown6
        have HY6 := Lib.hid (row_below hb6 HYY.out (by omega))
        have HX6 := Lib.hid (row_below hb6 HXX.out (by omega))
        have HC6 := Lib.hid (HCu.out.kept (hb6.block g (by omega)))
        have HG6 := Lib.hid (grown_tail HG.out (hb6.mono (by omega)))
        have hs6 := Lib.hid (Nat.le_trans hsz hb6.size)
        have y3 : w6.cell? ⟨w3.heap.size, 3, none⟩ = some (.slice LA Ln Lc) := cell_of_row w6 _ 3 _ _ (0, 0) HY6.out
        have u3 : w6.frozen? ⟨w3.heap.size, 3, none⟩ = false := frozen_of_row w6 _ 3 _ _ HY6.out
        clear hown6 hb6 HO HYY HXX HCu HG H4
        have HY7 : Hid ((w6.setCell ⟨w3.heap.size, 3, none⟩ (.slice LA' Ln' Lc')).heap[w3.heap.size]? = some (.cells #[.int .i64 3, .int .i64 f, .int .i64 0, .slice LA' Ln' Lc', .slice none 0 0] 39 (0, 0))) := Lib.hid (by have h := heap_setCell_same w6 w3.heap.size 3 _ _ (.slice LA' Ln' Lc') HY6.out; simpa using h)
        have HX7 := Lib.hid ((heap_setCell_other w6 ⟨w3.heap.size, 3, none⟩ w.heap.size (.slice LA' Ln' Lc') (by simp; omega)).trans HX6.out)
        have HC7 := Lib.hid (HC6.out.kept (heap_setCell_other w6 ⟨w3.heap.size, 3, none⟩ g (.slice LA' Ln' Lc') (by simp; omega)))
        have HG7 : Hid (w.grownBy (w6.setCell ⟨w3.heap.size, 3, none⟩ (.slice LA' Ln' Lc')) (some g)) := Lib.hid (grown_tail HG6.out ((Below.refl _ _).setCell (by show w.heap.size ≤ w3.heap.size; omega) _))
        have HO7 : Hid (OwnI (w6.setCell ⟨w3.heap.size, 3, none⟩ (.slice LA' Ln' Lc')) (w3.heap.size + 1) (.slice LA' Ln' Lc') (ls ++ [x])) := Lib.hid (ownI_blocks HO6.out fun k hk => heap_setCell_other _ _ _ _ (by have := ownI_lows HO6.out k hk; simp; omega))
        have hs7 : Hid (w3.heap.size + 1 ≤ (w6.setCell ⟨w3.heap.size, 3, none⟩ (.slice LA' Ln' Lc')).heap.size) := Lib.hid (by have := hs6.out; simp; omega)
        clear HY6 HX6 HC6 HG6 HO6 hs6
        go_wp2_with fail
        refine (below_any 2 (by omega) _ g a len cap hlen HC7.out B hB (HR.out.below (grown_below HG7.out hB (by omega)))).mono ?_
        rintro e w8 ⟨y, rfl, hyr, hc8, hg8⟩
        obtain ⟨hy0, hy2⟩ := hyr.2 (by omega)
        have HC8 := Lib.hid hc8
        have HG8 := Lib.hid (HG7.out.trans hg8)
        have HX8 := Lib.hid (row_kept hg8 HX7.out (by omega))
        have HY8 := Lib.hid (row_kept hg8 HY7.out (by omega))
        have HO8 := Lib.hid (ownI_keptg HO7.out hg8 (by omega))
        have hs8 := Lib.hid (Nat.le_trans hs7.out hg8.size)
        clear hyr hc8 hg8 y3 u3 HY7 HX7 HC7 HG7 HO7 hs7
        go_wp2
        go_roundw
        case rel => exact ⟨j - 1, x + 1 + y, LA', Ln', Lc', ls ++ [x], by omega, by first | rfl | (congr 1; omega), by first | rfl | (congr 1; omega), by omega, by omega, by simp; omega, HY8.out, HO8.out, HX8.out, HC8.out, HG8.out, hs8.out⟩
        case measure => simp [intOf]; omega
  · have HC4 := Lib.hid (HC3.out.kept (Below.heap_alloc w3 (.cells #[.int .i64 4, .int .i64 f, .int .i64 0, .slice none 0 0, .slice none 0 0] 39) _ (Nat.lt_trans hgl hX3)))
    have HG4 := Lib.hid (grown_alloc HG3.out (.cells #[.int .i64 4, .int .i64 f, .int .i64 0, .slice none 0 0, .slice none 0 0] 39))
    have HX4 := Lib.hid ((Below.heap_alloc w3 (.cells #[.int .i64 4, .int .i64 f, .int .i64 0, .slice none 0 0, .slice none 0 0] 39) _ hX3).trans HX3.out)
    have HY4 := Lib.hid (heap_alloc_new w3 (.cells #[.int .i64 4, .int .i64 f, .int .i64 0, .slice none 0 0, .slice none 0 0] 39))
    clear HC3 HG3 HX3
    go_wp2_with fail
    refine (pairs_any _ g a len cap hlen HC4.out B hB (HR.out.below (grown_below HG4.out hB (by omega)))).mono ?_
    rintro e w4 ⟨v, ps, rfl, hown, hps, hc4, hg4⟩
    obtain ⟨PA, Pn, Pc, rfl, _⟩ := hown.pairs
    have HO := Lib.hid hown
    have HC5 := Lib.hid hc4
    have HG5 := Lib.hid (HG4.out.trans hg4)
    have HXX := Lib.hid (row_kept hg4 HX4.out (by omega))
    have HYY := Lib.hid (row_kept hg4 HY4.out (by omega))
    clear hown hc4 hg4 HC4 HG4 HX4 HY4
    have x0 : w4.cell? ⟨w.heap.size, 0, none⟩ = some (.int .i64 0) := cell_of_row w4 _ 0 _ _ (0, 0) HXX.out
    have z0 : w4.frozen? ⟨w.heap.size, 0, none⟩ = false := frozen_of_row w4 _ 0 _ _ HXX.out
    have x1 : w4.cell? ⟨w.heap.size, 1, none⟩ = some (.int .i64 0) := cell_of_row w4 _ 1 _ _ (0, 0) HXX.out
    have z1 : w4.frozen? ⟨w.heap.size, 1, none⟩ = false := frozen_of_row w4 _ 1 _ _ HXX.out
    have x2 : w4.cell? ⟨w.heap.size, 2, none⟩ = some (.int .i64 0) := cell_of_row w4 _ 2 _ _ (0, 0) HXX.out
    have z2 : w4.frozen? ⟨w.heap.size, 2, none⟩ = false := frozen_of_row w4 _ 2 _ _ HXX.out
    have x3 : w4.cell? ⟨w.heap.size, 3, none⟩ = some (.slice none 0 0) := cell_of_row w4 _ 3 _ _ (0, 0) HXX.out
    have z3 : w4.frozen? ⟨w.heap.size, 3, none⟩ = false := frozen_of_row w4 _ 3 _ _ HXX.out
    have x4 : w4.cell? ⟨w.heap.size, 4, none⟩ = some (.slice none 0 0) := cell_of_row w4 _ 4 _ _ (0, 0) HXX.out
    have z4 : w4.frozen? ⟨w.heap.size, 4, none⟩ = false := frozen_of_row w4 _ 4 _ _ HXX.out
    have y0 : w4.cell? ⟨w3.heap.size, 0, none⟩ = some (.int .i64 4) := cell_of_row w4 _ 0 _ _ (0, 0) HYY.out
    have y1 : w4.cell? ⟨w3.heap.size, 1, none⟩ = some (.int .i64 f) := cell_of_row w4 _ 1 _ _ (0, 0) HYY.out
    have y2 : w4.cell? ⟨w3.heap.size, 2, none⟩ = some (.int .i64 0) := cell_of_row w4 _ 2 _ _ (0, 0) HYY.out
    have y3 : w4.cell? ⟨w3.heap.size, 3, none⟩ = some (.slice none 0 0) := cell_of_row w4 _ 3 _ _ (0, 0) HYY.out
    have y4 : w4.cell? ⟨w3.heap.size, 4, none⟩ = some (.slice none 0 0) := cell_of_row w4 _ 4 _ _ (0, 0) HYY.out
    have u4 : w4.frozen? ⟨w3.heap.size, 4, none⟩ = false := frozen_of_row w4 _ 4 _ _ HYY.out
    go_wp2
    refine bodyPost_ret_by (results_cell_row rfl _ _ w.heap.size 39 _ (0, 0) _ rfl (five_set ((heap_setCell_other _ _ _ _ (by simp; omega)).trans HXX.out)) Tryz.underlying39 rfl (by kernel_rfl)) rfl ?_
    have hO2 : OwnP (w4.setCell ⟨w3.heap.size, 4, none⟩ (.slice PA Pn Pc)) (w3.heap.size + 1) (.slice PA Pn Pc) ps := OwnP.blocks (by have := HO.out; simp at this; exact this) fun k hk => heap_setCell_other _ _ _ _ (by have := HO.out.lows k hk; simp at this; simp; omega)
    obtain ⟨h1, h2, h3⟩ := out_wish (t := ⟨4, f, 0, none, 0, 0, [], PA, Pn, Pc, ps⟩) (Y := w3.heap.size + 1) hgl (by omega) (wr := w4.setCell ⟨w3.heap.size, 4, none⟩ (.slice PA Pn Pc)) ⟨ownI_nil _ _, hO2, i64_small (n := 4) (by decide) (by decide), i64_small (n := f) (by omega) (by omega), i64_small (n := 0) (by decide) (by decide), by simp, hps⟩ (HC5.out.kept (heap_setCell_other _ _ _ _ (by simp; omega))) (grown_tail HG5.out ((Below.refl _ _).setCell (by show w.heap.size ≤ w3.heap.size; omega) _)) (.int .i64 4) (.int .i64 f) (.int .i64 0) (.slice none 0 0) (.slice PA Pn Pc)
    exact ⟨_, rfl, h1, by simp, h2, h3⟩
end Go.Proofs.YtadjoiahllekdaaGreatDoor.num
